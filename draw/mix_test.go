package draw

import (
	"go/ast"
	"go/parser"
	"go/token"
	"math"
	"testing"
)

// mixing is what is mixed, and what it is then.
type mixing struct{ a, b, share, want float64 }

// mixes holds what is mixed.
func mixes(t *testing.T, list []mixing) {
	t.Helper()
	for _, c := range list {
		if got := Mix(c.a, c.b, c.share); !is(got, c.want) {
			t.Errorf("Mix(%x, %x, %x) = %v, not %v", c.a, c.b, c.share, got, c.want)
		}
	}
}

// P18.3: a share of 0 leaves the first chance alone, one of 1 the second; one of one half has a half of each.
func TestMix(t *testing.T) {
	none, up, down := math.NaN(), math.Inf(1), math.Inf(-1)
	mixes(t, []mixing{
		{0.25, 0.75, 0, 0.25}, {0.25, 0.75, 1, 0.75}, {0.25, 0.75, 0.5, 0.5}, {0.25, 0.75, 0.25, 0.375}, {0.75, 0.25, 0.25, 0.625}, {0.25, 0.25, 0.5, 0.25},
		// Shares that stand for others.
		{0.25, 0.75, none, 0.25}, {0.25, 0.75, minus, 0.25}, {0.25, 0.75, -1, 0.25}, {0.25, 0.75, down, 0.25}, {0.25, 0.75, 2, 0.75}, {0.25, 0.75, up, 0.75},
		// Chances of 0 and of 1, and what stands for these.
		{0, 0, 0.5, 0}, {1, 1, 0.5, 1}, {0, 1, 0.5, 0.5}, {1, 0, 0.5, 0.5}, {0, 1, 0.25, 0.25}, {1, 0, 0.25, 0.75}, {0, 1, 0, 0}, {0, 1, 1, 1}, {1, 0, 0, 1}, {1, 0, 1, 0},
		{none, 1, 0.25, 0.25}, {1, none, 0.25, 0.75}, {none, none, 0.5, 0}, {up, 0, 0.25, 0.75}, {0, up, 0.25, 0.25}, {up, up, 0.5, 1}, {down, up, 0.25, 0.25}, {up, down, 0.25, 0.75}, {5, -5, 0.5, 0.5},
		{none, up, none, 0}, {up, none, none, 1}, {none, up, up, 1}, {up, none, up, 0}, {up, up, up, 1},
	})
}

// P18.3, R2: whatever is mixed by a share of 0 or 1, or of chances of 0, is plus 0, 1, or a chance itself.
func TestMixOfTheEdges(t *testing.T) {
	for _, a := range edges() {
		for _, b := range edges() {
			for _, none := range belows() {
				mixes(t, []mixing{{a, b, none, Chance(a)}, {none, none, b, 0}, {none, b, 1, Chance(b)}})
			}
			for _, all := range aboves() {
				mixes(t, []mixing{{a, b, all, Chance(b)}, {a, all, 1, 1}, {all, b, 0, 1}})
			}
		}
	}
}

// P18.3: each step is rounded by itself, in the chapter's order.
func TestMixRounds(t *testing.T) {
	for _, c := range []mixing{
		{0.1, 0.2, 0.05, 0.10500000000000001}, {0.1, 0.2, 0.3333333333333333, 0.13333333333333336}, {0.1, 0.1, 0.3333333333333333, 0.1}, {0.1, 0.3, 0.9, 0.28}, {0.1, 0.3, 0.3, 0.15999999999999998},
		{0.1, 0.1, 0.2, 0.10000000000000002}, {0.1, 0.1, 0.3, 0.09999999999999999}, {0.1, 0.2, 0.7, 0.16999999999999998}, {0.1, 0.2, 0.9, 0.19000000000000003}, {0.1, 0.2, 0.1, 0.11000000000000001},
		// Half of the least number is rounded to 0, and half of three of it to two.
		{least, least, 0.5, 0}, {least, 0, 0.5, 0}, {least, least, 0.25, least}, {3 * least, 0, 0.5, 2 * least}, {3 * least, 3 * least, 0.5, 4 * least},
		// 1 less a share that is small enough is 1.
		{1, 1, 0x1p-54, 1}, {1, 0, 0x1p-54, 1}, {1, 0, 0x1.0000000000001p-54, greatest}, {greatest, 0, 0x1p-54, greatest}, {1, 0, least, 1},
	} {
		mixes(t, []mixing{c})
	}
}

// P18.3: of the inputs at which steps are rounded otherwise, some tell each other order of reckoning, and each product that is added unrounded.
func TestMixIsInOrder(t *testing.T) {
	others := []func(a, b, s float64) float64{
		func(a, b, s float64) float64 { return math.FMA(a, 1-s, float64(b*s)) },
		func(a, b, s float64) float64 { return math.FMA(b, s, float64(a*float64(1-s))) },
		func(a, b, s float64) float64 { return math.FMA(-a, s, a) + float64(b*s) },
		func(a, b, s float64) float64 { return math.FMA(b-a, s, a) },
		func(a, b, s float64) float64 { return a + float64(float64(b-a)*s) },
		func(a, b, s float64) float64 { return b - float64(float64(b-a)*float64(1-s)) },
		func(a, b, s float64) float64 { return float64(a-float64(a*s)) + float64(b*s) },
		func(a, b, s float64) float64 { return a + float64(float64(b*s)-float64(a*s)) },
		func(a, b, s float64) float64 { return float64(a+float64(b*s)) - float64(a*s) },
	}
	tenths := []float64{0.05, 0.1, 0.2, 0.3, 1.0 / 3, 0.4, 0.5, 0.6, 0.7, 0.8, 0.9}
	told := make([]int, len(others))
	for _, a := range tenths {
		for _, b := range tenths {
			for _, share := range tenths {
				want := mixByWords(a, b, share)
				mixes(t, []mixing{{a, b, share, want}})
				for i, other := range others {
					if other(a, b, share) != want {
						told[i]++
					}
				}
			}
		}
	}
	for i, n := range told {
		if n < 50 {
			t.Errorf("%d is told %d times", i, n)
		}
	}
}

// isProduct tells whether an expression is a product that nothing rounds.
func isProduct(e ast.Expr) bool {
	x, ok := ast.Unparen(e).(*ast.BinaryExpr)
	return ok && x.Op == token.MUL
}

// P18.3: no product is added as it is: where a machine would add it unrounded these tests may never run.
func TestNoProductIsAddedUnrounded(t *testing.T) {
	places := token.NewFileSet()
	file, err := parser.ParseFile(places, "draw.go", nil, 0)
	if err != nil {
		t.Fatal(err)
	}
	ast.Inspect(file, func(n ast.Node) bool {
		x, ok := n.(*ast.BinaryExpr)
		if ok && (x.Op == token.ADD || x.Op == token.SUB) && (isProduct(x.X) || isProduct(x.Y)) {
			t.Error(places.Position(x.Pos()))
		}
		return true
	})
}
