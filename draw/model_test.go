package draw

import (
	"math"
	"math/big"
	"math/rand"
	"testing"
)

// isNone tells of a number's bits whether it is none.
func isNone(x float64) bool { return math.Float64bits(x)&^(1<<63) > 0x7FF<<52 }

// isBelow tells of a number's bits whether it is minus 0, or below.
func isBelow(x float64) bool { return math.Float64bits(x)>>63 == 1 }

// isAbove tells of a number that has no sign whether it is above another one, by their bits, which rise as they do.
func isAbove(x, y float64) bool { return math.Float64bits(x) > math.Float64bits(y) }

// chanceByWords is what a chance stands for.
func chanceByWords(p float64) float64 {
	if isNone(p) || isBelow(p) {
		return 0
	}
	if isAbove(p, 1) {
		return 1
	}
	return p
}

// drawByWords is what a draw stands for.
func drawByWords(d float64) float64 {
	if isNone(d) || isBelow(d) {
		return 0
	}
	if d == 1 || isAbove(d, 1) {
		return math.Float64frombits(math.Float64bits(1) - 1)
	}
	return d
}

// weightByWords is what a weight stands for.
func weightByWords(w float64) float64 {
	if isNone(w) || isBelow(w) {
		return 0
	}
	if math.Float64bits(w) == 0x7FF<<52 {
		return math.Ldexp(1, 900)
	}
	return w
}

// exactly is a number that is not infinite, as it is.
func exactly(x float64) *big.Rat { return new(big.Rat).SetFloat64(x) }

// rounded is the float64 that is nearest to a number; one that is too great is infinite.
func rounded(x *big.Rat) float64 {
	f, _ := x.Float64()
	return f
}

// plus are two numbers from 0 on, added, and then rounded.
func plus(x, y float64) float64 {
	if math.IsInf(x, 1) || math.IsInf(y, 1) {
		return math.Inf(1)
	}
	return rounded(new(big.Rat).Add(exactly(x), exactly(y)))
}

// times is a number from 0 on, and not infinite, times another one from 0 on, rounded then; of 0 and what is infinite it is no number.
func times(x, y float64) float64 {
	switch {
	case math.IsInf(y, 1) && x == 0:
		return math.NaN()
	case math.IsInf(y, 1):
		return y
	}
	return rounded(new(big.Rat).Mul(exactly(x), exactly(y)))
}

// pickByWords is what is picked.
func pickByWords(d float64, weights []float64) int {
	sums, last := []float64{0}, -1
	for i, w := range weights {
		w = weightByWords(w)
		sums = append(sums, plus(sums[i], w))
		if w != 0 {
			last = i
		}
	}
	all := sums[len(weights)]
	if all == 0 {
		return -1
	}
	product := times(drawByWords(d), all)
	for i := range weights {
		if product < sums[i+1] {
			return i
		}
	}
	return last
}

// delayByWords is a delay.
func delayByWords(mean float64, most int, d float64) int {
	if most < 1 || isNone(mean) || isBelow(mean) || mean == 0 {
		return 0
	}
	span := rounded(new(big.Rat).SetInt64(int64(most)))
	if twice := times(2, mean); !isAbove(twice, span) {
		span = twice
	}
	product := exactly(times(drawByWords(d), span))
	whole := new(big.Int).Quo(product.Num(), product.Denom())
	whole.Add(whole, big.NewInt(1))
	if whole.Cmp(big.NewInt(int64(most))) > 0 {
		return most
	}
	return int(whole.Int64())
}

// mixByWords is what two chances are, mixed.
func mixByWords(a, b, share float64) float64 {
	share = chanceByWords(share)
	less := rounded(new(big.Rat).Sub(exactly(1), exactly(share)))
	return plus(times(chanceByWords(a), less), times(chanceByWords(b), share))
}

// anyNumber is a number by chance: of any bits, at an edge, near one, or of an ordinary size.
func anyNumber(chance *rand.Rand) float64 {
	list := edges()
	edge := list[chance.Intn(len(list))]
	switch chance.Intn(8) {
	case 0:
		return math.Float64frombits(chance.Uint64())
	case 1:
		return edge
	case 2:
		return math.Nextafter(edge, []float64{math.Inf(1), math.Inf(-1)}[chance.Intn(2)])
	case 3:
		return float64(chance.Intn(1000))
	case 4:
		return chance.Float64() * float64(chance.Intn(100000))
	case 5:
		return float64(chance.Intn(101)) / 100
	}
	return chance.Float64()
}

// P18.1, P18.2, P18.7: by chance: what a chance and a draw stand for, also twice; bits; and whether one hits.
func TestNumbersByChance(t *testing.T) {
	chance := rand.New(rand.NewSource(1800))
	hits, same := map[bool]int{}, map[bool]int{}
	for range 50000 {
		x, y := anyNumber(chance), anyNumber(chance)
		if chance.Intn(8) == 0 {
			y = math.Copysign(x, y)
		}
		if got := Chance(x); !is(got, chanceByWords(x)) || !Same(Chance(got), got) {
			t.Fatalf("Chance(%x) = %x", math.Float64bits(x), got)
		}
		if got := Draw(x); !is(got, drawByWords(x)) || !Same(Draw(got), got) {
			t.Fatalf("Draw(%x) = %x", math.Float64bits(x), got)
		}
		bits := math.Float64bits(x)
		if isNone(x) {
			bits = 0x7FF8<<48 | 1
		}
		if got := Bits(x); got != bits {
			t.Fatalf("Bits(%x) = %x, not %x", math.Float64bits(x), got, bits)
		}
		want := isNone(x) && isNone(y) || is(x, y)
		if got := Same(x, y); got != want {
			t.Fatalf("Same(%x, %x) = %t", math.Float64bits(x), math.Float64bits(y), got)
		}
		same[want]++
		want = isAbove(chanceByWords(x), drawByWords(y))
		if got := Hit(x, y); got != want {
			t.Fatalf("Hit(%x, %x) = %t", math.Float64bits(x), math.Float64bits(y), got)
		}
		hits[want]++
	}
	if hits[true] < 10000 || hits[false] < 10000 || same[true] < 2000 {
		t.Error(hits, same)
	}
}

// anyWeights are weights by chance, many of them 0, or of one kind.
func anyWeights(chance *rand.Rand) []float64 {
	var list []float64
	kind := chance.Intn(5)
	for range chance.Intn(12) {
		w := anyNumber(chance)
		switch {
		case chance.Intn(4) == 0:
			w = belows()[chance.Intn(len(belows()))]
		case kind == 0:
			w = float64(chance.Intn(5))
		case kind == 1:
			w = float64(chance.Intn(101)) / 100
		case kind == 2:
			w = least * float64(chance.Intn(9))
		case kind == 3:
			w = math.Ldexp(chance.Float64(), 1018+chance.Intn(7))
		}
		list = append(list, w)
	}
	return list
}

// anyDraw is a draw by chance, many of them just at a weight's sum.
func anyDraw(chance *rand.Rand, weights []float64) float64 {
	if len(weights) == 0 || chance.Intn(2) == 0 {
		return anyNumber(chance)
	}
	at := total(weights[:chance.Intn(len(weights)+1)]...) / total(weights...)
	switch chance.Intn(3) {
	case 0:
		return math.Nextafter(at, 0)
	case 1:
		return math.Nextafter(at, 1)
	}
	return at
}

// P18.2, P18.5: what is picked, by chance; it has a weight above 0.
func TestPickByChance(t *testing.T) {
	chance := rand.New(rand.NewSource(1801))
	told := map[string]int{}
	for range 50000 {
		weights := anyWeights(chance)
		d := anyDraw(chance, weights)
		got, want := Pick(d, weights...), pickByWords(d, weights)
		if got != want || got >= 0 && !(weights[got] > 0) {
			t.Fatalf("Pick(%x, %x) = %d, not %d", d, weights, got, want)
		}
		all := total(weights...)
		switch product := times(drawByWords(d), all); {
		case got < 0:
			told["none"]++
		case math.IsInf(all, 1):
			told["infinite"]++
		case product == all:
			told["passed by none"]++
		case got == 0:
			told["the first one"]++
		case total(weights[:got]...) == product:
			told["just a sum"]++
		default:
			told["another one"]++
		}
	}
	for _, k := range []string{"none", "infinite", "passed by none", "the first one", "just a sum", "another one"} {
		if told[k] < 250 {
			t.Errorf("%s: only %d", k, told[k])
		}
	}
}

// anyMost is a most by chance, from 1 on but for some.
func anyMost(chance *rand.Rand) int {
	switch chance.Intn(8) {
	case 0:
		return -chance.Intn(3)
	case 1:
		return math.MaxInt - chance.Intn(3000)
	case 2:
		return int(chance.Uint64() >> chance.Intn(64))
	case 3:
		return 1<<(50+chance.Intn(12)) + chance.Intn(200) - 100
	}
	return 1 + chance.Intn([]int{3, 20, 60000}[chance.Intn(3)])
}

// P18.3, P18.6: delays by chance; they are from 0 to most.
func TestDelayByChance(t *testing.T) {
	chance := rand.New(rand.NewSource(1802))
	told := map[string]int{}
	for range 50000 {
		most, d := anyMost(chance), anyNumber(chance)
		mean := anyNumber(chance)
		if chance.Intn(3) == 0 {
			mean = float64(most) / 2 * []float64{1, 1, 0.5, 2, 1 + 0x1p-52, 1 - 0x1p-53}[chance.Intn(6)]
		}
		got, want := Delay(mean, most, d), delayByWords(mean, most, d)
		if got != want || got < 0 || got > max(most, 0) {
			t.Fatalf("Delay(%x, %d, %x) = %d, not %d", mean, most, d, got, want)
		}
		switch {
		case got == 0:
			told["none"]++
		case most == 1:
			told["1 at most"]++
		case got == most:
			told["most"]++
		case got == 1:
			told["1"]++
		case 2*mean > float64(most):
			told["of most"]++
		default:
			told["of the mean"]++
		}
	}
	for _, k := range []string{"none", "1 at most", "most", "1", "of most", "of the mean"} {
		if told[k] < 250 {
			t.Errorf("%s: only %d", k, told[k])
		}
	}
}

// P18.3: chances mixed by chance.
func TestMixByChance(t *testing.T) {
	chance := rand.New(rand.NewSource(1803))
	told := map[string]int{}
	for range 50000 {
		a, b, share := anyNumber(chance), anyNumber(chance), anyNumber(chance)
		got, want := Mix(a, b, share), mixByWords(a, b, share)
		if !is(got, want) {
			t.Fatalf("Mix(%x, %x, %x) = %x, not %x", a, b, share, got, want)
		}
		x, y, s := Chance(a), Chance(b), Chance(share)
		switch {
		case got == 0:
			told["0"]++
		case got == 1:
			told["1"]++
		case s == 0 || s == 1:
			told["one of both"]++
		case math.FMA(x, 1-s, y*s) != got || math.FMA(y, s, x*(1-s)) != got:
			told["unrounded otherwise"]++
		default:
			told["of both"]++
		}
	}
	for _, k := range []string{"0", "1", "one of both", "unrounded otherwise", "of both"} {
		if told[k] < 250 {
			t.Errorf("%s: only %d", k, told[k])
		}
	}
}
