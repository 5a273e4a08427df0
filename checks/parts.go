// Package checks holds the project as a whole to the document, by its tests; and it makes what the layers' tests have in common.
package checks

import (
	"slices"
	"strconv"
	"strings"
)

// With is something of which something is turned.
func With[T any](v T, turns ...func(v *T)) T {
	for _, turn := range turns {
		turn(&v)
	}
	return v
}

// Again asks n questions one after the other, and then all of them again, the last one first; it tells which are answered otherwise then.
func Again[Q any, A comparable](n int, ask func() Q, answers func(q Q) A, otherwise func(q Q, first, then A)) {
	var asked []Q
	var told []A
	for range n {
		q := ask()
		asked = append(asked, q)
		told = append(told, answers(q))
	}
	for i, q := range slices.Backward(asked) {
		if then := answers(q); then != told[i] {
			otherwise(q, told[i], then)
		}
	}
}

// Bytes are n bytes by chance: chance(m) is a number from 0 on, less than m.
func Bytes(chance func(m int) int, n int) []byte {
	b := make([]byte, n)
	for i := range b {
		b[i] = byte(chance(256))
	}
	return b
}

// Cut are bytes in parts by chance, some of which are nil, and some empty.
func Cut(chance func(m int) int, b []byte) [][]byte {
	var parts [][]byte
	for len(b) > 0 {
		switch chance(8) {
		case 0:
			parts = append(parts, nil)
		case 1:
			parts = append(parts, []byte{})
		}
		n := 1 + chance(min(len(b), 1+chance(150)))
		parts = append(parts, b[:n])
		b = b[n:]
	}
	return parts
}

// Single are bytes in parts of one each.
func Single(b []byte) [][]byte {
	var parts [][]byte
	for i := range b {
		parts = append(parts, b[i:i+1])
	}
	return parts
}

// Guarded are bytes that have others ahead of them and behind them in one list, and that list.
func Guarded(b []byte) (inside, all []byte) {
	all = slices.Concat([]byte{1, 2, 3}, b, []byte{4, 5, 6, 7})
	return all[3 : 3+len(b)], all
}

// Rising are n bytes from 0 on.
func Rising(n int) []byte {
	b := make([]byte, n)
	for i := range b {
		b[i] = byte(i)
	}
	return b
}

// Big are numbers as bytes, size of each, with its highest byte first.
func Big(size int, numbers ...uint32) []byte {
	var b []byte
	for _, n := range numbers {
		for at := size; at > 0; at-- {
			b = append(b, byte(n>>(8*(at-1))))
		}
	}
	return b
}

// Unhex are the bytes of hex digits, with blanks between. It panics at a text of others: a test that spells its bytes wrong holds nothing.
func Unhex(text string) []byte {
	text = strings.ReplaceAll(text, " ", "")
	var b []byte
	for at := 0; at < len(text); at += 2 {
		n, err := strconv.ParseUint(text[at:at+2], 16, 8)
		if err != nil {
			panic(err)
		}
		b = append(b, byte(n))
	}
	return b
}

// Sum is the sum of bytes that layer 3 tells, by their rest modulo 2^16 - 1.
func Sum(b []byte) uint16 {
	total := 0
	for i, c := range b {
		total += int(c) << (8 * (1 - i%2))
	}
	if total == 0 {
		return 0
	}
	return uint16((total-1)%65535 + 1)
}
