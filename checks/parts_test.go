package checks

import "testing"

// TestAgain: all questions are asked twice, and what is answered otherwise is told.
func TestAgain(t *testing.T) {
	asked, answered, told := 0, 0, 0
	ask := func() int { asked++; return asked }
	// Of the numbers from 1 to 9, each odd one is answered by how often it was asked about.
	often := map[int]int{}
	answers := func(q int) int {
		answered++
		often[q]++
		return often[q] * (q % 2)
	}
	Again(9, ask, answers, func(q, first, then int) {
		if told++; q%2 == 0 || first != 1 || then != 2 {
			t.Errorf("%d: first %d, then %d", q, first, then)
		}
	})
	if asked != 9 || answered != 18 || told != 5 {
		t.Error(asked, answered, told)
	}
}
