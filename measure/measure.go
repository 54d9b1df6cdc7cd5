// Package measure makes a number of it.
package measure

import (
	"bootstair/api"
)

const (
	byteStep = 257  // what a measure is taken times for one more byte
	rowStep  = 7919 // and for one more measure
)

// Of a text.
func Of(text string) (int, error) {
	if len(text) > api.MaxText {
		return 0, api.ErrFull
	}
	m := 1
	for i := range len(text) { // by index: a text is bytes, not runes
		m = step(m, byteStep, int(text[i]))
	}
	return m, nil
}

// Two measures.
func Two(a, b int) (int, error) {
	if !Is(a) || !Is(b) {
		return 0, api.ErrRange
	}
	return step(a, rowStep, b), nil
}

// All of them.
func All(l []int) (int, error) { return row(l...) }

// row takes as many numbers as one likes, and tells itself when they are too many.
func row(numbers ...int) (int, error) {
	if len(numbers) > api.MaxDone {
		return 0, api.ErrFull
	}
	m := 0
	for _, n := range numbers {
		next, err := Two(m, n)
		if err != nil {
			return 0, err
		}
		m = next
	}
	return m, nil
}

// step adds 1 so that a nought that is added is told from nothing added.
func step(m, times, n int) int { return (times*m + n + 1) % api.Modulo }

// Is it a measure? Exported, as other layers bound their numbers by it.
func Is(n int) bool { return n >= 0 && n < api.Modulo }
