package tests

import (
	"slices"
	"testing"
)

// spareMark stands in the spare room behind a list that is handed in; no
// chapter asks for it as an answer.
const spareMark = -77

// withSpareRoom is a copy of list with room behind it, and a check that neither
// the list nor that room was written to.
func withSpareRoom(t *testing.T, list []int64) ([]int64, func(what string)) {
	t.Helper()
	whole := slices.Clone(list)
	for range 16 {
		whole = append(whole, spareMark)
	}
	before := slices.Clone(whole)
	check := func(what string) {
		t.Helper()
		if !slices.Equal(whole, before) {
			t.Errorf("%s: an argument or the room behind it was written to", what)
		}
	}
	return whole[:len(list)], check
}

// overwrite writes to all of an answer and to the room behind it, so that
// memory it shares is seen to change.
func overwrite(list []int64) {
	list = list[:cap(list)]
	for i := range list {
		list[i] = spareMark - 1
	}
}

// numbers tells the same numbers in each run.
type numbers uint64

func (n *numbers) below(limit int) int {
	*n = *n*6364136223846793005 + 1442695040888963407
	return int(uint64(*n)>>33) % limit
}

func (n *numbers) bits(count int) []int64 {
	list := make([]int64, count)
	for i := range list {
		list[i] = int64(n.below(2))
	}
	return list
}

func (n *numbers) text(count int) string {
	text := make([]byte, count)
	for i := range text {
		text[i] = byte(n.below(256))
	}
	return string(text)
}

// changed is a copy of list with value at that place.
func changed(list []int64, at int, value int64) []int64 {
	list = slices.Clone(list)
	list[at] = value
	return list
}

// neverPanics fails the test, naming what was called, where call panics.
func neverPanics(t *testing.T, what string, call func()) {
	t.Helper()
	defer func() {
		t.Helper()
		if r := recover(); r != nil {
			t.Errorf("%s panics: %v", what, r)
		}
	}()
	call()
}
