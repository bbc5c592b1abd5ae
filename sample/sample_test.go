package sample_test

import (
	"slices"
	"testing"

	"moraine/sample"
)

func TestRows(t *testing.T) {
	want := []string{"", "a", "bc", "aa", "abc", "bca", "bcbc"}
	if got := slices.Collect(sample.Rows(2, "a", "bc")); !slices.Equal(got, want) {
		t.Errorf("%q", got)
	}
	for s := range sample.Rows(2, "a", "bc") {
		if s == "aa" {
			break
		}
	}
	if got := slices.Collect(sample.Rows(0, "a")); !slices.Equal(got, []string{""}) {
		t.Errorf("%q", got)
	}
}
