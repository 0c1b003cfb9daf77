package reader

import (
	"strings"
	"testing"

	"pavane/api"
)

const mixedText = `(a (1 -4294967296 . 5) #;(b) "c\n" |d e| '(x . (y z)) [#t ()] . "end") (a b c d e) 7`

// spoil puts something else into every list of d, and into the room behind its end.
func spoil(d *api.Datum) {
	for i := range d.Items {
		spoil(&d.Items[i])
	}
	for i := range d.Tail {
		spoil(&d.Tail[i])
	}
	room := d.I.L[:cap(d.I.L)]
	for i := range room {
		room[i] = 0xdecade
	}
	fill(d.Items)
	fill(d.Tail)
}

func fill(l []api.Datum) {
	room := l[:cap(l)]
	for i := range room {
		room[i] = api.Datum{Kind: -1, S: "spoilt"}
	}
}

// lists are all lists of data in d.
func lists(d *api.Datum) []*[]api.Datum {
	out := []*[]api.Datum{&d.Items, &d.Tail}
	for i := range d.Items {
		out = append(out, lists(&d.Items[i])...)
	}
	for i := range d.Tail {
		out = append(out, lists(&d.Tail[i])...)
	}
	return out
}

func TestAnswersAreNew(t *testing.T) {
	first, n, _ := Read(mixedText, 0)
	want, _, _ := Read(mixedText, 0)
	spoil(&first)
	again, m, err := Read(mixedText, 0)
	if n != m || err != api.OK || !exactly(again, want) {
		t.Errorf("Read answers %s when its last answer was changed, want %s", told(again), told(want))
	}

	data, _, _ := All(mixedText)
	for i := range data {
		spoil(&data[i])
	}
	fill(data)
	data, n, err = All(mixedText)
	if err != api.OK || n != len(mixedText) || len(data) != 3 || !exactly(data[0], want) {
		t.Errorf("All answers %d data, %d, %v when its last answer was changed", len(data), n, err)
	}
}

// What is appended to one list of an answer is seen in no other one.
func TestListsShareNothing(t *testing.T) {
	d, _, _ := Read(mixedText, 0)
	want, _, _ := Read(mixedText, 0)
	for _, l := range lists(&d) {
		_ = append(*l, sym("more"), sym("more"))
		room := (*l)[:cap(*l)]
		for i := len(*l); i < len(room); i++ {
			room[i] = sym("room")
		}
		if !exactly(d, want) {
			t.Fatalf("what stands behind a list's end is in another: %s", told(d))
		}
	}
	data, _, _ := All(mixedText)
	spoil(&data[0])
	fill(data[0].Items)
	others, _, _ := All(mixedText)
	for i := 1; i < len(data); i++ {
		if !exactly(data[i], others[i]) {
			t.Errorf("datum %d of All is changed with the first one", i)
		}
	}
}

// A text that lies in another one is read as one by itself, and what was asked ahead counts for nothing.
func TestAnswersHangOnArguments(t *testing.T) {
	around := "((" + mixedText + "))"
	part := around[2 : len(around)-2]
	want, end, _ := Read(mixedText, 0)
	for range 3 {
		checkRead(t, part, 0, want, end)
		checkWrong(t, part+strings.Repeat(" (", deepest), len(part), api.ErrRead, len(part)+2*deepest)
		checkSkip(t, "#| "+part, 0, 0, api.ErrRead)
		checkRead(t, around, 2, want, end+2)
	}
	if around != "(("+mixedText+"))" {
		t.Errorf("the text is changed: %q", around)
	}
}
