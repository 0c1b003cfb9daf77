package datum

import (
	"iter"

	"pavane/api"
)

const (
	// mostData and mostDeep are where calls cease to look: data may hold one another without an end.
	mostData = 100000
	mostDeep = 10000

	// mostGiven and mostNested are what the document's bound lets be handed in: 2^31 - 1 bytes, of which a datum has a hundred or more, and 2^16 parts in one another, here in a list.
	mostGiven  = 20000000
	mostNested = 1<<16 + 1
)

// Walk: d, then all of its Items and Tail likewise, in order; none of data that are too many or too deep.
func Walk(d api.Datum) iter.Seq[api.Datum] {
	m, ok := measure(&d, looked())
	if !ok {
		return func(func(api.Datum) bool) {}
	}
	kept := twin(d, m.data)
	return func(yield func(api.Datum) bool) {
		for _, x := range told(&kept) {
			// Whoever is told a datum may change it: what is kept is for those told next.
			if !yield(Copy(*x)) {
				return
			}
		}
	}
}

// Size: how many data there are in d, itself too, up to 100000.
func Size(d api.Datum) int {
	// Depth counts for nothing here: nothing lies deeper than there are data.
	m, _ := measure(&d, extent{data: mostData, deep: mostData})
	return min(m.data, mostData)
}

// Depth: 1, or 1 more than the greatest of Items and Tail; 0 of data that are too many or too deep.
func Depth(d api.Datum) int {
	m, ok := measure(&d, looked())
	if !ok {
		return 0
	}
	return m.deep
}

// extent is how many data there are in one, and how deep they lie.
type extent struct {
	data, deep int
}

// looked is the most that calls look at which the chapter gives a bound.
func looked() extent {
	return extent{data: mostData, deep: mostDeep}
}

// given is the most that the others look at.
func given() extent {
	return extent{data: mostGiven, deep: mostNested}
}

// measure is d's extent; false, and as much of it as was counted, if it is beyond most. It counts data with the one that holds them, ahead of their being told: so it ceases at once where a long list is one too many.
func measure(d *api.Datum, most extent) (extent, bool) {
	m := extent{data: 1}
	for level, x := range told(d) {
		m.deep = max(m.deep, level)
		m.data += len(x.Items) + len(x.Tail)
		if m.data > most.data || m.deep > most.deep {
			return m, false
		}
	}
	return m, true
}

// told tells d, and all data in it, as they lie there, each behind the one that holds it, with how deep it lies. It need not end of itself.
func told(d *api.Datum) iter.Seq2[int, *api.Datum] {
	return func(yield func(int, *api.Datum) bool) {
		if !yield(1, d) {
			return
		}
		for rest := held(nil, d, 2); len(rest) > 0; {
			last := &rest[len(rest)-1]
			x, level := &last.data[0], last.level
			last.data = last.data[1:]
			if len(last.data) == 0 {
				rest = rest[:len(rest)-1]
			}
			if !yield(level, x) {
				return
			}
			rest = held(rest, x, level+1)
		}
	}
}

// row is a list of data, at least one, that lie as deep as each other.
type row struct {
	data  []api.Datum
	level int
}

// held puts d's lists behind rest, of which the last is told first.
func held(rest []row, d *api.Datum, level int) []row {
	if len(d.Tail) > 0 {
		rest = append(rest, row{d.Tail, level})
	}
	if len(d.Items) > 0 {
		rest = append(rest, row{d.Items, level})
	}
	return rest
}
