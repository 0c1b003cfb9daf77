package datum

import (
	"iter"

	"pavane/api"
)

const (
	// mostData and mostDeep are where calls cease to look: data may hold one another without an end.
	mostData = 100000
	mostDeep = 10000
)

// Walk: d, then all of its Items and Tail likewise, in order; none of data that are too many or too deep.
func Walk(d api.Datum) iter.Seq[api.Datum] {
	m := measure(&d)
	if !m.fits() {
		return func(func(api.Datum) bool) {}
	}
	kept := twin(d, m.data)
	return func(yield func(api.Datum) bool) {
		for _, x := range told(&kept) {
			// Whoever is told a datum may change it: what is kept is for those told next.
			if !yield(Copy(*x)) {
				return
			}
		}
	}
}

// Size: how many data there are in d, itself too, up to 100000.
func Size(d api.Datum) int {
	return min(measure(&d).data, mostData)
}

// Depth: 1, or 1 more than the greatest of Items and Tail; 0 of data that are too many or too deep.
func Depth(d api.Datum) int {
	m := measure(&d)
	if !m.fits() {
		return 0
	}
	return m.deep
}

// extent is how many data there are in one, and how deep they lie.
type extent struct {
	data, deep int
}

func (m extent) fits() bool {
	return m.data <= mostData && m.deep <= mostDeep
}

// measure counts data with the one that holds them, ahead of their being told: so it ceases at once where a long list is one too many.
func measure(d *api.Datum) extent {
	m := extent{data: 1}
	for level, x := range told(d) {
		m.deep = max(m.deep, level)
		m.data += len(x.Items) + len(x.Tail)
		if m.data > mostData {
			break
		}
	}
	return m
}

// told tells d, and all data in it, as they lie there, each behind the one that holds it, with how deep it lies. It need not end of itself.
func told(d *api.Datum) iter.Seq2[int, *api.Datum] {
	return func(yield func(int, *api.Datum) bool) {
		if !yield(1, d) {
			return
		}
		for rest := held(nil, d, 2); len(rest) > 0; {
			last := &rest[len(rest)-1]
			x, level := &last.data[0], last.level
			last.data = last.data[1:]
			if len(last.data) == 0 {
				rest = rest[:len(rest)-1]
			}
			if !yield(level, x) {
				return
			}
			rest = held(rest, x, level+1)
		}
	}
}

// row is a list of data, at least one, that lie as deep as each other.
type row struct {
	data  []api.Datum
	level int
}

// held puts d's lists behind rest, of which the last is told first.
func held(rest []row, d *api.Datum, level int) []row {
	if len(d.Tail) > 0 {
		rest = append(rest, row{d.Tail, level})
	}
	if len(d.Items) > 0 {
		rest = append(rest, row{d.Items, level})
	}
	return rest
}
