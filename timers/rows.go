package timers

import (
	"cmp"
	"container/heap"
	"maps"
	"slices"

	"waywarden/api"
	"waywarden/prefix"
)

// row is an armed timer, and when it is due.
type row struct {
	api.Timer
	due int64
}

// compare is how rows stand one behind the other. No two rows of a queue are of one timer, so none of them are equal.
func (r row) compare(other row) int {
	return cmp.Or(
		cmp.Compare(r.due, other.due),
		cmp.Compare(r.Kind, other.Kind),
		prefix.Order(r.Prefix, other.Prefix),
	)
}

// rows are the armed timers as a heap of the library, the first one at 0. Their places are kept beside: one that is cancelled, or armed anew, may stand anywhere.
type rows struct {
	list   []row
	places map[api.Timer]int
}

// Len is one of the five methods by which the library's heap works.
func (l *rows) Len() int {
	return len(l.list)
}

// Less is one of the library's five.
func (l *rows) Less(i, j int) bool {
	return l.list[i].compare(l.list[j]) < 0
}

// Swap is one of the library's five.
func (l *rows) Swap(i, j int) {
	l.list[i], l.list[j] = l.list[j], l.list[i]
	l.places[l.list[i].Timer] = i
	l.places[l.list[j].Timer] = j
}

// Push is one of the library's five: it puts a row behind the others.
func (l *rows) Push(thing any) {
	r := thing.(row)
	l.places[r.Timer] = len(l.list)
	l.list = append(l.list, r)
}

// Pop is one of the library's five: it takes the last row away.
func (l *rows) Pop() any {
	last := len(l.list) - 1
	r := l.list[last]
	l.list = l.list[:last]
	delete(l.places, r.Timer)
	return r
}

// put puts in a timer that is not there.
func (l *rows) put(t api.Timer, due int64) {
	heap.Push(l, row{t, due})
}

// due is when a timer is due, if it is there.
func (l *rows) due(t api.Timer) (int64, bool) {
	at, is := l.places[t]
	if !is {
		return 0, false
	}
	return l.list[at].due, true
}

// take takes a timer away: when it was due, if it was there.
func (l *rows) take(t api.Timer) (int64, bool) {
	at, is := l.places[t]
	if !is {
		return 0, false
	}
	return heap.Remove(l, at).(row).due, true
}

func (l *rows) copied() *rows {
	return &rows{list: slices.Clone(l.list), places: maps.Clone(l.places)}
}

// inOrder is a list of what stands in the one handed in, in order.
func inOrder[T any](l []T, compare func(T, T) int) []T {
	sorted := slices.Clone(l)
	slices.SortFunc(sorted, compare)
	return sorted
}
