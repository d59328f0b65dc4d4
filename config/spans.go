package config

import (
	"iter"

	"waywarden/api"
)

// names has the spans' names in the order in which they are told.
const names = "period jitter timeout hold garbage quiet spread"

// span is one of a configuration's.
type span struct {
	name   string
	bounds [2]int64
	of     func(look) int64
}

// table has the spans in the order of their names.
func table() []span {
	l := []span{
		{bounds: from(1), of: func(l look) int64 { return l.Period }},
		{bounds: from(0), of: func(l look) int64 { return l.Jitter }},
		{bounds: from(1), of: func(l look) int64 { return l.Timeout }},
		{bounds: from(0), of: func(l look) int64 { return l.Hold }},
		{bounds: from(1), of: func(l look) int64 { return l.Garbage }},
		{bounds: from(0), of: func(l look) int64 { return l.Quiet }},
		{bounds: from(0), of: func(l look) int64 { return l.Spread }},
	}
	for i, name := range words(names) {
		l[i].name = name
	}
	return l
}

// from are the bounds of a span that is so many ticks, or more.
func from(least int64) [2]int64 {
	return [2]int64{least, api.MaxSpan}
}

// words are a text's words: a blank stands between each two.
func words(text string) []string {
	var l []string
	first := 0
	for at, c := range text {
		if c == ' ' {
			l = append(l, text[first:at])
			first = at + 1
		}
	}
	return append(l, text[first:])
}

// spans goes over the spans, each with how many ticks it is.
func (l look) spans() iter.Seq2[span, int64] {
	return func(yield func(span, int64) bool) {
		for _, s := range table() {
			if !yield(s, s.of(l)) {
				return
			}
		}
	}
}

// Spans: P8.3.
func Spans(c api.Config) iter.Seq2[string, int64] {
	// The prefixes are none of what is told, and not kept.
	c.Own = nil
	return func(yield func(string, int64) bool) {
	spans:
		for s, n := range (look{c}).spans() {
			if !yield(s.name, n) {
				break spans
			}
		}
	}
}
