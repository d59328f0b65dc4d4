package addr

import (
	"iter"
	"strings"

	"waywarden/api"
)

// blank stands between each two addresses of a list.
const blank = " "

// Each: P1.3.
func Each(s string) iter.Seq2[int, api.Addr] {
	return func(yield func(int, api.Addr) bool) {
		at, word, rest := 0, "", s
	list:
		for more := true; more; at += len(word) + len(blank) {
			word, rest, more = strings.Cut(rest, blank)
			switch a, _, e := Parse(word); {
			case e != api.OK:
				break list
			case !yield(at, a):
				break list
			}
		}
	}
}

// Join: P1.3.
func Join(l ...api.Addr) string {
	texts := make([]string, len(l))
	for i, a := range l {
		texts[i] = Text(a)
	}
	return strings.Join(texts, blank)
}
