package disk

import (
	"maps"
	"slices"
)

const longestName = 32

// table are names, each with its file.
type table map[string]*file

// change is what turns names at once: gone is of none, and name is that of to; either may be missing.
type change struct {
	gone string
	name string
	to   *file
}

func (t table) rising() []string { return slices.Sorted(maps.Keys(t)) }

func (t table) used() int {
	sum := 0
	for _, f := range t {
		sum += len(f.data)
	}
	return sum
}

func (t table) turn(c change) {
	delete(t, c.gone)
	if c.to != nil {
		t[c.name] = c.to
	}
}

// file has its kept bytes in front, and behind them the written ones.
type file struct {
	data []byte
	kept int
}

// cut keeps the first of the written bytes, as many as more, and loses the other ones.
func (f *file) cut(more int) {
	f.kept += min(max(more, 0), len(f.data)-f.kept)
	f.data = f.data[:f.kept:f.kept]
}

func isName(s string) bool {
	if len(s) < 1 || len(s) > longestName {
		return false
	}
	for i := range len(s) {
		if !mayStand(s[i]) {
			return false
		}
	}
	return true
}

func mayStand(b byte) bool {
	switch b {
	case '.', '-', '_':
		return true
	}
	return b >= 'a' && b <= 'z' || b >= '0' && b <= '9'
}
