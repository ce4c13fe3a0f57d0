package manifest

import (
	"strconv"
	"strings"

	"loggia/api"
)

// Names of files, and how those with numbers begin.
const (
	current  = "manifest"
	coming   = "manifest.new" // a manifest that is not turned yet
	sealed   = "seg-"
	frozen   = "ice-"
	logs     = "log-"
	digits   = 8        // how many a number in a name has
	greatest = 99999999 // the greatest of these
)

// File is the name of a partition's file; empty: it has none.
func File(p api.Part) string {
	switch p.State {
	case api.Sealed:
		return numbered(sealed, p.ID)
	case api.Frozen:
		return numbered(frozen, p.ID)
	}
	return ""
}

// Log is the name of a log's file; empty: it has none.
func Log(n int) string {
	return numbered(logs, n)
}

// LogOf is the number of a log's file; false: no log's file has the name.
func LogOf(name string) (int, bool) {
	n, _ := strconv.Atoi(strings.TrimPrefix(name, logs)) // it takes signs and any count of digits; that the name is the number's own rules out these, and its errors
	if name == "" || Log(n) != name {
		return 0, false
	}
	return n, true
}

// Orphans are those of the names that nobody needs any more, by a manifest.
func Orphans(m api.Manifest, names ...string) []string {
	needed := map[string]struct{}{}
	for _, p := range m.Parts {
		needed[File(p)] = struct{}{}
	}
	var l []string
	for _, name := range names {
		_, isNeeded := needed[name]
		isPart := strings.HasPrefix(name, sealed) || strings.HasPrefix(name, frozen)
		n, isLog := LogOf(name)
		if name == coming || isPart && !isNeeded || isLog && n < m.Log {
			l = append(l, name)
		}
	}
	return l
}

// numbered is a name with a number; empty: it may have no such one.
func numbered(begin string, n int) string {
	if !mayName(n) {
		return ""
	}
	number := strconv.Itoa(n)
	return begin + strings.Repeat("0", digits-len(number)) + number
}

// mayName tells whether a number may stand in a name.
func mayName(n int) bool {
	return n >= 1 && n <= greatest
}
