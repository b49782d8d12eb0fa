package mv

import (
	"slices"
	"sort"

	"chainmail/api"
)

// version is what a key is from a time on.
type version struct {
	time  int
	value string
	gone  bool
}

// made is a pair's version. The value of one that is gone is never told, so it is not kept.
func made(time int, p api.Pair) version {
	if p.Gone {
		return version{time: time, gone: true}
	}
	return version{time: time, value: p.Value}
}

// by is how many of a key's versions there are by a time, those of that time among them.
func by(l []version, at int) int {
	return sort.Search(len(l), func(i int) bool { return l[i].time > at })
}

// told is what a key's last version by a time tells.
func told(l []version, at int) (string, bool) {
	n := by(l, at)
	if n == 0 || l[n-1].gone {
		return "", false
	}
	return l[n-1].value, true
}

// left are those of a key's versions that times from low on ask for.
func left(l []version, low int) []version {
	n := by(l, low)
	if n > 0 && !l[n-1].gone {
		n--
	}
	if n == 0 {
		return l
	}
	return slices.Clone(l[n:]) // a piece of l would hold on to what is forgotten
}
