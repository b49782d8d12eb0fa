package check

import "slices"

// value is what a key has; if it is not there, it is the zero value.
type value struct {
	text  string
	there bool
}

// values is what keys have; those that are not in it have nothing, too.
type values map[string]value

// old is what a key had ahead of an operation.
type old struct {
	key string
	had value
}

// do does operations as long as what they told is so, and says whether it is to the end. It tells what to undo, whether it is or not.
func (v values) do(ops []Op) ([]old, bool) {
	var was []old
	for _, o := range ops {
		now := v[o.Key]
		switch o.Kind {
		case Get:
			if now != o.told() {
				return was, false
			}
		case Put:
			was = append(was, old{o.Key, now})
			v[o.Key] = value{o.Value, true}
		case Del:
			was = append(was, old{o.Key, now})
			v[o.Key] = value{}
		}
	}
	return was, true
}

// undo gives back what keys had: the last one first, for a key may have been written more than once.
func (v values) undo(was []old) {
	for _, o := range slices.Backward(was) {
		v[o.key] = o.had
	}
}

// told is what a Get found: what stands in its Value, if it found nothing, does not matter.
func (o Op) told() value {
	if !o.Found {
		return value{}
	}
	return value{o.Value, true}
}
