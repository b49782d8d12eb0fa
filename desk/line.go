package desk

import (
	"iter"
	"strconv"
	"strings"

	"chainmail/api"
)

// lines are a text's: a line feed at its end has no line behind it.
func lines(text string) iter.Seq[string] {
	return func(yield func(string) bool) {
		rest := strings.TrimSuffix(text, "\n")
		for more := true; more; {
			var line string
			line, rest, more = strings.Cut(rest, "\n")
			more = yield(line) && more
		}
	}
}

// words are a line's; all other bytes than blanks are parts of them, whatever they are.
func words(line string) []string {
	return strings.FieldsFunc(line, func(r rune) bool { return r == ' ' })
}

// number is what a word tells. What is not written as numbers are (+1, 01, -0) is of another form, too, though it could be understood.
func number(word string) int {
	n, err := strconv.Atoi(word)
	if err != nil || strconv.Itoa(n) != word {
		panic(api.ErrForm)
	}
	return n
}

// must throws what a call told to be wrong: answer catches it.
func must(err error) {
	if err != nil {
		panic(api.Tell(err))
	}
}

// wrong is how an error is answered.
func wrong(e api.Errno) string { return "error " + strconv.Itoa(int(e)) }
