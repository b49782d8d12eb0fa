package desk

import (
	"slices"
	"strconv"
	"strings"
	"testing"

	"chainmail/api"
)

// says checks what a text is answered, line by line.
func says(t *testing.T, text string, want ...string) {
	t.Helper()
	if got := Session(text); got != strings.Join(want, "\n")+"\n" {
		t.Errorf("%.200q: %.300q, want %.300q", text, got, want)
	}
}

// talk checks that each line is answered by what stands behind " => ", however many lines come behind it.
func talk(t *testing.T, pairs ...string) {
	t.Helper()
	var text, want string
	for _, p := range pairs {
		line, answer, ok := strings.Cut(p, " => ")
		if !ok {
			t.Fatalf("%q has no answer", p)
		}
		text += line + "\n"
		want += answer + "\n"
		if got := Session(text); got != want {
			t.Fatalf("%q: %q, want %q", text, got, want)
		}
	}
}

// times is a line so many times.
func times(line string, many int) []string { return slices.Repeat([]string{line}, many) }

// 8.1: a text is cut at line feeds; one at its end is left out.
func TestLines(t *testing.T) {
	says(t, "", "ok")
	says(t, "\n", "ok")
	says(t, "\n\n", "ok", "ok")
	says(t, "\n\n\n", "ok", "ok", "ok")
	says(t, "begin", "1")
	says(t, "begin\n", "1")
	says(t, "begin\n\n", "1", "ok")
	says(t, "\nbegin", "ok", "1")
	says(t, "begin\nbegin", "1", "2")
	says(t, "begin\n\nbegin\n", "1", "ok", "2")
	says(t, "begin\n ", "1", "ok")
	says(t, "begin\r\nbegin\r", "error 3", "error 3")
	says(t, "begin\n\rbegin", "1", "error 3")
}

// 8.1: a text of MaxText bytes is answered, one of more is not, whatever it has.
func TestLongTexts(t *testing.T) {
	says(t, strings.Repeat("\n", api.MaxText), times("ok", api.MaxText)...)
	says(t, strings.Repeat("begin\n", 3)+strings.Repeat(" ", api.MaxText-18), "1", "2", "3", "ok")
	says(t, strings.Repeat("x", api.MaxText), "error 3")
	for _, text := range []string{
		strings.Repeat("\n", api.MaxText+1),
		strings.Repeat("x", api.MaxText+1),
		"begin\n" + strings.Repeat(" ", api.MaxText-5),
		strings.Repeat("begin\n", api.MaxText),
		strings.Repeat("\u00e4", api.MaxText/2) + "a",
	} {
		says(t, text, "error 4")
	}
	// Bytes are counted, not runes.
	says(t, strings.Repeat("\u00e4", api.MaxText/2), "error 3")
}

// 8.1: words have blanks between, several too, and at both ends; nothing else is a blank.
func TestBlanks(t *testing.T) {
	for _, line := range []string{"", " ", "  ", strings.Repeat(" ", 1000)} {
		says(t, line+"\nbegin", "ok", "1")
	}
	says(t, "  begin   \n put  1    a x\n   get 1 a ", "1", "put", "is x")
	for _, other := range []string{"\t", "\r", "\v", "\f", "\x00", "\u0085", "\u00a0", "\u2003", "\u3000", "\xff", "\xa0", ","} {
		says(t, other, "error 3")
		says(t, "begin"+other, "error 3")
		says(t, other+"begin", "error 3")
		says(t, "begin\nput 1"+other+"a x", "1", "error 3")
		says(t, "begin\nput 1 a"+other+"b x", "1", "put")
		says(t, "begin\nput 1 a "+other+"\nget 1 a", "1", "put", "is "+other)
	}
	// A blank ends a rune that is not whole.
	says(t, "begin\nput 1 \xe2 \xe2\x80\nget 1 \xe2", "1", "put", "is \xe2\x80")
}

// behind are the first words, with how many words stand behind them.
func behind() map[string]int {
	return map[string]int{
		"new": 2, "begin": 0, "get": 2, "put": 3, "del": 2, "end": 1, "drop": 1, "state": 1,
		"deliver": 1, "lose": 1, "twice": 1, "tick": 0, "calm": 0, "fail": 1, "fix": 0,
		"shard": 1, "alive": 0, "help": 0,
	}
}

// 8.1: ErrForm, unless just so many words stand behind the first one, whatever they are; and nothing is done then.
func TestHowManyWords(t *testing.T) {
	for first, n := range behind() {
		for k := range 6 {
			for _, word := range []string{"1", "0", "x", "-1"} {
				line := first + strings.Repeat(" "+word, k)
				refused := Session(line) == "error 3\n"
				if k != n && !refused {
					t.Errorf("%q: %q, want error 3", line, Session(line))
				}
				if k == n && word == "1" && refused {
					t.Errorf("%q is refused", line)
				}
				if k != n {
					says(t, "begin\n"+line+"\nstate 1\nbegin", "1", "error 3", "open", "2")
				}
			}
		}
	}
}

// 8.1: ErrForm, unless the first word is one of those that are told.
func TestUnknownWords(t *testing.T) {
	for _, word := range []string{
		"x", "Begin", "BEGIN", "begi", "beginn", "be", "gin", "ok", "error", "none", "many", "logs", "1", "-", "0",
		"quit", "abort", "commit", "\"begin\"", "begin;", "#", "//", "\x00", "\xff", "\u00e4", "open", "is", "true",
	} {
		for k := range 4 {
			says(t, word+strings.Repeat(" 1", k)+"\nbegin", "error 3", "1")
		}
	}
}

// notNumbers are words that are no numbers.
func notNumbers() []string {
	return []string{
		"x", "a", "-", "--1", "+1", "+0", "-0", "00", "01", "-01", "001", "1.0", "1e1", "0x1", "0b1", "0o1", "1_0", "1x", "x1",
		"1-", "-x", "1,", "'1'", "\u0661", "\uff11", "\xff", "1\xff", "1\t", "\x00", "inf", "NaN",
		"9223372036854775808", "-9223372036854775809", "18446744073709551616", "18446744073709551617", "-18446744073709551615",
		"09223372036854775807", strings.Repeat("9", 40), strings.Repeat("0", 40), "-" + strings.Repeat("1", 400),
	}
}

// 8.1: numbers are decimal, perhaps with -, no nought ahead, of 64 bits: else ErrForm, and nothing is done.
func TestWhatIsNoNumber(t *testing.T) {
	for _, word := range notNumbers() {
		for _, line := range []string{
			"new # 1", "new 1 #", "new # #", "get # a", "put # a x", "del # a", "end #", "drop #", "state #",
			"deliver #", "lose #", "twice #", "fail #",
		} {
			line = strings.ReplaceAll(line, "#", word)
			says(t, "begin\n"+line+"\nstate 1\nbegin", "1", "error 3", "open", "2")
		}
	}
}

// 8.1: what is a number is taken as it is told, to the ends of 64 bits.
func TestNumbers(t *testing.T) {
	for _, word := range []string{"0", "-1", "2", "-10", "61", "1099511627777", "4294967297", "9223372036854775807", "-9223372036854775808"} {
		for line, want := range map[string]string{
			"new # 1": "error 2", "new 1 #": "error 2", "get # a": "error 7", "put # a x": "error 7", "del # a": "error 7",
			"end #": "error 7", "drop #": "error 7", "state #": "none", "lose #": "error 2", "deliver #": "error 2", "twice #": "error 2",
		} {
			if word == "2" && strings.HasPrefix(line, "new") {
				want = "new"
			}
			says(t, "calm\nbegin\n"+strings.ReplaceAll(line, "#", word), "calm", "1", want)
		}
	}
	for _, word := range []string{"-1", "3", "9", "13", "23", "30", "4294967296", "9223372036854775807", "-9223372036854775808"} {
		says(t, "fail "+word+"\nalive", "error 7", "true")
	}
}

// 8.1: what is wrong with a line's form is told ahead of what the chapters say; numbers are read ahead of that, too.
func TestWhatIsWrongFirst(t *testing.T) {
	key, value := strings.Repeat("k", api.MaxKey+1), strings.Repeat("v", api.MaxValue+1)
	talk(t,
		"begin => 1",
		"new 9 x => error 3",
		"new x 9 => error 3",
		"new 0 => error 3",
		"new 9 9 9 => error 3",
		"new 9 9 => error 2",
		"put x "+key+" "+value+" => error 3",
		"put 9 "+key+" "+value+" => error 4",
		"put 9 "+key+" v => error 7",
		"put 1 "+key+" v => error 4",
		"get x "+key+" => error 3",
		"get 9 "+key+" => error 7",
		"get 1 "+key+" => error 4",
		"del 01 "+key+" => error 3",
		"del 1 "+key+" => error 4",
		"del 1 "+key+" x => error 3",
		"state 1 => open",
	)
}

// 8.1: a key of MaxKey bytes and a value of MaxValue bytes are taken; shard takes any key.
func TestLongWords(t *testing.T) {
	key, value := strings.Repeat("k", api.MaxKey), strings.Repeat("v", api.MaxValue)
	talk(t,
		"begin => 1",
		"put 1 "+key+" "+value+" => put",
		"get 1 "+key+" => is "+value,
		"del 1 "+key+" => del",
		"get 1 "+key+" => none",
		"put 1 "+key+" "+value+"v => error 4",
		"put 1 "+key+"k v => error 4",
		"del 1 "+key+"k => error 4",
		"get 1 "+key+"k => error 4",
		"shard "+strings.Repeat("c", 1001)+" => 1",
	)
}

// 8.1: help tells the first words.
func TestHelp(t *testing.T) {
	talk(t,
		"help => alive begin calm del deliver drop end fail fix get help lose new put shard state tick twice",
		"help x => error 3",
	)
	for first := range behind() {
		if got := Session("help"); !slices.Contains(strings.Fields(got), first) {
			t.Errorf("help: %q, lacks %s", got, first)
		}
	}
}

// 8.1: a key's shard is the sum of its bytes modulo how many there are.
func TestShard(t *testing.T) {
	talk(t,
		"shard a => 1", "shard b => 0", "shard ab => 1", "shard ac => 0", "shard \xff => 1", "shard \u00e4 => 1",
		"new 3 1 => new", "shard a => 1", "shard b => 2", "shard c => 0", "shard ab => 0",
		"new 1 1 => new", "shard a => 0", "shard 7 => 0",
		"new 4 4 => new", "shard c => 3", "shard -1 => 2",
	)
}

// 8.1: begin tells numbers from 1 on; ErrLimit behind MaxTxs.
func TestBegin(t *testing.T) {
	var want []string
	for i := range api.MaxTxs {
		want = append(want, strconv.Itoa(i+1))
	}
	want = append(want, "error 4", "open", "none", "new", "none", "1")
	says(t, strings.Repeat("begin\n", api.MaxTxs+1)+"state 60\nstate 61\nnew 1 1\nstate 1\nbegin", want...)
}
