package desk

import (
	"maps"
	"slices"
	"strconv"
	"strings"

	"chainmail/api"
	"chainmail/house"
)

// order is what a line may ask for.
type order struct {
	words int                         // so many stand behind the first one
	do    func(words []string) string // of all words of the line
}

// session is what is kept between lines.
type session struct {
	house  *house.House
	orders map[string]order // by their first words
}

// newSession is one without a house.
func newSession() *session {
	s := &session{}
	s.orders = map[string]order{
		"alive":   {0, s.alive},
		"begin":   {0, s.begin},
		"calm":    {0, s.calm},
		"del":     {2, s.del},
		"deliver": {1, s.deliver},
		"drop":    {1, s.drop},
		"end":     {1, s.end},
		"fail":    {1, s.fail},
		"fix":     {0, s.fix},
		"get":     {2, s.get},
		"help":    {0, s.help},
		"lose":    {1, s.lose},
		"new":     {2, s.renew},
		"put":     {3, s.put},
		"shard":   {1, s.shard},
		"state":   {1, s.state},
		"tick":    {0, s.tick},
		"twice":   {1, s.twice},
	}
	return s
}

// answer is what a line is answered, or what was thrown on the way.
func (s *session) answer(line string) (told string) {
	defer func() {
		if r := recover(); r != nil {
			e, ok := r.(api.Errno)
			if !ok {
				panic(r) // a fault of the program is no answer
			}
			told = wrong(e)
		}
	}()
	w := words(line)
	if len(w) == 0 {
		return "ok"
	}
	o, ok := s.orders[w[0]]
	if !ok || len(w)-1 != o.words {
		panic(api.ErrForm)
	}
	return o.do(w)
}

func (s *session) renew(w []string) string {
	h, err := house.New(number(w[1]), number(w[2]))
	must(err)
	s.house = h
	return w[0]
}

func (s *session) begin([]string) string {
	id, err := s.house.Begin()
	must(err)
	return strconv.Itoa(id)
}

func (s *session) get(w []string) string {
	value, ok, err := s.house.Get(number(w[1]), w[2])
	must(err)
	if !ok {
		return "none"
	}
	return "is " + value
}

func (s *session) put(w []string) string {
	must(s.house.Put(number(w[1]), api.Pair{Key: w[2], Value: w[3]}))
	return w[0]
}

func (s *session) del(w []string) string {
	must(s.house.Put(number(w[1]), api.Pair{Key: w[2], Gone: true}))
	return w[0]
}

func (s *session) end(w []string) string {
	must(s.house.End(number(w[1])))
	return w[0]
}

func (s *session) drop(w []string) string {
	must(s.house.Drop(number(w[1])))
	return w[0]
}

func (s *session) state(w []string) string {
	switch s.house.State(number(w[1])) {
	case house.Open:
		return "open"
	case house.Ending:
		return "ending"
	case house.Committed:
		return "committed"
	case house.Aborted:
		return "aborted"
	}
	return "none"
}

func (s *session) deliver(w []string) string {
	must(s.house.Deliver(number(w[1])))
	return w[0]
}

func (s *session) lose(w []string) string {
	must(s.house.Lose(number(w[1])))
	return w[0]
}

func (s *session) twice(w []string) string {
	must(s.house.Twice(number(w[1])))
	return w[0]
}

func (s *session) tick(w []string) string {
	s.house.Tick()
	return w[0]
}

func (s *session) calm(w []string) string {
	s.house.Calm()
	return w[0]
}

func (s *session) fail(w []string) string {
	must(s.house.Fail(number(w[1])))
	return w[0]
}

func (s *session) fix(w []string) string {
	s.house.Fix()
	return w[0]
}

func (s *session) shard(w []string) string { return strconv.Itoa(s.house.Shard(w[1])) }

func (s *session) alive([]string) string { return strconv.FormatBool(s.house.Alive()) }

// help tells the first words in their order, for a map has none.
func (s *session) help([]string) string {
	return strings.Join(slices.Sorted(maps.Keys(s.orders)), " ")
}
