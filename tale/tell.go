package tale

import (
	"wapentake/api"
	"wapentake/nest"
	"wapentake/proof"
	"wapentake/shire"
)

// Tell tells what became of a script: its calls, its points, its rulings, and whether one map was seen.
func Tell(text string) ([]string, int, api.Errno) {
	script, place, err := Parse(text)
	if err != api.OK {
		return nil, place, err
	}
	s, err := shire.New(script.X, script.Seed, script.Odd)
	if err != api.OK {
		return nil, 0, err
	}
	for _, c := range script.L {
		s.Step(c)
	}
	return lines(s), 0, api.OK
}

func lines(s *shire.Shire) []string {
	calls, points := s.Calls(), s.Points()
	var l []string
	for _, c := range calls {
		l = append(l, answerLine("call", c.Answer.Value, c.Client, c.Number, c.From, c.To, int(c.Answer.Err)))
	}
	for _, p := range points {
		l = append(l, answerLine("point", p.Answer.Value, p.At, p.Client, p.Number, int(p.Answer.Err)))
	}
	for _, r := range s.Rulings() {
		l = append(l, line("ruling", r.Client, r.Number, int(r.Err)))
	}
	rule, _, _ := proof.Check(calls, points) // of a history that is too long no rule is told
	return append(l, line("map", rule))
}

func line(of string, numbers ...int) string {
	return nest.Pack(texts(of, numbers))
}

// answerLine is one at whose end stands a value.
func answerLine(of, value string, numbers ...int) string {
	return nest.Pack(append(texts(of, numbers), value))
}

func texts(of string, numbers []int) []string {
	l := []string{of}
	for _, n := range numbers {
		l = append(l, nest.Num(n))
	}
	return l
}
