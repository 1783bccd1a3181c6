package tale

import (
	"wapentake/api"
	"wapentake/nest"
)

// eachNumber has visit see a choice's numbers in the order of its text, as long as it asks for more.
func eachNumber(c *api.Choice, visit func(n *int) bool) {
	for _, n := range []*int{&c.Kind, &c.End, &c.N, &c.What, &c.Group, &c.Shard, &c.View, &c.Number} {
		if !visit(n) {
			return
		}
	}
}

// eachText does likewise with its texts, which stand behind the numbers.
func eachText(c *api.Choice, visit func(s *string) bool) {
	for _, s := range []*string{&c.Key, &c.Value, &c.Old, &c.Text} {
		if !visit(s) {
			return
		}
	}
}

// allOf is a choice as a list of texts, those that are 0 or empty included.
func allOf(c api.Choice) []string {
	var l []string
	eachNumber(&c, func(n *int) bool {
		l = append(l, nest.Num(*n))
		return true
	})
	eachText(&c, func(s *string) bool {
		l = append(l, *s)
		return true
	})
	return l
}

// choiceText leaves out what is 0 or empty at the end, but for the Kind: the empty text is no choice's.
func choiceText(c api.Choice) string {
	l, nothing := allOf(c), allOf(api.Choice{})
	last := len(l) - 1
	for last > 0 && l[last] == nothing[last] {
		last--
	}
	return nest.Pack(l[:last+1])
}

// readChoice takes what it can: whatever is wrong with a text, what was taken has another one.
func readChoice(text string) (api.Choice, api.Errno) {
	left, _ := nest.Unpack(text)
	var c api.Choice
	eachNumber(&c, func(n *int) bool {
		if len(left) > 0 {
			*n, _ = nest.ToNum(left[0])
			left = left[1:]
		}
		return len(left) > 0
	})
	eachText(&c, func(s *string) bool {
		if len(left) > 0 {
			*s, left = left[0], left[1:]
		}
		return len(left) > 0
	})
	if choiceText(c) != text {
		return api.Choice{}, api.ErrForm
	}
	return c, api.OK
}
