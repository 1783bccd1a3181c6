package tale

import (
	"math"
	"math/rand"
	"reflect"
	"slices"
	"strings"
	"testing"

	"wapentake/api"
	"wapentake/nest"
	"wapentake/roster"
)

const zero = "1:0,"

var small = roster.Roster{F: 0, Groups: 1, Clients: 1}

const smallHead = "1:0,1:1,1:1,1:s,1:0,1:0,"

// choiceTexts are choices with their texts.
func choiceTexts() map[api.Choice]string {
	l := map[api.Choice]string{
		{}:                           zero,
		{Kind: 3}:                    "1:3,",
		{Kind: api.DoTick, End: 2}:   "1:3,1:2,",
		{End: 2}:                     "1:0,1:2,",
		{Kind: -1}:                   "2:-1,",
		{Kind: math.MinInt}:          "20:-9223372036854775808,",
		{Kind: 7, End: math.MaxInt}:  "1:7,19:9223372036854775807,",
		{Kind: 1, What: 2, Key: "k"}: "1:1,1:0,1:0,1:2,1:0,1:0,1:0,1:0,1:k,",
		{Kind: 1, N: 1, What: 4, Key: "k", Value: "new", Old: "old"}:                                                               "1:1,1:0,1:1,1:4,1:0,1:0,1:0,1:0,1:k,3:new,3:old,",
		{Kind: 2, What: 3, Group: 1, Shard: 2}:                                                                                     "1:2,1:0,1:0,1:3,1:1,1:2,",
		{Kind: 8, End: 4, N: 5, What: 8, View: 3, Number: 10}:                                                                      "1:8,1:4,1:5,1:8,1:0,1:0,1:3,2:10,",
		{Kind: 1, End: 2, N: 3, What: 4, Group: 5, Shard: 6, View: 7, Number: 8, Key: "kk", Value: "v", Old: "", Text: "1:x,\x00"}: "1:1,1:2,1:3,1:4,1:5,1:6,1:7,1:8,2:kk,1:v,0:,5:1:x,\x00,",
		// A text that looks like the number 0 is none.
		{Key: "0"}:             strings.Repeat(zero, 9),
		{Kind: 1, Text: "0"}:   "1:1," + strings.Repeat(zero, 7) + "0:,0:,0:,1:0,",
		{Value: "0"}:           strings.Repeat(zero, 8) + "0:,1:0,",
		{Kind: 5, Old: "\xff"}: "1:5," + strings.Repeat(zero, 7) + "0:,0:,1:\xff,",
	}
	ahead := ""
	for i, c := range []api.Choice{{Kind: -7}, {End: -7}, {N: -7}, {What: -7}, {Group: -7}, {Shard: -7}, {View: -7}, {Number: -7}} {
		l[c] = strings.Repeat(zero, i) + "2:-7,"
		ahead += zero
	}
	for i, c := range []api.Choice{{Key: "x y"}, {Value: "x y"}, {Old: "x y"}, {Text: "x y"}} {
		l[c] = ahead + strings.Repeat("0:,", i) + "3:x y,"
	}
	return l
}

// 26.1, 26.3: choices' texts, there and back.
func TestChoices(t *testing.T) {
	for c, want := range choiceTexts() {
		s := Script{X: small, Seed: "s", Odd: []int{0, 0}, L: []api.Choice{{Kind: 3}, c}}
		text, err := Format(s)
		if l, _ := nest.Unpack(text); err != api.OK || len(l) != 3 || l[2] != want {
			t.Errorf("Format of %v: %q, %v, not %q", c, l, err, want)
		}
		is(t, nest.Pack([]string{smallHead, "1:3,", want}), s)
	}
}

// is asks for a text to be a script's.
func is(t *testing.T, text string, want Script) {
	t.Helper()
	s, place, err := Parse(text)
	if err != api.OK || place != 0 || s.X != want.X || s.Seed != want.Seed || !slices.Equal(s.Odd, want.Odd) || !slices.Equal(s.L, want.L) {
		t.Errorf("Parse(%q): %v, %d, %v, not %v", text, s, place, err, want)
	}
}

// isNone asks for a text to be none at a place.
func isNone(t *testing.T, text string, place int, want api.Errno) {
	t.Helper()
	if s, p, err := Parse(text); err != want || p != place || !reflect.DeepEqual(s, Script{}) {
		t.Errorf("Parse(%q): %v, %d, %v, not %d, %v", text, s, p, err, place, want)
	}
	if l, p, err := Tell(text); err != want || p != place || l != nil {
		t.Errorf("Tell(%q): %v, %d, %v, not %d, %v", text, l, p, err, place, want)
	}
}

// scripts are some with their heads.
func scripts() map[string]Script {
	many := make([]int, 16)
	for i := range many {
		many[i] = 5 - i
	}
	seed := strings.Repeat("\xff", 32)
	return map[string]Script{
		smallHead:                       {X: small, Seed: "s", Odd: []int{0, 0}},
		"1:0,1:0,1:0,0:,":               {},
		"1:1,1:2,1:8,2:1:,1:1,1:0,1:8,": {X: roster.Roster{F: 1, Groups: 2, Clients: 8}, Seed: "1:", Odd: []int{1, 0, 8}},
		// What a shire would refuse is a script, too.
		"2:-1,2:99,19:9223372036854775807,0:,20:-9223372036854775808,":                                            {X: roster.Roster{F: -1, Groups: 99, Clients: math.MaxInt}, Odd: []int{math.MinInt}},
		"1:3,1:4,1:1,32:" + seed + ",1:5,1:4,1:3,1:2,1:1,1:0,2:-1,2:-2,2:-3,2:-4,2:-5,2:-6,2:-7,2:-8,2:-9,3:-10,": {X: roster.Roster{F: 3, Groups: 4, Clients: 1}, Seed: seed, Odd: many},
	}
}

func TestHeads(t *testing.T) {
	for head, s := range scripts() {
		want := nest.Pack([]string{head})
		if text, err := Format(s); text != want || err != api.OK {
			t.Errorf("Format of %v: %q, %v", s, text, err)
		}
		is(t, want, s)
		s.L = []api.Choice{{Kind: 3}}
		is(t, nest.Pack([]string{head, "1:3,"}), s)
	}
	if text, _ := Format(Script{Odd: []int{}, L: []api.Choice{}}); text != "15:1:0,1:0,1:0,0:,," {
		t.Errorf("the empty script is %q", text)
	}
}

func TestFormatLimits(t *testing.T) {
	good := Script{X: small, Seed: strings.Repeat("s", 32), Odd: make([]int, 16), L: make([]api.Choice, Most)}
	text, err := Format(good)
	if err != api.OK {
		t.Error(err)
	}
	is(t, text, good)
	for i, change := range []func(s *Script){
		func(s *Script) { s.L = make([]api.Choice, Most+1) },
		func(s *Script) { s.Odd = make([]int, 17) },
		func(s *Script) { s.Seed += "s" },
		func(s *Script) {
			s.L, s.Odd, s.Seed = make([]api.Choice, 1000), make([]int, 1000), strings.Repeat("s", 1000)
		},
	} {
		s := good
		change(&s)
		if text, err := Format(s); text != "" || err != api.ErrLong {
			t.Errorf("%d: %q, %v", i, text, err)
		}
	}
	if Most != 300 {
		t.Error("Most")
	}
}

// 26.1: what is no list, or has no head.
func TestNoHead(t *testing.T) {
	for _, text := range []string{"", "x", "1", "1:", "1:x", "2:x,", "1:x,y", "01:x,", "-1:x,", ":,", "1:x,1:y"} {
		isNone(t, text, 0, api.ErrForm)
	}
	long, many := strings.Repeat("s", 33), strings.Repeat(zero, 17)
	for _, head := range []string{
		"", "x", "1:0,", "1:0,1:1,", "1:0,1:1,1:1,", "1:0,1:1,1:1,1:s", smallHead + "x", smallHead + "1:",
		"0:,1:1,1:1,1:s,", "1:x,1:1,1:1,1:s,", "2:00,1:1,1:1,1:s,", "2:-0,1:1,1:1,1:s,", "2:+0,1:1,1:1,1:s,",
		"1:0,0:,1:1,1:s,", "1:0,1:x,1:1,1:s,", "1:0,2:01,1:1,1:s,",
		"1:0,1:1,0:,1:s,", "1:0,1:1,1:x,1:s,", "1:0,1:1,2: 1,1:s,",
		"1:0,1:1,1:1,1:s,0:,", "1:0,1:1,1:1,1:s,1:x,1:0,", "1:0,1:1,1:1,1:s,1:0,2:00,", "1:0,1:1,1:1,1:s,1:0,1:-,", "1:0,1:1,1:1,1:s,1:0,19:9223372036854775808,",
		"1:0,1:1,1:1,33:" + long + ",1:0,1:0,", "1:0,1:1,1:1,1:s," + many,
	} {
		for _, l := range [][]string{{head}, {head, "1:3,"}, {head, "x"}} {
			isNone(t, nest.Pack(l), 0, api.ErrForm)
		}
	}
}

// noChoices are no choices' texts.
func noChoices() []string {
	l := []string{"", "x", "1:3", "1:3,x", "1:3,1:", "01:3,", "2:3,", "0:,", "1:x,", "2:03,", "2:-0,", "2:+3,", "1:-,", "2:3 ,", "19:9223372036854775808,", "20:-9223372036854775809,", "22:1000000000000000000000,",
		"1:0,1:0,", "1:3,1:0,", "1:3,1:2,1:0,", "1:3,1:2,1:0,1:0,1:0,1:0,1:0,1:0,", "1:3," + strings.Repeat(zero, 7) + "0:,", "1:3," + strings.Repeat(zero, 7) + "1:k,0:,0:,0:,", "1:3," + strings.Repeat(zero, 7) + "1:k,0:,", strings.Repeat(zero, 8) + "0:,0:,0:,0:,"}
	whole := "1:1,1:2,1:3,1:4,1:5,1:6,1:7,1:8,1:k,1:v,1:o,1:t,"
	l = append(l, whole+"0:,", whole+zero, whole+"1:t,", whole+"x", whole[:len(whole)-1])
	for i := range 8 { // each number in its turn
		for _, wrong := range []string{"0:,", "1:x,", "2:07,", "2:-0,", "19:9999999999999999999,"} {
			l = append(l, whole[:4*i]+wrong+whole[4*i+4:], whole[:4*i]+wrong)
		}
	}
	return l
}

func TestNoChoice(t *testing.T) {
	for _, wrong := range noChoices() {
		for _, ahead := range []int{0, 1, 299} {
			l := append([]string{smallHead}, slices.Repeat([]string{"1:3,"}, ahead)...)
			isNone(t, nest.Pack(append(l, wrong)), ahead+1, api.ErrForm)
			if ahead < 299 {
				isNone(t, nest.Pack(append(l, wrong, "1:3,", "")), ahead+1, api.ErrForm)
			}
		}
	}
}

// The first choice beyond Most is told, whatever its text is, but for one ahead that is none.
func TestTooManyChoices(t *testing.T) {
	l := append([]string{smallHead}, slices.Repeat([]string{"1:3,"}, Most)...)
	if s, _, err := Parse(nest.Pack(l)); err != api.OK || len(s.L) != Most {
		t.Error(err)
	}
	for _, more := range []string{"1:3,", "", "x", zero} {
		isNone(t, nest.Pack(append(l, more)), Most+1, api.ErrLong)
		isNone(t, nest.Pack(append(l, more, more, "")), Most+1, api.ErrLong)
	}
	l = append(l, "1:3,")
	for _, place := range []int{1, 17, Most} {
		x := slices.Clone(l)
		x[place] = "1:3,1:0,"
		isNone(t, nest.Pack(x), place, api.ErrForm)
	}
	l[0] = "x"
	isNone(t, nest.Pack(l), 0, api.ErrForm)
}

// 26.3: scripts of all kinds, there and back.
func TestThereAndBack(t *testing.T) {
	rnd := rand.New(rand.NewSource(1))
	for range 400 {
		s := someScript(rnd)
		was := Script{X: s.X, Seed: s.Seed, Odd: slices.Clone(s.Odd), L: slices.Clone(s.L)}
		text, err := Format(s)
		if err != api.OK || !reflect.DeepEqual(s, was) {
			t.Fatal(err, "or it is changed")
		}
		is(t, text, s)
	}
}

// P1, 26.3: of texts that are spoilt the parsed ones are formatted so.
func TestSpoilt(t *testing.T) {
	rnd := rand.New(rand.NewSource(2))
	right, wrong := 0, 0
	for range 20000 {
		s := someScript(rnd)
		s.L = s.L[:min(len(s.L), rnd.Intn(4))]
		text, _ := Format(s)
		b := []byte(text)
		for range rnd.Intn(3) {
			spoil(rnd, b)
		}
		s, place, err := Parse(string(b))
		if err != api.OK {
			wrong++
			if place < 0 || place > 4 || err != api.ErrForm || !reflect.DeepEqual(s, Script{}) {
				t.Fatalf("Parse(%q): %v, %d, %v", b, s, place, err)
			}
			continue
		}
		right++
		if again, err := Format(s); place != 0 || again != string(b) || err != api.OK {
			t.Fatalf("%q is formatted as %q, %v", b, again, err)
		}
	}
	if right < 5000 || wrong < 5000 {
		t.Errorf("%d right, %d wrong", right, wrong)
	}
	for range 2000 {
		b := make([]byte, rnd.Intn(20))
		rnd.Read(b)
		Parse(string(b))
		Tell(string(b))
	}
}

// spoil changes a byte, to one of those that texts have more often than not.
func spoil(rnd *rand.Rand, b []byte) {
	const often = "0123,,::-x"
	i := rnd.Intn(len(b))
	if b[i] = byte(rnd.Intn(256)); rnd.Intn(3) > 0 {
		b[i] = often[rnd.Intn(len(often))]
	}
}

func someScript(rnd *rand.Rand) Script {
	s := Script{X: roster.Roster{F: someNumber(rnd), Groups: someNumber(rnd), Clients: someNumber(rnd)}, Seed: someText(rnd, 33)}
	for range rnd.Intn(17) {
		s.Odd = append(s.Odd, someNumber(rnd))
	}
	for range rnd.Intn(30) {
		var c api.Choice
		eachNumber(&c, func(n *int) bool {
			*n = someNumber(rnd)
			return rnd.Intn(8) > 0
		})
		eachText(&c, func(x *string) bool {
			*x = someText(rnd, 20)
			return rnd.Intn(3) > 0
		})
		s.L = append(s.L, c)
	}
	return s
}

func someNumber(rnd *rand.Rand) int {
	switch rnd.Intn(8) {
	case 0, 1, 2:
		return 0
	case 3:
		return int(rnd.Uint64())
	case 4:
		return -rnd.Intn(20)
	}
	return rnd.Intn(20)
}

func someText(rnd *rand.Rand, below int) string {
	if rnd.Intn(3) == 0 {
		return ""
	}
	b := make([]byte, rnd.Intn(below))
	for i := range b {
		b[i] = "0123456789:,-x\x00\xff"[rnd.Intn(16)]
	}
	return string(b)
}

// R3: what is parsed is new.
func TestNewMemory(t *testing.T) {
	text, _ := Format(Script{X: small, Seed: "s", Odd: []int{1, 2, 3}, L: []api.Choice{{Kind: 1}, {Kind: 2}}})
	s, _, _ := Parse(text)
	other, _, _ := Parse(text)
	s.Odd, s.L = append(s.Odd[:1], 9, 9, 9), append(s.L[:1], api.Choice{Kind: 9}, api.Choice{Kind: 9})
	if !slices.Equal(other.Odd, []int{1, 2, 3}) || len(other.L) != 2 || other.L[1].Kind != 2 {
		t.Error("two answers share memory")
	}
}
