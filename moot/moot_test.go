package moot

import (
	"math"
	"math/rand"
	"reflect"
	"slices"
	"strings"
	"testing"

	"wapentake/api"
	"wapentake/chain"
	"wapentake/nest"
)

type owners = [api.Shards]int

// noClients are no clients' numbers, noNumbers none of what a client asks.
var (
	noClients = []int{-1, api.MaxTables, 15, math.MinInt, math.MaxInt}
	noNumbers = []int{0, -1, api.MaxBig + 1, math.MinInt, math.MaxInt}
)

func join(group int) chain.Command  { return chain.Command{Kind: chain.Join, Group: group} }
func leave(group int) chain.Command { return chain.Command{Kind: chain.Leave, Group: group} }

func move(shard, group int) chain.Command {
	return chain.Command{Kind: chain.Move, Group: group, Shard: shard}
}

// same tells whether two configurations are equal; a list of no groups may be nil or empty.
func same(c, d chain.Config) bool {
	return c.Num == d.Num && slices.Equal(c.Groups, d.Groups) && c.Owner == d.Owner
}

// answers has a moot do a command, which is to be answered, now or not.
func answers(t *testing.T, m *Moot, client, number int, x chain.Command, want api.Errno, now bool) {
	t.Helper()
	if a, is, err := m.Do(client, number, x); a != want || is != now || err != api.OK {
		t.Errorf("Do(%d, %d, %v): %v, %v, %v, not %v, %v", client, number, x, a, is, err, want, now)
	}
}

// refuses has a moot refuse a command: nothing is changed.
func refuses(t *testing.T, m *Moot, client, number int, x chain.Command, want api.Errno) {
	t.Helper()
	before := m.Text()
	if a, is, err := m.Do(client, number, x); a != 0 || is || err != want {
		t.Errorf("Do(%d, %d, %v): %v, %v, %v, not %v", client, number, x, a, is, err, want)
	}
	if m.Text() != before {
		t.Errorf("Do(%d, %d, %v): %q, not %q", client, number, x, m.Text(), before)
	}
}

func loaded(t *testing.T, text string) *Moot {
	t.Helper()
	m, err := Load(text)
	if m == nil || err != api.OK {
		t.Fatalf("Load(%q): %v, %v", text, m, err)
	}
	return m
}

// text is the text as of a moot, whatever its numbers are.
func text(commands, clients []string) string {
	return nest.Pack([]string{nest.Pack(commands), nest.Pack(clients)})
}

// used is a moot with two configurations and three clients.
func used(t *testing.T) *Moot {
	t.Helper()
	m := New()
	answers(t, m, 0, 2, join(1), api.OK, true)
	answers(t, m, 7, api.MaxBig, join(1), api.ErrGroup, true)
	answers(t, m, 3, 10, join(3), api.OK, true)
	return m
}

const usedText = "24:1:1,1:1,1:0,1:1,1:3,1:0,,52:1:0,1:2,1:0,1:3,2:10,1:0,1:7,13:1099511627776,3:150,,"

// 17.1.

func TestNew(t *testing.T) {
	m := New()
	if !same(m.Last(), chain.Config{}) || m.Text() != "0:,0:," {
		t.Errorf("%v, %q", m.Last(), m.Text())
	}
	if c, err := m.Get(0); !same(c, chain.Config{}) || err != api.OK {
		t.Error(c, err)
	}
	if c, err := m.Get(1); !same(c, chain.Config{}) || err != api.ErrNone {
		t.Error(c, err)
	}
}

func TestExample(t *testing.T) {
	m := New()
	answers(t, m, 0, 1, join(1), api.OK, true)
	answers(t, m, 0, 1, join(2), api.OK, false)
	answers(t, m, 0, 2, join(1), api.ErrGroup, true)
	if c := m.Last(); !same(c, chain.Config{Num: 1, Groups: []int{1}, Owner: owners{1, 1, 1, 1}}) {
		t.Error(c)
	}
}

// Of each client, a lesser number, the same one and a greater one, at both ends of the numbers.
func TestNumbers(t *testing.T) {
	m := New()
	for client := range api.MaxTables {
		answers(t, m, client, 1, move(0, 1), api.ErrGroup, true)
		answers(t, m, client, 1, join(1+client%4), api.ErrGroup, false)
		answers(t, m, client, 5, leave(1), api.ErrGroup, true)
		for _, number := range []int{1, 2, 4} {
			refuses(t, m, client, number, join(1), api.ErrNone)
		}
		answers(t, m, client, 5, join(1), api.ErrGroup, false)
		answers(t, m, client, api.MaxBig-1, leave(2), api.ErrGroup, true)
		answers(t, m, client, api.MaxBig, leave(2), api.ErrGroup, true)
		answers(t, m, client, api.MaxBig, join(1), api.ErrGroup, false)
		for _, number := range []int{1, 5, api.MaxBig - 1} {
			refuses(t, m, client, number, join(1), api.ErrNone)
		}
	}
	if m.Last().Num != 0 {
		t.Error(m.Last())
	}
}

// A client's numbers say nothing about another one's.
func TestClientsApart(t *testing.T) {
	m := New()
	answers(t, m, 0, 100, join(1), api.OK, true)
	for client := 1; client < api.MaxTables; client++ {
		answers(t, m, client, 1, join(1), api.ErrGroup, true)
		answers(t, m, 0, 100, join(2), api.OK, false)
	}
}

// What the chain refuses is an answer like others: its number is done, but no command was taken.
func TestRefusedCommands(t *testing.T) {
	m := New()
	answers(t, m, 1, 1, join(1), api.OK, true)
	number := 1
	for want, l := range map[api.Errno][]chain.Command{
		api.ErrArg:   {{}, join(0), join(5), leave(-1), move(4, 1), move(-1, 1), {Kind: 4, Group: 1}, {Kind: chain.Join, Group: 2, Shard: 1}, {Kind: math.MinInt, Group: math.MaxInt, Shard: math.MinInt}},
		api.ErrGroup: {join(1), leave(1), leave(2), move(0, 1), move(0, 2)},
	} {
		for _, x := range l {
			number++
			answers(t, m, 1, number, x, want, true)
			answers(t, m, 1, number, join(2), want, false)
			refuses(t, m, 1, number-1, join(2), api.ErrNone)
		}
	}
	if c := m.Last(); c.Num != 1 {
		t.Error(c)
	}
	if l, _ := nest.Unpack(m.Text()); l[0] != "1:1,1:1,1:0," {
		t.Errorf("%q", m.Text())
	}
}

func TestFull(t *testing.T) {
	m := New()
	answers(t, m, 0, 1, join(1), api.OK, true)
	answers(t, m, 0, 2, join(2), api.OK, true)
	for number := 3; number <= chain.Most; number++ {
		answers(t, m, 0, number, move(3, 1+number%2), api.OK, true)
	}
	before := m.Last()
	answers(t, m, 0, chain.Most+1, join(3), api.ErrLast, true)
	answers(t, m, 0, chain.Most+1, join(3), api.ErrLast, false)
	if before.Num != chain.Most || !same(m.Last(), before) {
		t.Error(before, m.Last())
	}
	u := loaded(t, m.Text())
	if !same(u.Last(), before) || u.Text() != m.Text() {
		t.Errorf("%q", u.Text())
	}
	answers(t, u, 4, 1, join(3), api.ErrLast, true)
}

// What is wrong by itself comes first: of a nil moot, of a new one, of one that would tell ErrNone.
func TestDoWrong(t *testing.T) {
	for _, m := range []*Moot{nil, {}, New(), used(t)} {
		for _, x := range []chain.Command{join(2), {}, join(9)} {
			for _, client := range noClients {
				for _, number := range append(noNumbers, 1, 2, api.MaxBig) {
					refuses(t, m, client, number, x, api.ErrArg)
				}
			}
			for client := range api.MaxTables {
				for _, number := range noNumbers {
					refuses(t, m, client, number, x, api.ErrArg)
				}
			}
		}
	}
	refuses(t, used(t), 3, 9, join(9), api.ErrNone)
}

// 17.2.

// Get and Last tell what a chain of the commands that were taken tells.
func TestGetAndLast(t *testing.T) {
	m, h := New(), chain.New()
	nums := []int{-1, api.MaxBig, math.MinInt, math.MaxInt}
	for num := range chain.Most + 2 {
		nums = append(nums, num)
	}
	for i, x := range []chain.Command{join(1), join(2), join(1), leave(3), move(0, 1), move(0, 1), leave(1), leave(2), join(4), move(2, 4)} {
		answers(t, m, i%8, 1+i, x, h.Do(x), true)
		if !same(m.Last(), h.Last()) {
			t.Errorf("%v, not %v", m.Last(), h.Last())
		}
		for _, num := range nums {
			c, err := m.Get(num)
			if d, want := h.Get(num); !same(c, d) || err != want {
				t.Errorf("Get(%d): %v, %v, not %v, %v", num, c, err, d, want)
			}
		}
	}
	if m.Last().Num != 6 {
		t.Error(m.Last())
	}
}

func TestText(t *testing.T) {
	if s := used(t).Text(); s != usedText {
		t.Errorf("%q", s)
	}
	m := New()
	answers(t, m, 2, 3, leave(1), api.ErrGroup, true)
	if s := m.Text(); s != "0:,14:1:2,1:3,3:150,," {
		t.Errorf("%q", s)
	}
	answers(t, m, 2, 4, join(2), api.OK, true)
	answers(t, m, 2, 5, join(1), api.OK, true)
	answers(t, m, 2, 6, move(3, 1), api.OK, true)
	if s := m.Text(); s != "36:1:1,1:2,1:0,1:1,1:1,1:0,1:3,1:1,1:3,,12:1:2,1:6,1:0,," {
		t.Errorf("%q", s)
	}
}

// Commands and clients need not fit each other, and any errno from 0 to 999 may have been an answer.
func TestLoad(t *testing.T) {
	for _, s := range []string{
		"0:,0:,", usedText,
		text([]string{"1", "1", "0"}, nil),
		text([]string{"1", "1", "0", "1", "2", "0", "3", "1", "0", "2", "2", "0"}, []string{"5", "1", "0"}),
		text(nil, []string{"0", "1", "0", "1", "1099511627776", "999", "2", "3", "1", "3", "4", "4", "4", "5", "500", "5", "6", "998", "6", "1", "2", "7", "1", "3"}),
	} {
		if m := loaded(t, s); m.Text() != s {
			t.Errorf("%q, not %q", m.Text(), s)
		}
	}
	m := loaded(t, text([]string{"1", "1", "0", "1", "2", "0"}, []string{"5", "4", "999"}))
	if c := m.Last(); !same(c, chain.Config{Num: 2, Groups: []int{1, 2}, Owner: owners{2, 2, 1, 1}}) {
		t.Error(c)
	}
	if c, err := m.Get(1); !same(c, chain.Config{Num: 1, Groups: []int{1}, Owner: owners{1, 1, 1, 1}}) || err != api.OK {
		t.Error(c, err)
	}
	refuses(t, m, 5, 3, join(3), api.ErrNone)
	answers(t, m, 5, 4, join(3), 999, false)
	answers(t, m, 5, 5, join(2), api.ErrGroup, true)
	answers(t, m, 0, 1, leave(2), api.OK, true)
}

func TestLoadWrong(t *testing.T) {
	first := []string{"1", "1", "0"}
	known := []string{"3", "5", "0"}
	right := text(first, known)
	loaded(t, right)
	l := []string{
		"", "x", "0:,", "0:,0:,0:,", "0:,0:,x", "00:,0:,", right[1:], right[:len(right)-1], right + "x", right + "0:,", right + right, "0" + right,
		nest.Pack([]string{right}), nest.Pack([]string{"x", ""}), nest.Pack([]string{"", "x"}), nest.Pack([]string{"1:1,1:1,1:0", ""}),
		text(known, first), text(first[:2], nil), text(first[:1], nil), text(append(slices.Clone(first), "1"), nil), text(nil, known[:2]), text(nil, known[:1]), text(nil, append(slices.Clone(known), "4", "5")),
		// commands that a chain refuses
		text([]string{"2", "1", "0"}, nil), text([]string{"3", "1", "0"}, nil), text([]string{"1", "1", "0", "1", "1", "0"}, known), text([]string{"1", "1", "0", "2", "1", "0"}, known),
		text([]string{"1", "1", "0", "3", "1", "2"}, nil), text([]string{"1", "1", "1"}, nil), text([]string{"0", "1", "0"}, nil), text([]string{"4", "1", "0"}, nil), text([]string{"1", "0", "0"}, nil), text([]string{"1", "5", "0"}, nil), text([]string{"1", "-1", "0"}, nil),
		text([]string{"1", "1", "0", "1", "2", "0", "3", "1", "4"}, nil), text([]string{"1", "1", "0", "1", "2", "0", "3", "1", "-1"}, nil),
		// clients that do not rise
		text(nil, []string{"3", "5", "0", "3", "5", "0"}), text(nil, []string{"3", "5", "0", "3", "6", "0"}), text(nil, []string{"3", "5", "0", "2", "5", "0"}), text(nil, []string{"0", "1", "0", "7", "1", "0", "1", "1", "0"}), text(nil, []string{"0", "1", "0", "0", "1", "0"}),
		text(first, slices.Repeat(known, 1000)),
	}
	for _, n := range append(noClients, 8, 9) {
		l = append(l, text(first, []string{nest.Num(n), "5", "0"}))
	}
	for _, n := range noNumbers {
		l = append(l, text(first, []string{"3", nest.Num(n), "0"}))
	}
	for _, n := range []int{-1, 1000, math.MinInt, math.MaxInt} {
		l = append(l, text(first, []string{"3", "5", nest.Num(n)}))
	}
	for _, n := range []string{"", "-0", "00", "01", "+1", " 1", "1 ", "x", "1x", "99999999999999999999"} {
		for i := range 3 {
			x, y := slices.Clone(first), slices.Clone(known)
			x[i], y[i] = n, n
			l = append(l, text(x, known), text(first, y))
		}
	}
	for _, s := range l {
		if m, err := Load(s); m != nil || err != api.ErrForm {
			t.Errorf("Load(%q): %v, %v", s, m, err)
		}
	}
}

// A chain of Most configurations is a moot's, one of one more is none's.
func TestLoadLong(t *testing.T) {
	l := []string{"1", "1", "0", "1", "2", "0"} // of which shard 0 is group 2's
	for i := range chain.Most - 2 {
		l = append(l, "3", nest.Num(1+i%2), "0")
	}
	if m := loaded(t, text(l, nil)); m.Last().Num != chain.Most {
		t.Error(m.Last())
	}
	l = append(l, "1", "3", "0")
	if m, err := Load(text(l, nil)); m != nil || err != api.ErrForm {
		t.Error(m, err)
	}
}

// Bytes that are changed, lost or added here and there: what is loaded has just that text.
func TestLoadSpoilt(t *testing.T) {
	rnd := rand.New(rand.NewSource(1))
	taken := 0
	for range 30000 {
		b := []byte(usedText)
		for range 1 + rnd.Intn(2) {
			i, x := rnd.Intn(len(b)), "0123456789:,-\x00"[rnd.Intn(14)]
			switch rnd.Intn(3) {
			case 0:
				b[i] = x
			case 1:
				b = append(b[:i], b[i+1:]...)
			case 2:
				b = append(b[:i:i], append([]byte{x}, b[i:]...)...)
			}
		}
		m, err := Load(string(b))
		if err == api.OK && m.Text() != string(b) || err != api.OK && (err != api.ErrForm || m != nil) {
			t.Fatalf("Load(%q): %v, %v", b, m, err)
		}
		if err == api.OK {
			taken++
		}
	}
	if taken < 100 {
		t.Error(taken)
	}
}

// A nil moot, and one that New did not make.

func TestNilMoot(t *testing.T) {
	var m *Moot
	for client := range api.MaxTables {
		for _, number := range []int{1, 5, api.MaxBig} {
			refuses(t, m, client, number, join(1), api.ErrState)
			refuses(t, m, client, number, chain.Command{}, api.ErrState)
		}
	}
	for _, num := range []int{0, 1, -1, api.MaxBig, math.MinInt, math.MaxInt} {
		if c, err := m.Get(num); !same(c, chain.Config{}) || err != api.ErrNone {
			t.Error(num, c, err)
		}
	}
	if !same(m.Last(), chain.Config{}) || m.Text() != "" {
		t.Errorf("%v, %q", m.Last(), m.Text())
	}
}

func TestZeroMoot(t *testing.T) {
	var m Moot
	m.Do(0, 1, join(1))
	m.Do(0, 1, join(1))
	m.Get(0)
	m.Last()
	loaded(t, m.Text())
}

// R3.

func TestNothingIsShared(t *testing.T) {
	m := used(t)
	spoil := func(c chain.Config) {
		l := c.Groups[:cap(c.Groups)]
		for i := range l {
			l[i] = 9
		}
	}
	spoil(m.Last())
	for num := range 3 {
		c, _ := m.Get(num)
		spoil(c)
	}
	u := loaded(t, m.Text())
	answers(t, u, 0, 3, join(2), api.OK, true)
	if c := m.Last(); m.Text() != usedText || !same(c, chain.Config{Num: 2, Groups: []int{1, 3}, Owner: owners{3, 3, 1, 1}}) {
		t.Errorf("%q, %v", m.Text(), c)
	}
	answers(t, m, 0, 3, join(4), api.OK, true)
	if u.Last().Groups[1] != 2 || m.Last().Groups[2] != 4 || New().Last().Num != 0 {
		t.Error(u.Last(), m.Last())
	}
}

// 17.3 and 17.4.

// world is a moot, and by the document's words what it is to have.
type world struct {
	m       *Moot
	taken   []chain.Command
	configs []chain.Config
	numbers [api.MaxTables]int
	answers [api.MaxTables]api.Errno
	met     map[string]int
}

// ask has the moot do a command, and looks at what it tells.
func (w *world) ask(t *testing.T, client, number int, x chain.Command) {
	t.Helper()
	if number < w.numbers[client] {
		refuses(t, w.m, client, number, x, api.ErrNone)
		w.met["lesser"]++
		return
	}
	now := number > w.numbers[client]
	if now {
		c, err := chain.Next(w.configs[len(w.configs)-1], x)
		if len(w.configs) > chain.Most {
			err = api.ErrLast
		}
		if err == api.OK {
			w.taken, w.configs = append(w.taken, x), append(w.configs, c)
		}
		w.numbers[client], w.answers[client] = number, err
		w.met[err.Error()]++
	}
	answers(t, w.m, client, number, x, w.answers[client], now)
}

// look looks whether the moot has all that it is to have.
func (w *world) look(t *testing.T) {
	t.Helper()
	for num, want := range w.configs {
		if c, err := w.m.Get(num); !same(c, want) || err != api.OK {
			t.Fatalf("Get(%d): %v, %v, not %v", num, c, err, want)
		}
	}
	if c, err := w.m.Get(len(w.configs)); !same(c, chain.Config{}) || err != api.ErrNone {
		t.Fatal(c, err)
	}
	if !same(w.m.Last(), w.configs[len(w.configs)-1]) {
		t.Fatal(w.m.Last())
	}
	var commands, clients []string
	for _, x := range w.taken {
		commands = append(commands, nest.Num(x.Kind), nest.Num(x.Group), nest.Num(x.Shard))
	}
	for client, number := range w.numbers {
		if number > 0 {
			clients = append(clients, nest.Num(client), nest.Num(number), nest.Num(int(w.answers[client])))
		}
	}
	if want := text(commands, clients); w.m.Text() != want {
		t.Fatalf("%q, not %q", w.m.Text(), want)
	}
}

func randomCommand(rnd *rand.Rand) chain.Command {
	x := chain.Command{Kind: 1 + rnd.Intn(3), Group: 1 + rnd.Intn(4)}
	if x.Kind == chain.Move {
		x.Shard = rnd.Intn(4)
	}
	if rnd.Intn(10) == 0 {
		x.Shard = 4
	}
	return x
}

func TestOnce(t *testing.T) {
	rnd := rand.New(rand.NewSource(2))
	met := map[string]int{}
	for range 60 {
		w := &world{m: New(), configs: []chain.Config{{}}, met: met}
		for range 300 {
			client := rnd.Intn(api.MaxTables)
			w.ask(t, client, max(1, w.numbers[client]-1+rnd.Intn(4)), randomCommand(rnd))
			w.look(t)
			if rnd.Intn(5) == 0 {
				w.m = loaded(t, w.m.Text())
				w.look(t)
			}
		}
	}
	for _, what := range []string{"lesser", "error 0", "error 1", "error 150", "error 151"} {
		if met[what] < 100 {
			t.Errorf("%s: %d times", what, met[what])
		}
	}
}

// A number that is sent again and again, with whatever command, changes nothing.
func TestAgain(t *testing.T) {
	m := used(t)
	for _, x := range []chain.Command{join(1), join(2), join(3), leave(1), move(0, 1), {}, join(9)} {
		answers(t, m, 0, 2, x, api.OK, false)
		answers(t, m, 3, 10, x, api.OK, false)
		answers(t, m, 7, api.MaxBig, x, api.ErrGroup, false)
	}
	if m.Text() != usedText {
		t.Errorf("%q", m.Text())
	}
}

// R6: what was asked alike, or is loaded of a text, tells alike.

func TestSameTellsSame(t *testing.T) {
	rnd := rand.New(rand.NewSource(3))
	for range 100 {
		m, u := New(), New()
		for range 60 {
			client, number, x := rnd.Intn(9), rnd.Intn(12), randomCommand(rnd)
			a, now, err := m.Do(client, number, x)
			b, was, bad := u.Do(client, number, x)
			if a != b || now != was || err != bad || m.Text() != u.Text() || !reflect.DeepEqual(m.Last(), u.Last()) {
				t.Fatalf("Do(%d, %d, %v): %v, %v, %v, and %v, %v, %v", client, number, x, a, now, err, b, was, bad)
			}
			u = loaded(t, u.Text())
		}
	}
}

// P1: texts of any kind end in an error or a moot.
func TestLoadOfAny(t *testing.T) {
	for _, s := range []string{strings.Repeat("0:,", 100000), strings.Repeat("9", 1000), strings.Repeat(":", 1000), text(slices.Repeat([]string{"1"}, 300000), nil), text(nil, slices.Repeat([]string{"1"}, 300000)), "\x00\xff", "999999999:,", "-1:,0:,"} {
		if m, err := Load(s); m != nil || err != api.ErrForm {
			t.Errorf("Load of %d bytes: %v, %v", len(s), m, err)
		}
	}
}
