package chain

import (
	"fmt"
	"math"
	"math/rand"
	"reflect"
	"slices"
	"strings"
	"testing"

	"wapentake/api"
	"wapentake/nest"
)

type owners = [api.Shards]int

// noNums are no configuration's numbers, noGroups none of groups that join, noShards none of shards.
var (
	noNums   = []int{-1, api.MaxBig + 1, math.MinInt, math.MaxInt}
	noGroups = []int{0, -1, api.MaxGroups + 1, math.MinInt, math.MaxInt}
	noShards = []int{-1, api.Shards, math.MinInt, math.MaxInt}
)

func join(group int) Command  { return Command{Kind: Join, Group: group} }
func leave(group int) Command { return Command{Kind: Leave, Group: group} }

func move(shard, group int) Command {
	return Command{Kind: Move, Group: group, Shard: shard}
}

// same tells whether two configurations are equal; a list of no groups may be nil or empty.
func same(c, d Config) bool {
	return c.Num == d.Num && slices.Equal(c.Groups, d.Groups) && c.Owner == d.Owner
}

func isZero(c Config) bool {
	return same(c, Config{})
}

// sets are all lists of groups that can have joined.
func sets() [][]int {
	var l [][]int
	for bits := range 1 << api.MaxGroups {
		var groups []int
		for g := 1; g <= api.MaxGroups; g++ {
			if bits>>(g-1)&1 == 1 {
				groups = append(groups, g)
			}
		}
		l = append(l, groups)
	}
	return l
}

// allOwners are all owners of shards among these.
func allOwners(among []int) []owners {
	l := []owners{{}}
	for i := range api.Shards {
		var next []owners
		for _, o := range l {
			for _, g := range among {
				o[i] = g
				next = append(next, o)
			}
		}
		l = next
	}
	return l
}

// all are all configurations of that number.
func all(num int) []Config {
	var l []Config
	for _, groups := range sets() {
		among := groups
		if len(groups) == 0 {
			among = []int{0}
		}
		for _, o := range allOwners(among) {
			l = append(l, Config{Num: num, Groups: groups, Owner: o})
		}
	}
	return l
}

// commands are all that are commands by themselves.
func commands() []Command {
	var l []Command
	for g := 1; g <= api.MaxGroups; g++ {
		l = append(l, join(g), leave(g))
		for i := range api.Shards {
			l = append(l, move(i, g))
		}
	}
	return l
}

// noCommands are some that are none.
func noCommands() []Command {
	var l []Command
	for _, kind := range []int{0, -1, 4, math.MinInt, math.MaxInt} {
		l = append(l, Command{Kind: kind}, Command{Kind: kind, Group: 1}, Command{Kind: kind, Group: 2, Shard: 3})
	}
	for _, group := range noGroups {
		l = append(l, join(group), leave(group), move(0, group), move(3, group), move(-1, group))
	}
	for _, shard := range noShards {
		l = append(l, move(shard, 1), move(shard, 2))
	}
	for _, shard := range append(noShards, 1, 2, 3) {
		l = append(l, Command{Kind: Join, Group: 2, Shard: shard}, Command{Kind: Leave, Group: 1, Shard: shard})
	}
	return l
}

// wrong are some that are no configurations.
func wrong() []Config {
	l := []Config{
		{Owner: owners{1, 1, 1, 1}},
		{Owner: owners{0, 0, 0, 1}},
		{Groups: []int{1}},
		{Groups: []int{1}, Owner: owners{1, 1, 0, 1}},
		{Groups: []int{1}, Owner: owners{1, 1, 1, 2}},
		{Groups: []int{1, 3}, Owner: owners{1, 3, 2, 1}},
		{Groups: []int{1, 3}, Owner: owners{1, 3, 5, 1}},
		{Groups: []int{1, 3}, Owner: owners{1, 3, -1, 1}},
		{Groups: []int{1, 3}, Owner: owners{math.MinInt, 3, 1, math.MaxInt}},
		{Groups: []int{2, 1}, Owner: owners{1, 2, 1, 2}},
		{Groups: []int{1, 1}, Owner: owners{1, 1, 1, 1}},
		{Groups: []int{1, 3, 2}, Owner: owners{1, 1, 1, 1}},
		{Groups: []int{1, 2, 3, 4, 4}, Owner: owners{1, 1, 1, 1}},
		{Groups: []int{1, 2, 3, 4, 1}, Owner: owners{1, 1, 1, 1}},
		{Groups: make([]int, 1000)},
	}
	for _, num := range noNums {
		l = append(l, Config{Num: num}, Config{Num: num, Groups: []int{2}, Owner: owners{2, 2, 2, 2}})
	}
	for _, group := range noGroups {
		l = append(l, Config{Groups: []int{group}, Owner: owners{group, group, group, group}},
			Config{Groups: []int{1, group}, Owner: owners{1, 1, 1, 1}},
			Config{Groups: []int{group, 4}, Owner: owners{4, 4, 4, 4}})
	}
	return l
}

// 15.1.

func TestConstants(t *testing.T) {
	if Join != 1 || Leave != 2 || Move != 3 || Most != 40 {
		t.Error(Join, Leave, Move, Most)
	}
}

// Of all lists of groups, with all owners from 0 to one above the last group, just those are configurations that the words say.
func TestCheck(t *testing.T) {
	for _, groups := range sets() {
		for _, o := range allOwners([]int{0, 1, 2, 3, 4, 5}) {
			want := api.OK
			for _, g := range o {
				if len(groups) == 0 && g != 0 || len(groups) > 0 && !slices.Contains(groups, g) {
					want = api.ErrForm
				}
			}
			for _, num := range []int{0, 7, api.MaxBig} {
				if err := Check(Config{Num: num, Groups: groups, Owner: o}); err != want {
					t.Fatalf("%d, %v, %v: %v", num, groups, o, err)
				}
			}
		}
	}
	if err := Check(Config{Groups: []int{}}); err != api.OK {
		t.Error(err)
	}
}

func TestWrongConfigs(t *testing.T) {
	for _, c := range wrong() {
		if err := Check(c); err != api.ErrForm {
			t.Errorf("Check(%v): %v", c, err)
		}
		if s, err := Text(c); s != "" || err != api.ErrForm {
			t.Errorf("Text(%v): %q, %v", c, s, err)
		}
		if l := Loads(c); len(l) != 0 {
			t.Errorf("Loads(%v): %v", c, l)
		}
	}
}

func TestText(t *testing.T) {
	for _, c := range []struct {
		c    Config
		want string
	}{
		{Config{}, "6:config,1:0,0:,16:1:0,1:0,1:0,1:0,,"},
		{Config{Num: 17, Groups: []int{}}, "6:config,2:17,0:,16:1:0,1:0,1:0,1:0,,"},
		{Config{Num: 3, Groups: []int{1, 2, 3}, Owner: owners{2, 2, 3, 1}}, "6:config,1:3,12:1:1,1:2,1:3,,16:1:2,1:2,1:3,1:1,,"},
		{Config{Num: api.MaxBig, Groups: []int{4}, Owner: owners{4, 4, 4, 4}}, "6:config,13:1099511627776,4:1:4,,16:1:4,1:4,1:4,1:4,,"},
	} {
		if s, err := Text(c.c); s != c.want || err != api.OK {
			t.Errorf("Text(%v): %q, %v, not %q", c.c, s, err, c.want)
		}
		if d, err := Read(c.want); !same(c.c, d) || err != api.OK {
			t.Errorf("Read(%q): %v, %v", c.want, d, err)
		}
	}
}

// Each configuration has a text of its own, which is read.
func TestReadAll(t *testing.T) {
	seen := map[string]Config{}
	for _, num := range []int{0, 1, 10, api.MaxBig} {
		for _, c := range all(num) {
			s, err := Text(c)
			if d, bad := Read(s); err != api.OK || bad != api.OK || !same(c, d) {
				t.Fatalf("%v: %q, %v, %v, %v", c, s, err, d, bad)
			}
			if d, there := seen[s]; there {
				t.Fatalf("%v and %v: %q", c, d, s)
			}
			seen[s] = c
		}
	}
}

// text is a text as of a configuration, whatever its numbers are.
func text(num string, groups, owners []string) string {
	return nest.Pack([]string{"config", num, nest.Pack(groups), nest.Pack(owners)})
}

func numbers(l []int) []string {
	var texts []string
	for _, n := range l {
		texts = append(texts, nest.Num(n))
	}
	return texts
}

func TestReadWrong(t *testing.T) {
	ones := []string{"1", "1", "1", "1"}
	one := []string{"1"}
	right := text("5", one, ones)
	if _, err := Read(right); err != api.OK {
		t.Fatal(err)
	}
	l := []string{
		"", "x", "6:config,", right[1:], right[:len(right)-1], right + "x", right + "0:,", right + right, "0" + right, " " + right,
		strings.Replace(right, "config", "Config", 1), strings.Replace(right, "6:config,", "0:,", 1), strings.Replace(right, "6:config,", "", 1),
		nest.Pack([]string{right}),
		nest.Pack([]string{"config", "5", "1:1,"}),
		nest.Pack([]string{"config", "5", "1:1,", nest.Pack(ones), ""}),
		nest.Pack([]string{"config", "5", "1", nest.Pack(ones)}),
		nest.Pack([]string{"config", "5", "1:1,", "1111"}),
		nest.Pack([]string{"config", "5", nest.Pack(ones), "1:1,"}),
		text("5", one, nil), text("5", one, ones[1:]), text("5", one, append(one, ones...)), text("5", nil, nil),
		text("5", one, slices.Repeat(one, 1000)), text("5", slices.Repeat(one, 1000), ones),
	}
	for _, n := range []string{"", "-0", "00", "01", "+1", " 1", "1 ", "x", "1x", "99999999999999999999"} {
		l = append(l, text(n, one, ones), text("5", []string{n}, ones), text("5", []string{n}, []string{n, n, n, n}), text("5", one, []string{"1", "1", n, "1"}))
	}
	for _, c := range wrong() {
		l = append(l, text(nest.Num(c.Num), numbers(c.Groups), numbers(c.Owner[:])))
	}
	for _, s := range l {
		if c, err := Read(s); !isZero(c) || err != api.ErrForm {
			t.Errorf("Read(%q): %v, %v", s, c, err)
		}
	}
}

// Bytes that are changed, lost or added here and there: what is read has just that text.
func TestReadSpoilt(t *testing.T) {
	rnd := rand.New(rand.NewSource(1))
	right, _ := Text(Config{Num: 12, Groups: []int{1, 2, 3}, Owner: owners{3, 1, 2, 2}})
	read := 0
	for range 30000 {
		b := []byte(right)
		for range 1 + rnd.Intn(2) {
			i, x := rnd.Intn(len(b)), "0123456789:,c\x00-"[rnd.Intn(15)]
			switch rnd.Intn(3) {
			case 0:
				b[i] = x
			case 1:
				b = append(b[:i], b[i+1:]...)
			case 2:
				b = append(b[:i:i], append([]byte{x}, b[i:]...)...)
			}
		}
		c, err := Read(string(b))
		if err != api.OK && (err != api.ErrForm || !isZero(c)) {
			t.Fatalf("Read(%q): %v, %v", b, c, err)
		}
		if err == api.OK {
			read++
			if s, bad := Text(c); s != string(b) || bad != api.OK {
				t.Fatalf("Read(%q): %v, whose text is %q, %v", b, c, s, bad)
			}
		}
	}
	if read < 100 {
		t.Error(read)
	}
}

func TestLoads(t *testing.T) {
	for _, c := range all(3) {
		var want []int
		for _, g := range c.Groups {
			n := 0
			for _, o := range c.Owner {
				if o == g {
					n++
				}
			}
			want = append(want, n)
		}
		if l := Loads(c); !slices.Equal(l, want) {
			t.Fatalf("Loads(%v): %v", c, l)
		}
	}
}

// 15.2.

func TestNextExample(t *testing.T) {
	c := Config{}
	for i, step := range []struct {
		x      Command
		groups []int
		owner  owners
	}{
		{join(1), []int{1}, owners{1, 1, 1, 1}},
		{join(2), []int{1, 2}, owners{2, 2, 1, 1}},
		{join(3), []int{1, 2, 3}, owners{2, 2, 3, 1}},
		{leave(1), []int{2, 3}, owners{2, 2, 3, 3}},
		{join(1), []int{1, 2, 3}, owners{1, 2, 3, 3}},
		{join(4), []int{1, 2, 3, 4}, owners{1, 2, 4, 3}},
		{move(1, 1), []int{1, 2, 3, 4}, owners{1, 1, 4, 3}},
		{move(3, 1), []int{1, 2, 3, 4}, owners{1, 1, 4, 1}},
		{leave(4), []int{1, 2, 3}, owners{3, 1, 2, 1}},
		{leave(1), []int{2, 3}, owners{3, 2, 2, 3}},
		{leave(3), []int{2}, owners{2, 2, 2, 2}},
	} {
		next, err := Next(c, step.x)
		if want := (Config{Num: 1 + i, Groups: step.groups, Owner: step.owner}); !same(next, want) || err != api.OK {
			t.Fatalf("Next(%v, %v): %v, %v, not %v", c, step.x, next, err, want)
		}
		c = next
	}
}

// behind is the next configuration, by the document's words, one shard after the other.
func behind(c Config, x Command) (Config, api.Errno) {
	joined := map[int]bool{}
	for _, g := range c.Groups {
		joined[g] = true
	}
	if joined[x.Group] == (x.Kind == Join) || x.Kind == Leave && len(joined) == 1 || x.Kind == Move && c.Owner[x.Shard] == x.Group {
		return Config{}, api.ErrGroup
	}
	if c.Num == api.MaxBig {
		return Config{}, api.ErrLast
	}
	joined[x.Group] = x.Kind != Leave
	n := Config{Num: c.Num + 1, Owner: c.Owner}
	for g := 1; g <= api.MaxGroups; g++ {
		if joined[g] {
			n.Groups = append(n.Groups, g)
		}
	}
	if x.Kind == Move {
		n.Owner[x.Shard] = x.Group
		return n, api.OK
	}
	for {
		has := map[int]int{}
		for _, g := range n.Owner {
			has[g]++
		}
		most, fewest := n.Groups[0], n.Groups[0]
		for _, g := range n.Groups {
			if has[g] > has[most] {
				most = g
			}
			if has[g] < has[fewest] {
				fewest = g
			}
		}
		goes := slices.IndexFunc(n.Owner[:], func(g int) bool { return !joined[g] })
		if goes < 0 && has[most] < has[fewest]+2 {
			return n, api.OK
		}
		if goes < 0 {
			goes = slices.Index(n.Owner[:], most)
		}
		n.Owner[goes] = fewest
	}
}

func TestNextAll(t *testing.T) {
	met := map[api.Errno]int{}
	for _, num := range []int{0, 9, api.MaxBig - 1, api.MaxBig} {
		for _, c := range all(num) {
			for _, x := range commands() {
				want, wantErr := behind(c, x)
				next, err := Next(c, x)
				if !same(next, want) || err != wantErr {
					t.Fatalf("Next(%v, %v): %v, %v, not %v, %v", c, x, next, err, want, wantErr)
				}
				if err == api.OK && Check(next) != api.OK {
					t.Fatalf("Next(%v, %v): %v, which is none", c, x, next)
				}
				met[err]++
			}
		}
	}
	for _, err := range []api.Errno{api.OK, api.ErrGroup, api.ErrLast} {
		if met[err] < 1000 {
			t.Errorf("%v came %d times", err, met[err])
		}
	}
}

// What is wrong is told in the document's order: the configuration, the command by itself, the groups, the last number.
func TestNextWrong(t *testing.T) {
	refused := func(c Config, x Command, want api.Errno) {
		t.Helper()
		if next, err := Next(c, x); !isZero(next) || err != want {
			t.Errorf("Next(%v, %v): %v, %v, not %v", c, x, next, err, want)
		}
	}
	last := Config{Num: api.MaxBig, Groups: []int{1, 3}, Owner: owners{1, 3, 1, 3}}
	for _, c := range wrong() {
		for _, x := range append(noCommands(), join(1), join(2), leave(1), move(0, 1), move(1, 1)) {
			refused(c, x, api.ErrForm)
		}
	}
	for _, x := range noCommands() {
		for _, c := range []Config{{}, last, {Num: 2, Groups: []int{1}, Owner: owners{1, 1, 1, 1}}, {Num: api.MaxBig}} {
			refused(c, x, api.ErrArg)
		}
	}
	for _, x := range []Command{join(1), join(3), leave(2), leave(4), move(0, 2), move(0, 1), move(3, 3)} {
		refused(last, x, api.ErrGroup)
	}
	for _, x := range []Command{join(2), join(4), leave(1), leave(3), move(0, 3), move(3, 1)} {
		refused(last, x, api.ErrLast)
	}
	for g := 1; g <= api.MaxGroups; g++ {
		only := Config{Num: 3, Groups: []int{g}, Owner: owners{g, g, g, g}}
		refused(only, leave(g), api.ErrGroup)
		refused(Config{Num: 3}, leave(g), api.ErrGroup)
		refused(Config{Num: 3}, move(2, g), api.ErrGroup)
	}
	refused(Config{Num: api.MaxBig}, join(1), api.ErrLast)
	refused(Config{Num: api.MaxBig}, leave(1), api.ErrGroup)
}

// 15.4 and 15.5.

// isEven tells whether no group has two more than another one.
func isEven(groups []int, o owners) bool {
	most, fewest := 0, api.Shards
	for _, g := range groups {
		n := 0
		for i := range api.Shards {
			if o[i] == g {
				n++
			}
		}
		most, fewest = max(most, n), min(fewest, n)
	}
	return most < fewest+2
}

func moved(o, p owners) int {
	n := 0
	for i := range api.Shards {
		if o[i] != p[i] {
			n++
		}
	}
	return n
}

// fewestMoves is how many shards change their owner at least, of all ways to have them even.
func fewestMoves(groups []int, ahead owners, ways []owners) int {
	fewest := api.Shards
	for _, o := range ways {
		if isEven(groups, o) {
			fewest = min(fewest, moved(ahead, o))
		}
	}
	return fewest
}

func TestEvenByFewMoves(t *testing.T) {
	ways := map[string][]owners{}
	for _, groups := range sets() {
		ways[fmt.Sprint(groups)] = allOwners(groups)
	}
	for _, c := range all(5) {
		for g := 1; g <= api.MaxGroups; g++ {
			for _, x := range []Command{join(g), leave(g)} {
				next, err := Next(c, x)
				if err != api.OK {
					continue
				}
				for i := range api.Shards {
					if !slices.Contains(next.Groups, next.Owner[i]) {
						t.Fatalf("Next(%v, %v): %v", c, x, next)
					}
				}
				if !isEven(next.Groups, next.Owner) {
					t.Fatalf("Next(%v, %v): %v is not even", c, x, next)
				}
				if n, few := moved(c.Owner, next.Owner), fewestMoves(next.Groups, c.Owner, ways[fmt.Sprint(next.Groups)]); n != few {
					t.Fatalf("Next(%v, %v): %v moves %d, not %d", c, x, next, n, few)
				}
			}
		}
	}
}

// 15.3.

func does(t *testing.T, h *Chain, x Command, want api.Errno) {
	t.Helper()
	before := h.Last()
	if err := h.Do(x); err != want {
		t.Fatalf("Do(%v): %v, not %v", x, err, want)
	}
	if want != api.OK && !same(h.Last(), before) {
		t.Fatalf("Do(%v): %v, and %v changed to %v", x, want, before, h.Last())
	}
}

// has looks for all configurations of a chain.
func has(t *testing.T, h *Chain, l []Config) {
	t.Helper()
	for num, want := range l {
		if c, err := h.Get(num); !same(c, want) || err != api.OK {
			t.Fatalf("Get(%d): %v, %v, not %v", num, c, err, want)
		}
	}
	if c := h.Last(); !same(c, l[len(l)-1]) {
		t.Fatalf("Last: %v, not %v", c, l[len(l)-1])
	}
	for _, num := range append(noNums, len(l), len(l)+1, -2, Most+1, api.MaxBig) {
		if c, err := h.Get(num); !isZero(c) || err != api.ErrNone {
			t.Fatalf("Get(%d): %v, %v", num, c, err)
		}
	}
}

func TestChain(t *testing.T) {
	h := New()
	l := []Config{{}}
	has(t, h, l)
	for _, step := range []struct {
		x    Command
		want api.Errno
	}{
		{leave(1), api.ErrGroup}, {move(0, 1), api.ErrGroup}, {Command{}, api.ErrArg},
		{join(1), api.OK}, {leave(1), api.ErrGroup}, {join(1), api.ErrGroup}, {move(2, 1), api.ErrGroup}, {join(5), api.ErrArg},
		{join(2), api.OK}, {join(3), api.OK}, {leave(1), api.OK}, {move(1, 1), api.ErrGroup}, {move(4, 2), api.ErrArg},
		{move(1, 3), api.OK}, {move(1, 3), api.ErrGroup}, {join(4), api.OK}, {leave(2), api.OK},
	} {
		does(t, h, step.x, step.want)
		if step.want == api.OK {
			next, _ := behind(l[len(l)-1], step.x)
			l = append(l, next)
		}
		has(t, h, l)
	}
	if len(l) != 8 {
		t.Error(len(l))
	}
}

// filled is a chain with Most configurations beside the first one.
func filled(t *testing.T) (*Chain, []Config) {
	t.Helper()
	h := New()
	does(t, h, join(1), api.OK)
	does(t, h, join(3), api.OK)
	l := []Config{{}, {Num: 1, Groups: []int{1}, Owner: owners{1, 1, 1, 1}}, {Num: 2, Groups: []int{1, 3}, Owner: owners{3, 3, 1, 1}}}
	for len(l) <= Most {
		x := move(len(l)%4, 4-l[len(l)-1].Owner[len(l)%4])
		does(t, h, x, api.OK)
		next, _ := behind(l[len(l)-1], x)
		l = append(l, next)
	}
	return h, l
}

// A chain that is full tells so of any command, as the document puts it in the place of Next's errors.
func TestChainFull(t *testing.T) {
	h, l := filled(t)
	if h.Last().Num != 40 || len(l) != 41 {
		t.Error(h.Last(), len(l))
	}
	has(t, h, l)
	for _, x := range append(noCommands(), commands()...) {
		does(t, h, x, api.ErrLast)
	}
	has(t, h, l)
}

func TestChainRuns(t *testing.T) {
	rnd := rand.New(rand.NewSource(2))
	possible := append(commands(), noCommands()...)
	for range 50 {
		h, l := New(), []Config{{}}
		for len(l) <= Most {
			x := possible[rnd.Intn(len(possible))]
			next, want := Next(l[len(l)-1], x)
			does(t, h, x, want)
			if want == api.OK {
				l = append(l, next)
			}
		}
		has(t, h, l)
		does(t, h, join(1), api.ErrLast)
	}
}

// A nil chain, and one that New did not make.

func TestNilChain(t *testing.T) {
	var h *Chain
	for _, x := range append(commands(), noCommands()...) {
		if err := h.Do(x); err != api.ErrState {
			t.Errorf("Do(%v): %v", x, err)
		}
	}
	for _, num := range append(noNums, 0, 1, Most) {
		if c, err := h.Get(num); !isZero(c) || err != api.ErrNone {
			t.Errorf("Get(%d): %v, %v", num, c, err)
		}
	}
	if c := h.Last(); !isZero(c) {
		t.Error(c)
	}
}

func TestZeroChain(t *testing.T) {
	var h Chain
	has(t, &h, []Config{{}})
	does(t, &h, join(2), api.OK)
	has(t, &h, []Config{{}, {Num: 1, Groups: []int{2}, Owner: owners{2, 2, 2, 2}}})
}

func TestChainsAreApart(t *testing.T) {
	h, u := New(), New()
	does(t, h, join(1), api.OK)
	has(t, u, []Config{{}})
	does(t, u, join(2), api.OK)
	has(t, h, []Config{{}, {Num: 1, Groups: []int{1}, Owner: owners{1, 1, 1, 1}}})
}

// R3 and R6.

// spoil changes a list, with its spare room.
func spoil(l []int) {
	l = l[:cap(l)]
	for i := range l {
		l[i] = -99
	}
}

func TestArgumentsStay(t *testing.T) {
	for _, c := range all(4) {
		room := []int{7, 7, 7, 7, 7, 7}
		groups := room[1 : 1+copy(room[1:], c.Groups)]
		before := slices.Clone(room)
		given := Config{Num: c.Num, Groups: groups, Owner: c.Owner}
		for _, x := range commands() {
			next, _ := Next(given, x)
			spoil(next.Groups)
			if !slices.Equal(room, before) || !same(given, c) {
				t.Fatalf("Next(%v, %v) changed it to %v, %v", c, x, given, room)
			}
		}
		spoil(Loads(given))
		Check(given)
		Text(given)
		if !slices.Equal(room, before) {
			t.Fatalf("%v: %v", c, room)
		}
	}
}

func TestAnswersAreNew(t *testing.T) {
	h, l := filled(t)
	for num := range l {
		c, _ := h.Get(num)
		spoil(c.Groups)
		spoil(h.Last().Groups)
	}
	has(t, h, l)
	s, _ := Text(l[5])
	c, _ := Read(s)
	spoil(c.Groups)
	if d, err := Read(s); !same(d, l[5]) || err != api.OK {
		t.Error(d, err)
	}
	// What is handed out has no part in what comes behind it.
	u := New()
	does(t, u, join(1), api.OK)
	spoil(u.Last().Groups)
	does(t, u, join(2), api.OK)
	if c := u.Last(); !reflect.DeepEqual(c.Groups, []int{1, 2}) {
		t.Error(c)
	}
}

func TestTheSameAgain(t *testing.T) {
	for _, c := range all(6)[:200] {
		for _, x := range append(commands(), noCommands()...) {
			a, err := Next(c, x)
			if b, again := Next(c, x); !same(a, b) || err != again {
				t.Fatalf("Next(%v, %v): %v, %v, then %v, %v", c, x, a, err, b, again)
			}
		}
	}
}
