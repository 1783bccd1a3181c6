package stock

import (
	"math"
	"math/rand"
	"reflect"
	"slices"
	"strings"
	"testing"

	"wapentake/api"
	"wapentake/chain"
	"wapentake/nest"
	"wapentake/shard"
	"wapentake/table"
)

type owners = [api.Shards]int

var (
	longValue = strings.Repeat("v", api.MaxValue)
	noGroups  = []int{0, -1, api.MaxGroups + 1, math.MinInt, math.MaxInt}
	noPlaces  = []int{-1, api.Shards, math.MinInt, math.MaxInt}
	noNums    = []int{-1, api.MaxBig + 1, math.MinInt, math.MaxInt}
	noClients = []int{-1, 8, math.MinInt, math.MaxInt}
	noNumbers = []int{0, -1, api.MaxBig + 1, math.MinInt, math.MaxInt}
	// keys are of each shard some of whose place it is (by another program's BLAKE2s).
	keys = [api.Shards][]string{{"b", "d", "abc"}, {"k", "g"}, {"a", "e", "\xff"}, {"c", "f", "\x00", "kkkkkkkkkkkkkkkk"}}
)

func put(key, value string) table.Op {
	return table.Op{Kind: table.Put, Key: key, Value: value}
}

func get(key string) table.Op {
	return table.Op{Kind: table.Get, Key: key}
}

// config is one whose groups are those that own a shard.
func config(num int, o owners) chain.Config {
	c := chain.Config{Num: num, Owner: o}
	for g := 1; g <= api.MaxGroups; g++ {
		if slices.Contains(o[:], g) {
			c.Groups = append(c.Groups, g)
		}
	}
	return c
}

func same(c, d chain.Config) bool {
	return c.Num == d.Num && slices.Equal(c.Groups, d.Groups) && c.Owner == d.Owner
}

func right(t *testing.T, err api.Errno) {
	t.Helper()
	if err != api.OK {
		t.Fatal(err)
	}
}

func made(t *testing.T, group int) *Stock {
	t.Helper()
	s, err := New(group)
	if s == nil || err != api.OK {
		t.Fatal(s, err)
	}
	return s
}

func loaded(t *testing.T, group int, text string) *Stock {
	t.Helper()
	s, err := Load(group, text)
	if s == nil || err != api.OK {
		t.Fatalf("Load(%d, %q): %v, %v", group, text, s, err)
	}
	return s
}

// some is a stock of that group whose shards, with a row each if they serve, went from owners to owners.
func some(t *testing.T, group int, from, to owners) *Stock {
	t.Helper()
	s := made(t, group)
	first := config(1, owners{4, 4, 4, 4})
	if group == 4 {
		first = config(1, owners{3, 3, 3, 3})
	}
	right(t, s.Advance(first))
	right(t, s.Advance(config(2, from)))
	for i, g := range from {
		if g == group {
			right(t, s.Install(Claim{Num: 2, Shard: i, Content: content(i)}))
		}
	}
	right(t, s.Advance(config(3, to)))
	return s
}

// content is what the i'th shard of some has, if it has anything: a row, and that client 5 did number 7.
func content(i int) string {
	row := nest.Pack([]string{keys[i][0], nest.Num(i)})
	return nest.Pack([]string{row, "5", "7", "0", ""})
}

func shardText(status int, content string) string {
	return nest.Pack([]string{nest.Num(status), content})
}

func stockText(c chain.Config, shards ...string) string {
	text, _ := chain.Text(c)
	return nest.Pack(append([]string{text}, shards...))
}

// is looks for a stock's configuration and its shards, and what goes with them.
func is(t *testing.T, s *Stock, c chain.Config, statuses [api.Shards]int, contents [api.Shards]string) {
	t.Helper()
	if got := s.Config(); !same(got, c) {
		t.Errorf("Config: %v, not %v", got, c)
	}
	var texts []string
	for i, status := range statuses {
		if got := s.Status(i); got != status {
			t.Errorf("Status(%d): %d, not %d", i, got, status)
		}
		frozen := status == shard.Frozen
		want := Claim{}
		if frozen {
			want = Claim{Num: c.Num, Shard: i, Content: contents[i]}
		}
		if claim, ok := s.Hand(i); claim != want || ok != frozen {
			t.Errorf("Hand(%d): %v, %v, not %v", i, claim, ok, want)
		}
		texts = append(texts, shardText(status, contents[i]))
	}
	if got, want := s.Text(), stockText(c, texts...); got != want {
		t.Errorf("Text: %q, not %q", got, want)
	}
	for _, i := range noPlaces {
		claim, ok := s.Hand(i)
		if s.Status(i) != shard.Absent || claim != (Claim{}) || ok {
			t.Errorf("shard %d: %d, %v, %v", i, s.Status(i), claim, ok)
		}
	}
}

func meets(t *testing.T, s *Stock, client, number int, o table.Op, met int, want shard.Answer) {
	t.Helper()
	before := s.Text()
	if m, a, err := s.Do(client, number, o); m != met || a != want || err != api.OK {
		t.Errorf("Do(%d, %d, %v): %d, %v, %v, not %d, %v", client, number, o, m, a, err, met, want)
	}
	if met != Done && s.Text() != before {
		t.Errorf("Do(%d, %d, %v) met %d, and changed it", client, number, o, met)
	}
}

func refuses(t *testing.T, s *Stock, client, number int, o table.Op, want api.Errno) {
	t.Helper()
	before := s.Text()
	if m, a, err := s.Do(client, number, o); m != 0 || a != (shard.Answer{}) || err != want {
		t.Errorf("Do(%d, %d, %v): %d, %v, %v, not %v", client, number, o, m, a, err, want)
	}
	if s.Text() != before {
		t.Errorf("Do(%d, %d, %v) changed it", client, number, o)
	}
}

// answers looks for what a call tells that changes nothing.
func answers(t *testing.T, s *Stock, name string, got func() api.Errno, want api.Errno) {
	t.Helper()
	before := s.Text()
	if err := got(); err != want {
		t.Errorf("%s: %v, not %v", name, err, want)
	}
	if s.Text() != before {
		t.Errorf("%s changed it", name)
	}
}

// 16.1.

func TestConstants(t *testing.T) {
	if Done != 0 || Wrong != 1 || Stale != 2 {
		t.Error(Done, Wrong, Stale)
	}
}

func TestPlace(t *testing.T) {
	for want, l := range keys {
		for _, key := range l {
			if i := Place(key); i != want {
				t.Errorf("Place(%q): %d, not %d", key, i, want)
			}
		}
	}
	// What is no key has a place, too.
	if i := Place(""); i != 1 {
		t.Error(i)
	}
	if i := Place(strings.Repeat("k", 100)); i != 1 {
		t.Error(i)
	}
}

func TestNew(t *testing.T) {
	for group := 1; group <= api.MaxGroups; group++ {
		is(t, made(t, group), chain.Config{}, [4]int{}, [4]string{})
	}
	for _, group := range noGroups {
		if s, err := New(group); s != nil || err != api.ErrArg {
			t.Errorf("New(%d): %v, %v", group, s, err)
		}
	}
}

// longest is a content of which a claim's text, of these numbers, has just MaxText bytes.
func longest(num, place int) string {
	head := len(nest.Pack([]string{"hand", nest.Num(num), nest.Num(place)})) + len("12345:,")
	return strings.Repeat("x", api.MaxText-head)
}

func TestClaimText(t *testing.T) {
	for _, c := range []struct {
		c    Claim
		want string
	}{
		{Claim{}, "4:hand,1:0,1:0,0:,"},
		{Claim{Took: true}, "4:took,1:0,1:0,0:,"},
		{Claim{Num: 2, Shard: 3, Content: "0:,"}, "4:hand,1:2,1:3,3:0:,,"},
		{Claim{Num: 2, Shard: 3, Content: "no content's text"}, "4:hand,1:2,1:3,17:no content's text,"},
		{Claim{Took: true, Num: api.MaxBig, Shard: 3}, "4:took,13:1099511627776,1:3,0:,"},
		{Claim{Num: api.MaxBig, Content: longest(api.MaxBig, 0)}, "4:hand,13:1099511627776,1:0,29965:" + longest(api.MaxBig, 0) + ","},
		{Claim{Num: 7, Shard: 1, Content: longest(7, 1)}, "4:hand,1:7,1:1,29978:" + longest(7, 1) + ","},
	} {
		if s, err := ClaimText(c.c); s != c.want || err != api.OK {
			t.Errorf("ClaimText(%.99v): %.99q, %v", c.c, s, err)
		}
		if len(c.want) > api.MaxText {
			t.Error(len(c.want))
		}
		if d, err := ReadClaim(c.want); d != c.c || err != api.OK {
			t.Errorf("ReadClaim(%.99q): %.99v, %v", c.want, d, err)
		}
	}
}

// What is wrong is told in the document's order: number and shard, what stands beside Took, the length.
func TestClaimTextWrong(t *testing.T) {
	refused := func(c Claim, want api.Errno) {
		t.Helper()
		if s, err := ClaimText(c); s != "" || err != want {
			t.Errorf("ClaimText(%.99v): %.99q, %v, not %v", c, s, err, want)
		}
	}
	long := strings.Repeat("x", api.MaxText)
	for _, text := range []string{"", "x", long} {
		for _, took := range []bool{false, true} {
			for _, num := range noNums {
				refused(Claim{Took: took, Num: num, Content: text}, api.ErrArg)
				refused(Claim{Took: took, Num: num, Shard: 9, Content: text}, api.ErrArg)
			}
			for _, place := range noPlaces {
				refused(Claim{Took: took, Shard: place, Content: text}, api.ErrArg)
			}
		}
	}
	refused(Claim{Took: true, Content: "x"}, api.ErrForm)
	refused(Claim{Took: true, Num: 5, Shard: 3, Content: "0:,"}, api.ErrForm)
	refused(Claim{Took: true, Content: long}, api.ErrForm)
	refused(Claim{Content: long}, api.ErrLong)
	refused(Claim{Num: 7, Shard: 1, Content: longest(7, 1) + "x"}, api.ErrLong)
	refused(Claim{Num: 77, Shard: 1, Content: longest(7, 1)}, api.ErrLong)
}

func TestReadClaimWrong(t *testing.T) {
	l := []string{
		"", "x", "4:hand,", "4:hand,1:2,1:3,", "4:hand,1:2,1:3,0:", "4:hand,1:2,1:3,0:,x", "4:hand,1:2,1:3,0:,0:,", "04:hand,1:2,1:3,0:,",
		"4:took,1:2,1:3,1:x,", "4:took,1:2,1:3,3:0:,,", "4:Hand,1:2,1:3,0:,", "4:Took,1:2,1:3,0:,", "0:,1:2,1:3,0:,", "5:hand ,1:2,1:3,0:,",
		"4:mark,1:2,1:3,0:,", "1:2,1:3,0:,4:hand,", " 4:hand,1:2,1:3,0:,", "4:hand,1:2,1:3,29979:" + longest(7, 1) + "x,",
		"4:hand,1:2,1:3," + nest.Pack([]string{strings.Repeat("x", 1<<20)}), nest.Pack([]string{"4:hand,1:2,1:3,0:,"}),
	}
	for _, n := range []string{"", "-1", "-0", "00", "01", "+1", " 1", "x", "1x", "1099511627777", "99999999999999999999"} {
		for _, kind := range []string{"hand", "took"} {
			l = append(l, nest.Pack([]string{kind, n, "3", ""}), nest.Pack([]string{kind, "2", n, ""}))
		}
	}
	l = append(l, "4:hand,1:2,1:4,0:,", "4:took,1:2,1:4,0:,")
	for _, s := range l {
		if c, err := ReadClaim(s); c != (Claim{}) || err != api.ErrForm {
			t.Errorf("ReadClaim(%.99q): %.99v, %v", s, c, err)
		}
	}
}

// 16.2.

func TestDo(t *testing.T) {
	s := made(t, 2)
	right(t, s.Advance(config(1, owners{2, 1, 2, 1})))
	meets(t, s, 0, 5, put("b", "x"), Done, shard.Answer{})
	meets(t, s, 0, 5, put("b", "y"), Done, shard.Answer{})
	meets(t, s, 0, 4, get("b"), Stale, shard.Answer{})
	meets(t, s, 0, 6, get("d"), Done, shard.Answer{Err: api.ErrNone})
	meets(t, s, 0, 7, get("b"), Done, shard.Answer{Value: "x"})
	meets(t, s, 0, 1, put("a", "z"), Done, shard.Answer{}) // numbers of another shard say nothing here
	meets(t, s, 0, 7, get("a"), Done, shard.Answer{Value: "z"})
	meets(t, s, 7, api.MaxBig, put("b", longValue), Done, shard.Answer{Value: "x"})
	meets(t, s, 1, 1, table.Op{Kind: table.Append, Key: "b", Value: "v"}, Done, shard.Answer{Err: api.ErrLong})
	for _, key := range []string{"k", "g", "c", "f"} {
		meets(t, s, 0, 1, put(key, "x"), Wrong, shard.Answer{})
		meets(t, s, 0, api.MaxBig, get(key), Wrong, shard.Answer{})
	}
	// Wrong is told ahead of Stale.
	right(t, s.Advance(config(2, owners{1, 1, 2, 1})))
	meets(t, s, 0, 4, get("b"), Wrong, shard.Answer{})
	meets(t, s, 0, 7, get("b"), Wrong, shard.Answer{})
	meets(t, s, 0, 8, get("a"), Done, shard.Answer{Value: "z"})
}

// Just a Serving shard does anything, and just that of the key's place.
func TestDoPlaces(t *testing.T) {
	for i := range api.Shards {
		o := owners{3, 3, 3, 3}
		o[i] = 1
		s := made(t, 1)
		right(t, s.Advance(config(1, o)))
		for place, l := range keys {
			for no, key := range l {
				want := Wrong
				if place == i {
					want = Done
				}
				meets(t, s, 2, 1+no, put(key, "x"), want, shard.Answer{})
			}
		}
	}
	// Absent, Serving, Frozen, Pulling.
	s := some(t, 1, owners{2, 1, 1, 2}, owners{2, 1, 2, 1})
	for place, want := range []int{Wrong, Done, Wrong, Wrong} {
		meets(t, s, 5, 8, put(keys[place][1], "x"), want, shard.Answer{})
	}
	meets(t, s, 5, 7, get("k"), Stale, shard.Answer{})
}

// What is wrong by itself is told first, in the order of the signature, also of a nil stock.
func TestDoWrong(t *testing.T) {
	var none *Stock
	serving := made(t, 1)
	right(t, serving.Advance(config(1, owners{1, 1, 1, 1})))
	wrongOps := []struct {
		o    table.Op
		want api.Errno
	}{
		{table.Op{}, api.ErrArg}, {table.Op{Kind: 6, Key: "k"}, api.ErrArg}, {get(""), api.ErrRow},
		{put(strings.Repeat("k", api.MaxKey+1), "x"), api.ErrRow}, {put("k", longValue+"v"), api.ErrRow},
		{table.Op{Kind: table.Swap, Key: "k", Old: longValue + "v"}, api.ErrRow},
		{table.Op{Kind: table.Get, Key: "k", Value: "x"}, api.ErrForm}, {table.Op{Kind: table.Put, Key: "k", Old: "x"}, api.ErrForm},
	}
	for _, s := range []*Stock{none, made(t, 1), serving} {
		for _, o := range []table.Op{{}, get(""), get("k"), {Kind: table.Get, Key: "k", Value: "x"}} {
			for _, client := range noClients {
				for _, number := range append(noNumbers, 1, api.MaxBig) {
					refuses(t, s, client, number, o, api.ErrArg)
				}
			}
			for _, number := range noNumbers {
				refuses(t, s, 0, number, o, api.ErrArg)
				refuses(t, s, 7, number, o, api.ErrArg)
			}
		}
		for _, c := range wrongOps {
			refuses(t, s, 0, 1, c.o, c.want)
			refuses(t, s, 7, api.MaxBig, c.o, c.want)
		}
	}
	refuses(t, none, 0, 1, get("k"), api.ErrState)
	refuses(t, none, 7, api.MaxBig, put("k", longValue), api.ErrState)
	// A number with an operation that is none is not done.
	meets(t, serving, 0, 1, put("k", "x"), Done, shard.Answer{})
}

// 16.3.

func TestExample(t *testing.T) {
	s := made(t, 1)
	one, two := config(1, owners{1, 1, 1, 1}), config(2, owners{2, 2, 1, 1})
	right(t, s.Advance(one))
	is(t, s, one, [4]int{shard.Serving, shard.Serving, shard.Serving, shard.Serving}, [4]string{"0:,", "0:,", "0:,", "0:,"})
	right(t, s.Advance(two))
	is(t, s, two, [4]int{shard.Frozen, shard.Frozen, shard.Serving, shard.Serving}, [4]string{"0:,", "0:,", "0:,", "0:,"})
}

// From each owner to each other one, in each place.
func TestAdvanceAll(t *testing.T) {
	for group := 1; group <= 4; group++ {
		for from := 1; from <= 4; from++ {
			for to := 1; to <= 4; to++ {
				for i := range api.Shards {
					other := group%4 + 1
					a, b := owners{other, other, other, other}, owners{other, other, other, other}
					a[i], b[i] = from, to
					want, held := [4]int{}, [4]string{}
					switch {
					case from == group && to == group:
						want[i], held[i] = shard.Serving, content(i)
					case from == group:
						want[i], held[i] = shard.Frozen, content(i)
					case to == group:
						want[i] = shard.Pulling
					}
					is(t, some(t, group, a, b), config(3, b), want, held)
				}
			}
		}
	}
}

// What nobody had begins, and what goes to nobody is Frozen; of a later number, too.
func TestAdvanceNobody(t *testing.T) {
	s := made(t, 2)
	right(t, s.Advance(chain.Config{Num: 1}))
	is(t, s, chain.Config{Num: 1}, [4]int{}, [4]string{})
	right(t, s.Advance(config(2, owners{2, 3, 2, 3})))
	is(t, s, config(2, owners{2, 3, 2, 3}), [4]int{shard.Serving, shard.Absent, shard.Serving, shard.Absent}, [4]string{"0:,", "", "0:,", ""})
	right(t, s.Advance(chain.Config{Num: 3, Groups: []int{}}))
	is(t, s, chain.Config{Num: 3}, [4]int{shard.Frozen, shard.Absent, shard.Frozen, shard.Absent}, [4]string{"0:,", "", "0:,", ""})
	right(t, s.Drop(Claim{Took: true, Num: 3, Shard: 0}))
	right(t, s.Drop(Claim{Took: true, Num: 3, Shard: 2}))
	right(t, s.Advance(config(4, owners{2, 2, 2, 2})))
	is(t, s, config(4, owners{2, 2, 2, 2}), [4]int{shard.Serving, shard.Serving, shard.Serving, shard.Serving}, [4]string{"0:,", "0:,", "0:,", "0:,"})
}

// What is wrong is told in the document's order: the configuration by itself, its number, what is not settled.
func TestAdvanceWrong(t *testing.T) {
	var none *Stock
	pulling := some(t, 1, owners{2, 2, 2, 2}, owners{2, 2, 2, 1})
	frozen := some(t, 1, owners{1, 2, 2, 2}, owners{2, 2, 2, 2})
	both := some(t, 1, owners{1, 2, 2, 2}, owners{2, 1, 2, 2})
	settled := some(t, 1, owners{1, 2, 1, 2}, owners{1, 2, 1, 2})
	wrong := []chain.Config{
		{Num: 4, Owner: owners{1, 1, 1, 1}}, {Num: 4, Groups: []int{1}}, {Num: 4, Groups: []int{2, 1}, Owner: owners{1, 2, 1, 2}},
		{Num: -1}, {Num: api.MaxBig + 1}, {Num: math.MaxInt}, {Num: 4, Groups: []int{5}, Owner: owners{5, 5, 5, 5}},
		{Num: 1, Owner: owners{0, 0, 0, 7}},
	}
	for _, s := range []*Stock{none, made(t, 1), pulling, frozen, both, settled} {
		for _, c := range wrong {
			answers(t, s, "Advance", func() api.Errno { return s.Advance(c) }, api.ErrForm)
		}
	}
	for _, s := range []*Stock{pulling, frozen, both, settled} {
		for _, num := range []int{0, 1, 2, 3, 5, api.MaxBig} {
			answers(t, s, "Advance", func() api.Errno { return s.Advance(config(num, owners{1, 2, 1, 2})) }, api.ErrArg)
			answers(t, s, "Advance", func() api.Errno { return s.Advance(chain.Config{Num: num}) }, api.ErrArg)
		}
	}
	for _, num := range []int{0, 2, 3, api.MaxBig} {
		s := made(t, 3)
		answers(t, s, "Advance", func() api.Errno { return s.Advance(config(num, owners{1, 2, 1, 2})) }, api.ErrArg)
	}
	for _, s := range []*Stock{pulling, frozen, both} {
		for _, o := range []owners{{1, 2, 1, 2}, {2, 2, 2, 2}, {1, 1, 1, 1}} {
			answers(t, s, "Advance", func() api.Errno { return s.Advance(config(4, o)) }, api.ErrState)
		}
	}
	for _, num := range []int{0, 1, 4, api.MaxBig} {
		answers(t, none, "Advance", func() api.Errno { return none.Advance(config(num, owners{1, 2, 1, 2})) }, api.ErrState)
	}
	right(t, settled.Advance(config(4, owners{2, 1, 1, 2})))
}

func TestAdvanceLast(t *testing.T) {
	text := stockText(chain.Config{Num: api.MaxBig - 1}, slices.Repeat([]string{shardText(shard.Absent, "")}, 4)...)
	s := loaded(t, 1, text)
	last := config(api.MaxBig, owners{1, 1, 1, 1})
	right(t, s.Advance(last))
	answers(t, s, "Advance", func() api.Errno { return s.Advance(last) }, api.ErrArg)
	answers(t, s, "Advance", func() api.Errno { last.Num++; return s.Advance(last) }, api.ErrForm)
}

// 16.4.

// mixed is a stock of group 1 whose shards are Absent, Serving, Frozen and Pulling, of configuration 3.
func mixed(t *testing.T) *Stock {
	t.Helper()
	return some(t, 1, owners{2, 1, 1, 2}, owners{2, 1, 2, 1})
}

func TestInstallAndDrop(t *testing.T) {
	s := mixed(t)
	c := config(3, owners{2, 1, 2, 1})
	is(t, s, c, [4]int{shard.Absent, shard.Serving, shard.Frozen, shard.Pulling}, [4]string{"", content(1), content(2), ""})
	right(t, s.Install(Claim{Num: 3, Shard: 3, Content: content(3)}))
	is(t, s, c, [4]int{shard.Absent, shard.Serving, shard.Frozen, shard.Serving}, [4]string{"", content(1), content(2), content(3)})
	meets(t, s, 5, 8, get("c"), Done, shard.Answer{Value: "3"})
	meets(t, s, 5, 7, get("c"), Stale, shard.Answer{})
	right(t, s.Drop(Claim{Took: true, Num: 3, Shard: 2}))
	if s.Status(2) != shard.Absent || s.Status(1) != shard.Serving || s.Status(3) != shard.Serving {
		t.Error(s.Text())
	}
	// What was dropped is not there when it comes back.
	right(t, s.Advance(config(4, owners{2, 1, 1, 1})))
	right(t, s.Install(Claim{Num: 4, Shard: 2, Content: "0:,"}))
	meets(t, s, 5, 1, get("a"), Done, shard.Answer{Err: api.ErrNone})
	// What Drop's claim has as a content says nothing.
	s = mixed(t)
	right(t, s.Drop(Claim{Took: true, Num: 3, Shard: 2, Content: "x"}))
	is(t, s, c, [4]int{shard.Absent, shard.Serving, shard.Absent, shard.Pulling}, [4]string{"", content(1), "", ""})
}

// What is wrong is told in the document's order: the claim by itself, number and status, the content.
func TestInstallWrong(t *testing.T) {
	var none *Stock
	s := mixed(t)
	for _, x := range []*Stock{none, made(t, 1), s} {
		install := func(c Claim) func() api.Errno { return func() api.Errno { return x.Install(c) } }
		for _, text := range []string{"", "x", "0:,", content(3)} {
			for _, num := range noNums {
				answers(t, x, "Install", install(Claim{Num: num, Shard: 3, Content: text}), api.ErrArg)
			}
			for _, place := range noPlaces {
				answers(t, x, "Install", install(Claim{Num: 3, Shard: place, Content: text}), api.ErrArg)
			}
			answers(t, x, "Install", install(Claim{Took: true, Num: 3, Shard: 3, Content: text}), api.ErrArg)
			for _, num := range []int{0, 1, 2, 4, api.MaxBig} {
				answers(t, x, "Install", install(Claim{Num: num, Shard: 3, Content: text}), api.ErrState)
			}
			for place := range 3 {
				answers(t, x, "Install", install(Claim{Num: 3, Shard: place, Content: text}), api.ErrState)
			}
		}
	}
	answers(t, none, "Install", func() api.Errno { return none.Install(Claim{Num: 3, Shard: 3, Content: content(3)}) }, api.ErrState)
	for _, text := range []string{"", "x", "1:k,1:a,", content(3) + "x", content(3)[1:], nest.Pack([]string{"", "8", "1", "0", ""})} {
		answers(t, s, "Install", func() api.Errno { return s.Install(Claim{Num: 3, Shard: 3, Content: text}) }, api.ErrForm)
	}
	right(t, s.Install(Claim{Num: 3, Shard: 3, Content: content(3)}))
	answers(t, s, "Install", func() api.Errno { return s.Install(Claim{Num: 3, Shard: 3, Content: content(3)}) }, api.ErrState)
}

func TestDropWrong(t *testing.T) {
	var none *Stock
	s := mixed(t)
	for _, x := range []*Stock{none, made(t, 1), s} {
		drop := func(c Claim) func() api.Errno { return func() api.Errno { return x.Drop(c) } }
		for _, num := range noNums {
			answers(t, x, "Drop", drop(Claim{Took: true, Num: num, Shard: 2}), api.ErrArg)
		}
		for _, place := range noPlaces {
			answers(t, x, "Drop", drop(Claim{Took: true, Num: 3, Shard: place}), api.ErrArg)
		}
		answers(t, x, "Drop", drop(Claim{Num: 3, Shard: 2}), api.ErrArg)
		answers(t, x, "Drop", drop(Claim{Num: 3, Shard: 2, Content: content(2)}), api.ErrArg)
		for _, num := range []int{0, 1, 2, 4, api.MaxBig} {
			answers(t, x, "Drop", drop(Claim{Took: true, Num: num, Shard: 2}), api.ErrState)
		}
		for _, place := range []int{0, 1, 3} {
			answers(t, x, "Drop", drop(Claim{Took: true, Num: 3, Shard: place}), api.ErrState)
		}
	}
	answers(t, none, "Drop", func() api.Errno { return none.Drop(Claim{Took: true, Num: 3, Shard: 2}) }, api.ErrState)
	right(t, s.Drop(Claim{Took: true, Num: 3, Shard: 2}))
	answers(t, s, "Drop", func() api.Errno { return s.Drop(Claim{Took: true, Num: 3, Shard: 2}) }, api.ErrState)
}

// A shard as full as it can be is a claim that can be signed.
func TestHandFull(t *testing.T) {
	s := made(t, 1)
	right(t, s.Advance(config(1, owners{1, 1, 1, 1})))
	number := 0
	for rows := 0; rows < api.MaxRows; {
		number++
		if key := strings.Repeat("k", 13) + nest.Num(100+number); Place(key) == 2 {
			meets(t, s, rows%8, 1<<39+2*rows, put(key, longValue), Done, shard.Answer{})
			meets(t, s, rows%8, 1<<39+2*rows+1, get(key), Done, shard.Answer{Value: longValue})
			rows++
		}
	}
	right(t, s.Advance(config(2, owners{1, 1, 3, 1})))
	c, ok := s.Hand(2)
	text, err := ClaimText(c)
	if d, bad := ReadClaim(text); !ok || err != api.OK || bad != api.OK || d != c || len(c.Content) < 16*80+8*64 {
		t.Errorf("%v, %v, %v, %q", ok, err, bad, c.Content)
	}
}

// 16.5.

func TestText(t *testing.T) {
	if text := made(t, 1).Text(); text != "36:6:config,1:0,0:,16:1:0,1:0,1:0,1:0,,,7:1:0,0:,,7:1:0,0:,,7:1:0,0:,,7:1:0,0:,," {
		t.Errorf("%q", text)
	}
	s := made(t, 2)
	right(t, s.Advance(config(1, owners{2, 2, 2, 2})))
	meets(t, s, 3, 9, put("k", "v"), Done, shard.Answer{})
	right(t, s.Advance(config(2, owners{1, 2, 2, 1})))
	want := "44:6:config,1:2,8:1:1,1:2,,16:1:1,1:2,1:2,1:1,,,10:1:2,3:0:,,,34:1:1,26:8:1:k,1:v,,1:3,1:9,1:0,0:,,,10:1:1,3:0:,,,10:1:2,3:0:,,,"
	if text := s.Text(); text != want {
		t.Errorf("%q", text)
	}
}

// Of each group, owner and status just those are loaded that a stock may have together.
func TestLoadStatuses(t *testing.T) {
	for group := 1; group <= api.MaxGroups; group++ {
		for owner := 0; owner <= api.MaxGroups; owner++ {
			for _, status := range []int{shard.Absent, shard.Serving, shard.Frozen, shard.Pulling} {
				for i := range api.Shards {
					other := group%4 + 1
					o := owners{other, other, other, other}
					if o[i] = owner; owner == 0 {
						o = owners{}
					}
					shards := slices.Repeat([]string{shardText(shard.Absent, "")}, api.Shards)
					shards[i] = shardText(status, "")
					if status == shard.Serving || status == shard.Frozen {
						shards[i] = shardText(status, content(i))
					}
					text := stockText(config(5, o), shards...)
					may := (status == shard.Serving || status == shard.Pulling) == (owner == group)
					s, err := Load(group, text)
					if may != (err == api.OK) || may != (s != nil) || may && s.Text() != text || !may && err != api.ErrForm {
						t.Errorf("Load(%d, %q): %v, %v", group, text, s, err)
					}
				}
			}
		}
	}
}

func TestLoadWrong(t *testing.T) {
	right := mixed(t).Text()
	is(t, loaded(t, 1, right), config(3, owners{2, 1, 2, 1}), [4]int{shard.Absent, shard.Serving, shard.Frozen, shard.Pulling}, [4]string{"", content(1), content(2), ""})
	for _, group := range noGroups {
		for _, text := range []string{"", "x", right, made(t, 1).Text()} {
			if s, err := Load(group, text); s != nil || err != api.ErrArg {
				t.Errorf("Load(%d, %q): %v, %v", group, text, s, err)
			}
		}
	}
	parts, _ := nest.Unpack(right)
	l := []string{"", "x", "0:,", right[1:], right[:len(right)-1], right + "x", right + "0:,", right + right, "0" + right, nest.Pack([]string{right})}
	l = append(l, nest.Pack(parts[:4]), nest.Pack(parts[1:]), nest.Pack(append(slices.Clone(parts), parts[4])), nest.Pack(parts[:1]))
	l = append(l, nest.Pack([]string{parts[0], nest.Pack(parts[1:])}))
	for i := range parts {
		for _, text := range []string{"", "x", "1:4,0:,", "1:1,0:,", "1:0,3:0:,,", "6:config,1:3,0:,16:1:1,1:1,1:1,1:1,,", parts[i] + "x", parts[i][1:], parts[(i+1)%5]} {
			x := slices.Clone(parts)
			x[i] = text
			l = append(l, nest.Pack(x))
		}
	}
	for _, text := range l {
		if s, err := Load(1, text); s != nil || err != api.ErrForm {
			t.Errorf("Load(1, %q): %v, %v", text, s, err)
		}
	}
	for group := 2; group <= api.MaxGroups; group++ {
		if s, err := Load(group, right); s != nil || err != api.ErrForm {
			t.Errorf("Load(%d, %q): %v, %v", group, right, s, err)
		}
	}
}

// Bytes that are changed, lost or added here and there: what is loaded, or read, has just that text.
func TestSpoilt(t *testing.T) {
	rnd := rand.New(rand.NewSource(1))
	claim, _ := ClaimText(Claim{Num: 12, Shard: 2, Content: "0:,"})
	for _, text := range []string{mixed(t).Text(), claim} {
		for range 20000 {
			b := []byte(text)
			for range 1 + rnd.Intn(2) {
				i, x := rnd.Intn(len(b)), "0123456789:,ka\x00-"[rnd.Intn(16)]
				switch rnd.Intn(3) {
				case 0:
					b[i] = x
				case 1:
					b = append(b[:i], b[i+1:]...)
				case 2:
					b = append(b[:i:i], append([]byte{x}, b[i:]...)...)
				}
			}
			s, err := Load(1, string(b))
			if err == api.OK && s.Text() != string(b) || err != api.OK && (err != api.ErrForm || s != nil) {
				t.Fatalf("Load(%q): %v, %v", b, s, err)
			}
			c, err := ReadClaim(string(b))
			if same, bad := ClaimText(c); err == api.OK && (same != string(b) || bad != api.OK) || err != api.OK && (err != api.ErrForm || c != (Claim{})) {
				t.Fatalf("ReadClaim(%q): %v, %v", b, c, err)
			}
		}
	}
}

// A nil stock, and one that New did not make.

func TestNilStock(t *testing.T) {
	var s *Stock
	for _, i := range append(noPlaces, 0, 1, 2, 3) {
		if c, ok := s.Hand(i); s.Status(i) != shard.Absent || c != (Claim{}) || ok {
			t.Error(s.Status(i), c, ok)
		}
	}
	if s.Text() != "" || !same(s.Config(), chain.Config{}) {
		t.Error(s.Text(), s.Config())
	}
}

func TestZeroStock(t *testing.T) {
	var s Stock
	is(t, &s, chain.Config{}, [4]int{}, [4]string{})
	meets(t, &s, 0, 1, get("k"), Wrong, shard.Answer{})
	s.Advance(config(1, owners{1, 2, 1, 2}))
	s.Install(Claim{Num: 1})
	s.Drop(Claim{Took: true, Num: 1})
	s.Text()
}

// R3.

func TestNothingIsShared(t *testing.T) {
	groups := []int{1, 2, 9, 9}
	c := chain.Config{Num: 1, Groups: groups[:2], Owner: owners{1, 2, 1, 2}}
	s := made(t, 1)
	right(t, s.Advance(c))
	if !slices.Equal(groups, []int{1, 2, 9, 9}) {
		t.Error(groups)
	}
	before := s.Text()
	groups[0], groups[1] = 7, 7
	l := s.Config().Groups
	l = l[:cap(l)]
	for i := range l {
		l[i] = 8
	}
	if s.Text() != before || !same(s.Config(), config(1, owners{1, 2, 1, 2})) {
		t.Errorf("%q", s.Text())
	}
	u := loaded(t, 1, before)
	meets(t, u, 0, 1, put("b", "x"), Done, shard.Answer{})
	right(t, u.Advance(config(2, owners{2, 2, 1, 1})))
	if s.Text() != before || made(t, 1).Text() == before {
		t.Errorf("%q", s.Text())
	}
}

// 16.6 and 16.7, and that nothing is done twice.

// one is what one shard would have, whoever serves it.
type one struct {
	rows    map[string]string
	numbers [api.MaxTables]int
	answers [api.MaxTables]shard.Answer
}

// world has a stock of each group, each of which goes on along one chain when it likes, and what the shards have.
type world struct {
	chain  *chain.Chain
	stocks [api.MaxGroups]*Stock
	shards [api.Shards]*one
	met    map[string]int
}

func newWorld(t *testing.T) *world {
	w := &world{chain: chain.New(), met: map[string]int{}}
	for i := range w.stocks {
		w.stocks[i] = made(t, 1+i)
	}
	for i := range w.shards {
		w.shards[i] = &one{rows: map[string]string{}}
	}
	return w
}

// ask has each stock append for a client: at most one of them does it, and just once.
func (w *world) ask(t *testing.T, client, number int, key string) {
	t.Helper()
	x := w.shards[Place(key)]
	served := 0
	for i, s := range w.stocks {
		met, want := Wrong, shard.Answer{}
		if s.Status(Place(key)) == shard.Serving {
			served++
			met, want = x.ask(client, number, key)
		}
		if m, a, err := s.Do(client, number, table.Op{Kind: table.Append, Key: key, Value: nest.Num(client)}); m != met || a != want || err != api.OK {
			t.Fatalf("group %d: %d, %v, %v, not %d, %v", 1+i, m, a, err, met, want)
		}
		w.met[[]string{"done", "wrong", "stale"}[met]]++
	}
	if served > 1 {
		t.Fatalf("%q is served by %d", key, served)
	}
}

func (x *one) ask(client, number int, key string) (int, shard.Answer) {
	if number < x.numbers[client] {
		return Stale, shard.Answer{}
	}
	if number > x.numbers[client] {
		a := shard.Answer{Value: x.rows[key] + nest.Num(client)}
		if len(a.Value) > api.MaxValue {
			a = shard.Answer{Err: api.ErrLong}
		} else {
			x.rows[key] = a.Value
		}
		x.numbers[client], x.answers[client] = number, a
	}
	return Done, x.answers[client]
}

// advance has a stock go on, if there is a next configuration: just a settled one does.
func (w *world) advance(t *testing.T, s *Stock) {
	t.Helper()
	c, err := w.chain.Get(s.Config().Num + 1)
	if err != api.OK {
		return
	}
	want := api.OK
	for i := range api.Shards {
		if status := s.Status(i); status == shard.Frozen || status == shard.Pulling {
			want = api.ErrState
		}
	}
	if err := s.Advance(c); err != want {
		t.Fatalf("Advance(%v): %v, not %v", c, err, want)
	}
	w.met["advanced"]++
}

// contentOf is what the i'th shard of a stock has, by the stock's text.
func contentOf(s *Stock, i int) string {
	l, _ := nest.Unpack(s.Text())
	l, _ = nest.Unpack(l[1+i])
	return l[1]
}

// hand hands the i'th shard of s, if it is Frozen, to its owner, if that pulls it by the same number, and drops it then.
func (w *world) hand(t *testing.T, s *Stock, i int) {
	t.Helper()
	c, ok := s.Hand(i)
	if !ok {
		return
	}
	text, _ := ClaimText(c)
	c, err := ReadClaim(text)
	right(t, err)
	to := w.stocks[s.Config().Owner[i]-1]
	if to.Config().Num != c.Num {
		if err := to.Install(c); err != api.ErrState {
			t.Fatal(err)
		}
		return
	}
	right(t, to.Install(c))
	if to.Status(i) != shard.Serving || contentOf(to, i) != c.Content || contentOf(s, i) != c.Content {
		t.Fatalf("%q, %q, not %q", contentOf(to, i), contentOf(s, i), c.Content)
	}
	right(t, s.Drop(Claim{Took: true, Num: c.Num, Shard: i}))
	if s.Status(i) != shard.Absent || contentOf(s, i) != "" || contentOf(to, i) != c.Content {
		t.Fatalf("%q, %q", s.Text(), to.Text())
	}
	w.met["handed"]++
}

// look looks whether each shard is at one place at most, and served just by its owner.
func (w *world) look(t *testing.T) {
	t.Helper()
	for i := range api.Shards {
		held := 0
		for g, s := range w.stocks {
			status := s.Status(i)
			if status == shard.Serving || status == shard.Frozen {
				held++
			}
			if status == shard.Serving && s.Config().Owner[i] != 1+g {
				t.Fatalf("group %d serves %d: %q", 1+g, i, s.Text())
			}
		}
		if held > 1 {
			t.Fatalf("shard %d is held %d times", i, held)
		}
	}
}

func (w *world) step(t *testing.T, rnd *rand.Rand) {
	t.Helper()
	place := rnd.Intn(api.MaxGroups)
	s := w.stocks[place]
	switch rnd.Intn(8) {
	case 0:
		x := chain.Command{Kind: 1 + rnd.Intn(3), Group: 1 + rnd.Intn(4)}
		if x.Kind == chain.Move {
			x.Shard = rnd.Intn(4)
		}
		w.chain.Do(x)
	case 1, 2:
		w.advance(t, s)
	case 3, 4:
		w.hand(t, s, rnd.Intn(4))
	case 5:
		w.stocks[place] = loaded(t, 1+place, s.Text())
	default:
		i, client := rnd.Intn(4), rnd.Intn(api.MaxTables)
		w.ask(t, client, max(1, w.shards[i].numbers[client]-1+rnd.Intn(4)), keys[i][rnd.Intn(len(keys[i]))])
	}
	w.look(t)
}

func TestOneMap(t *testing.T) {
	rnd := rand.New(rand.NewSource(2))
	met := map[string]int{}
	for range 30 {
		w := newWorld(t)
		for range 1500 {
			w.step(t, rnd)
		}
		for what, n := range w.met {
			met[what] += n
		}
	}
	for _, what := range []string{"done", "wrong", "stale", "advanced", "handed"} {
		if met[what] < 500 {
			t.Errorf("%s: %d times", what, met[what])
		}
	}
}

// R6: what is loaded of its text does all that follows alike.

func TestLoadedDoesAlike(t *testing.T) {
	rnd := rand.New(rand.NewSource(3))
	for range 300 {
		s := mixed(t)
		u := loaded(t, 1, s.Text())
		for range 60 {
			seed := rnd.Int63()
			l, m := did(s, seed), did(u, seed)
			if !reflect.DeepEqual(l, m) {
				t.Fatalf("%v, not %v", m, l)
			}
			u = loaded(t, 1, u.Text())
		}
	}
}

// did is all that a step, which the seed chooses, tells.
func did(s *Stock, seed int64) []any {
	rnd := rand.New(rand.NewSource(seed))
	var l []any
	num := s.Config().Num
	i := rnd.Intn(api.Shards)
	switch rnd.Intn(5) {
	case 0:
		l = append(l, s.Advance(config(num+1, owners{1 + rnd.Intn(2), 1 + rnd.Intn(2), 1 + rnd.Intn(2), 1})))
	case 1:
		l = append(l, s.Install(Claim{Num: num, Shard: i, Content: content(i)}))
	case 2:
		l = append(l, s.Drop(Claim{Took: true, Num: num, Shard: i}))
	default:
		met, a, err := s.Do(rnd.Intn(9), rnd.Intn(12), table.Op{Kind: rnd.Intn(6), Key: keys[i][rnd.Intn(2)], Value: "ab"[:rnd.Intn(3)]})
		l = append(l, met, a, err)
	}
	c, ok := s.Hand(i)
	return append(l, s.Status(i), c, ok, s.Config().Owner, s.Text())
}
