package haul

import (
	"math"
	"math/rand"
	"reflect"
	"strings"
	"testing"

	"wapentake/api"
	"wapentake/cert"
	"wapentake/chain"
	"wapentake/memo"
	"wapentake/roster"
	"wapentake/seal"
	"wapentake/stock"
)

const seed = "seed"

func ring(t *testing.T) *seal.Ring {
	t.Helper()
	r, err := seal.New(seed)
	if err != api.OK {
		t.Fatal(err)
	}
	return r
}

func newHaul(t *testing.T, f, groups int) *Haul {
	t.Helper()
	h, err := New(roster.Roster{F: f, Groups: groups, Clients: 1}, seed)
	if err != api.OK {
		t.Fatal(err)
	}
	return h
}

// configText is the text of a configuration, of which there are two of each number from 1 on.
func configText(t *testing.T, num, which int) string {
	t.Helper()
	c := chain.Config{Num: num}
	if num > 0 {
		g := 1 + which
		c.Groups, c.Owner = []int{g}, [api.Shards]int{g, g, g, g}
	}
	s, err := chain.Text(c)
	if err != api.OK {
		t.Fatal(err)
	}
	return s
}

func claimText(t *testing.T, c stock.Claim) string {
	t.Helper()
	s, err := stock.ClaimText(c)
	if err != api.OK {
		t.Fatal(err)
	}
	return s
}

func handText(t *testing.T, num, shard int, content string) string {
	t.Helper()
	return claimText(t, stock.Claim{Num: num, Shard: shard, Content: content})
}

func tookText(t *testing.T, num, shard int) string {
	t.Helper()
	return claimText(t, stock.Claim{Took: true, Num: num, Shard: shard})
}

// signed is a memo of a replica with its tag.
func signed(t *testing.T, kind, group, no int, text string) memo.Memo {
	t.Helper()
	m, err := memo.Sign(ring(t), memo.Memo{Kind: kind, From: api.Party{Group: group, No: no}, Text: text})
	if err != api.OK {
		t.Fatal(err)
	}
	return m
}

func wantPut(t *testing.T, h *Haul, m memo.Memo, want bool, e api.Errno) {
	t.Helper()
	had := 0
	if h != nil {
		had = h.Len()
	}
	is, err := h.Put(m)
	if is != want || err != e {
		t.Errorf("Put(%d of %v): %v, %v, not %v, %v", m.Kind, m.From, is, err, want, e)
	}
	if e != api.OK && h != nil && h.Len() != had {
		t.Errorf("Put(%d of %v): refused, but %d things are there, not %d", m.Kind, m.From, h.Len(), had)
	}
}

// wantCert asks for a certificate of a text of a group, with the tags of these replicas.
func wantCert(t *testing.T, h *Haul, topic, i, num, group int, text string, nos ...int) {
	t.Helper()
	want := cert.Cert{Text: text, Group: group}
	for _, no := range nos {
		tag, err := ring(t).Tag(api.Party{Group: group, No: no}, text)
		if err != api.OK {
			t.Fatal(err)
		}
		want.Tags = append(want.Tags, cert.Tag{No: no, Tag: tag})
	}
	if c, ok := h.Cert(topic, i, num); !ok || !reflect.DeepEqual(c, want) {
		t.Errorf("Cert(%d, %d, %d): %#v, %v, not %#v", topic, i, num, c, ok, want)
	}
}

func wantNone(t *testing.T, h *Haul, topic, i, num int) {
	t.Helper()
	if c, ok := h.Cert(topic, i, num); ok || !reflect.DeepEqual(c, cert.Cert{}) {
		t.Errorf("Cert(%d, %d, %d): %#v, %v", topic, i, num, c, ok)
	}
}

// 21.1.

func TestTopics(t *testing.T) {
	if Rule != 0 || Hand != 1 || Took != 2 {
		t.Error(Rule, Hand, Took)
	}
}

func TestNew(t *testing.T) {
	good := roster.Roster{F: 1, Groups: 2, Clients: 1}
	long := strings.Repeat("x", 33)
	for i, c := range []struct {
		x    roster.Roster
		seed string
		want api.Errno
	}{
		{good, "", api.OK},
		{good, long[:32], api.OK},
		{roster.Roster{F: 3, Groups: 4, Clients: 8}, "s", api.OK},
		{good, long, api.ErrLong},
		{roster.Roster{}, "", api.ErrArg},
		{roster.Roster{F: 4, Groups: 2, Clients: 1}, "", api.ErrArg},
		{roster.Roster{F: -1, Groups: 2, Clients: 1}, "", api.ErrArg},
		{roster.Roster{F: 1, Groups: 5, Clients: 1}, "", api.ErrArg},
		{roster.Roster{F: 1, Groups: 2, Clients: math.MaxInt}, "", api.ErrArg},
		{roster.Roster{}, long, api.ErrArg},
	} {
		h, err := New(c.x, c.seed)
		if err != c.want || (h == nil) != (c.want != api.OK) {
			t.Errorf("%d: %v, not %v", i, err, c.want)
		}
		if h != nil && h.Len() != 0 {
			t.Errorf("%d: %d things", i, h.Len())
		}
	}
}

func TestPutOtherKinds(t *testing.T) {
	h := newHaul(t, 1, 2)
	for _, kind := range []int{memo.Ask, memo.Order, memo.Settle, memo.Mark, memo.Change, memo.Begin, memo.Stable, memo.Status, memo.Reply, memo.Want, 0, -1, 13, math.MinInt, math.MaxInt} {
		m := signed(t, memo.Config, 0, 1, configText(t, 1, 0))
		m.Kind = kind
		for _, x := range []*Haul{h, nil, {}} {
			wantPut(t, x, m, false, api.ErrArg)
			wantPut(t, x, memo.Memo{Kind: kind}, false, api.ErrArg)
		}
	}
}

// What is wrong is told in the order of the chapter: what is no memo, whose word it is, what it says.
func TestPutErrors(t *testing.T) {
	h := newHaul(t, 1, 2)
	config, hand := configText(t, 1, 0), handText(t, 2, 1, "c")
	other, err := seal.New("another seed")
	if err != api.OK {
		t.Fatal(err)
	}
	foreign, err := memo.Sign(other, memo.Memo{Kind: memo.Config, Text: config})
	if err != api.OK {
		t.Fatal(err)
	}
	with := func(m memo.Memo, change func(*memo.Memo)) memo.Memo {
		change(&m)
		return m
	}
	good, claim := signed(t, memo.Config, 0, 1, config), signed(t, memo.Claim, 1, 1, hand)
	for i, c := range []struct {
		m    memo.Memo
		want api.Errno
	}{
		{with(good, func(m *memo.Memo) { m.From.Group = 5 }), api.ErrArg},
		{with(good, func(m *memo.Memo) { m.From.No = 16; m.View = 1 }), api.ErrArg},
		{with(good, func(m *memo.Memo) { m.From.Group = -1; m.Tag = "" }), api.ErrArg},
		{with(claim, func(m *memo.Memo) { m.From.Group = math.MinInt }), api.ErrArg},
		{with(good, func(m *memo.Memo) { m.View = 1 }), api.ErrForm},
		{with(claim, func(m *memo.Memo) { m.Number = 2 }), api.ErrForm},
		{with(good, func(m *memo.Memo) { m.Tag = "" }), api.ErrForm},
		{with(claim, func(m *memo.Memo) { m.Tag += "x" }), api.ErrForm},
		{with(claim, func(m *memo.Memo) { m.Text = strings.Repeat("x", api.MaxWire/2+1) }), api.ErrForm},
		{with(good, func(m *memo.Memo) { m.Tag = "0123456789abcdef" }), api.ErrTag},
		{with(good, func(m *memo.Memo) { m.From.No = 2 }), api.ErrTag},
		{with(claim, func(m *memo.Memo) { m.From.No = 9 }), api.ErrTag},
		{with(claim, func(m *memo.Memo) { m.From.Group = 0 }), api.ErrTag},
		{with(claim, func(m *memo.Memo) { m.Text = "x" }), api.ErrTag},
		{foreign, api.ErrTag},
		{signed(t, memo.Config, 1, 0, config), api.ErrWho},
		{signed(t, memo.Config, 2, 3, config), api.ErrWho},
		{signed(t, memo.Config, 0, 4, config), api.ErrWho},
		{signed(t, memo.Config, 0, 15, "x"), api.ErrWho},
		{signed(t, memo.Claim, 0, 0, hand), api.ErrWho},
		{signed(t, memo.Claim, 0, 0, "x"), api.ErrWho},
		{signed(t, memo.Claim, 1, 4, hand), api.ErrWho},
		{signed(t, memo.Claim, 3, 0, hand), api.ErrWho},
		{signed(t, memo.Claim, 4, 3, "x"), api.ErrWho},
		{signed(t, memo.Config, 0, 3, ""), api.ErrForm},
		{signed(t, memo.Config, 0, 3, hand), api.ErrForm},
		{signed(t, memo.Config, 0, 3, config+"x"), api.ErrForm},
		{signed(t, memo.Claim, 2, 3, ""), api.ErrForm},
		{signed(t, memo.Claim, 2, 3, config), api.ErrForm},
		{signed(t, memo.Claim, 2, 3, "4:took,1:2,1:4,0:,"), api.ErrForm},
		{signed(t, memo.Claim, 2, 3, "4:took,1:2,1:1,1:c,"), api.ErrForm},
		{signed(t, memo.Claim, 2, 3, "4:hand,2:-1,1:1,1:c,"), api.ErrForm},
		{signed(t, memo.Claim, 2, 3, strings.Repeat("x", api.MaxText+1)), api.ErrForm},
	} {
		if is, err := h.Put(c.m); is || err != c.want || h.Len() != 0 {
			t.Errorf("%d: %v, %v, not %v; %d things", i, is, err, c.want, h.Len())
		}
	}
	wantPut(t, h, good, true, api.OK)
	wantPut(t, h, claim, true, api.OK)
}

func TestPutNumbers(t *testing.T) {
	h := newHaul(t, 0, 2)
	config := func(num, which int) memo.Memo { return signed(t, memo.Config, 0, 0, configText(t, num, which)) }
	// One of the number 0 is something, where nothing was.
	wantPut(t, h, config(0, 0), true, api.OK)
	wantPut(t, h, config(0, 0), false, api.OK)
	wantCert(t, h, Rule, 0, 0, 0, configText(t, 0, 0), 0)
	wantPut(t, h, config(3, 0), true, api.OK)
	wantNone(t, h, Rule, 0, 0)
	// Of one number the first counts.
	wantPut(t, h, config(3, 1), false, api.OK)
	wantCert(t, h, Rule, 0, 3, 0, configText(t, 3, 0), 0)
	wantPut(t, h, config(2, 0), false, api.OK)
	wantNone(t, h, Rule, 0, 2)
	wantPut(t, h, config(4, 1), true, api.OK)
	wantCert(t, h, Rule, 0, 4, 0, configText(t, 4, 1), 0)
	wantNone(t, h, Rule, 0, 3)
	wantPut(t, h, config(api.MaxBig, 1), true, api.OK)
	wantPut(t, h, config(api.MaxBig, 0), false, api.OK)
	wantCert(t, h, Rule, 0, api.MaxBig, 0, configText(t, api.MaxBig, 1), 0)
	if h.Len() != 1 {
		t.Error(h.Len())
	}

	claim := func(text string) memo.Memo { return signed(t, memo.Claim, 1, 0, text) }
	wantPut(t, h, claim(handText(t, 0, 2, "")), true, api.OK)
	wantPut(t, h, claim(handText(t, 2, 2, "a")), true, api.OK)
	wantPut(t, h, claim(handText(t, 2, 2, "b")), false, api.OK)
	wantPut(t, h, claim(handText(t, 1, 2, "b")), false, api.OK)
	wantCert(t, h, Hand, 2, 2, 1, handText(t, 2, 2, "a"), 0)
	if h.Len() != 2 {
		t.Error(h.Len())
	}
}

// What is there of another replica, topic or shard does not count.
func TestPutApart(t *testing.T) {
	h := newHaul(t, 1, 2)
	things := 0
	add := func(m memo.Memo) {
		t.Helper()
		things++
		wantPut(t, h, m, true, api.OK)
		if h.Len() != things {
			t.Errorf("%d things, not %d", h.Len(), things)
		}
	}
	for no := range 4 {
		add(signed(t, memo.Config, 0, no, configText(t, 90-no, 0)))
	}
	for group := 1; group <= 2; group++ {
		for no := range 4 {
			for shard := range api.Shards {
				// Falling numbers, so that one that took another one's place would be seen.
				num := 80 - 10*group - no*api.Shards - shard
				add(signed(t, memo.Claim, group, no, tookText(t, num, shard)))
				add(signed(t, memo.Claim, group, no, handText(t, num-30, shard, "c")))
			}
		}
	}
}

// 21.2.

func TestExample(t *testing.T) {
	h := newHaul(t, 0, 1)
	text := configText(t, 3, 0)
	wantNone(t, h, Rule, 0, 3)
	wantPut(t, h, signed(t, memo.Config, 0, 0, text), true, api.OK)
	wantCert(t, h, Rule, 0, 3, 0, text, 0)
}

func TestCertOfEnough(t *testing.T) {
	for f := 0; f <= api.MaxFaults; f++ {
		x := roster.Roster{F: f, Groups: 2, Clients: 1}
		for topic, c := range []struct {
			kind, group, shard int
			text               string
		}{
			{memo.Config, 0, 0, configText(t, 5, 0)},
			{memo.Claim, 2, 3, handText(t, 5, 3, "c")},
			{memo.Claim, 1, 1, tookText(t, 5, 1)},
		} {
			h := newHaul(t, f, 2)
			var nos []int
			for no := x.N() - 1; no >= 0; no-- {
				if len(nos) < x.Need() {
					wantNone(t, h, topic, c.shard, 5)
				} else {
					wantCert(t, h, topic, c.shard, 5, c.group, c.text, nos...)
				}
				wantPut(t, h, signed(t, c.kind, c.group, no, c.text), true, api.OK)
				nos = append([]int{no}, nos...)
			}
			wantCert(t, h, topic, c.shard, 5, c.group, c.text, nos...)
			// Not of anything else.
			for _, other := range [][3]int{
				{topic, c.shard, 4}, {topic, c.shard, 6}, {topic, c.shard, 0}, {topic, c.shard, -1}, {topic, c.shard, math.MaxInt},
				{topic, c.shard + 1, 5}, {topic, c.shard - 1, 5}, {topic, math.MinInt, 5}, {topic, 4, 5},
				{(topic + 1) % 3, c.shard, 5}, {(topic + 2) % 3, c.shard, 5}, {topic + 3, c.shard, 5}, {-1, c.shard, 5}, {math.MaxInt, c.shard, 5},
			} {
				wantNone(t, h, other[0], other[1], other[2])
			}
		}
	}
}

// Replicas that said something else, or with another number, do not count; those of two groups do not count together.
func TestCertOfOneTextAndGroup(t *testing.T) {
	h := newHaul(t, 1, 3)
	same, other := handText(t, 2, 1, "c"), handText(t, 2, 1, "d")
	wantPut(t, h, signed(t, memo.Claim, 1, 0, other), true, api.OK)
	wantPut(t, h, signed(t, memo.Claim, 1, 1, same), true, api.OK)
	wantPut(t, h, signed(t, memo.Claim, 1, 2, same), true, api.OK)
	wantPut(t, h, signed(t, memo.Claim, 2, 3, same), true, api.OK)
	wantPut(t, h, signed(t, memo.Claim, 3, 0, same), true, api.OK)
	wantNone(t, h, Hand, 1, 2)
	wantPut(t, h, signed(t, memo.Claim, 1, 3, same), true, api.OK)
	wantCert(t, h, Hand, 1, 2, 1, same, 1, 2, 3)
	// One of them goes on.
	wantPut(t, h, signed(t, memo.Claim, 1, 2, handText(t, 3, 1, "c")), true, api.OK)
	wantNone(t, h, Hand, 1, 2)
	wantNone(t, h, Hand, 1, 3)
}

func TestCertOfLeastGroup(t *testing.T) {
	h := newHaul(t, 1, 4)
	text, other := tookText(t, 2, 1), tookText(t, 2, 2)
	for _, group := range []int{4, 2, 3, 1} {
		for no := range 4 {
			wantPut(t, h, signed(t, memo.Claim, group, no, other), true, api.OK)
			if group > 1 || no < 2 {
				wantPut(t, h, signed(t, memo.Claim, group, no, text), true, api.OK)
			}
		}
		if group == 4 {
			wantCert(t, h, Took, 1, 2, 4, text, 0, 1, 2, 3)
		} else {
			wantCert(t, h, Took, 1, 2, 2, text, 0, 1, 2, 3)
		}
	}
	wantCert(t, h, Took, 2, 2, 1, other, 0, 1, 2, 3)
	wantPut(t, h, signed(t, memo.Claim, 1, 2, text), true, api.OK)
	wantCert(t, h, Took, 1, 2, 1, text, 0, 1, 2)
}

func TestNilHaul(t *testing.T) {
	for _, h := range []*Haul{nil, {}} {
		good := signed(t, memo.Config, 0, 0, configText(t, 1, 0))
		wantPut(t, h, good, false, api.ErrState)
		wantPut(t, h, signed(t, memo.Claim, 1, 0, tookText(t, 1, 0)), false, api.ErrState)
		// Of what else is wrong nothing is told.
		wantPut(t, h, memo.Memo{Kind: memo.Config}, false, api.ErrState)
		wantPut(t, h, memo.Memo{Kind: memo.Claim, From: api.Party{Group: 9}, View: -1}, false, api.ErrState)
		wantPut(t, h, memo.Memo{Kind: memo.Want}, false, api.ErrArg)
		for topic := -1; topic <= 3; topic++ {
			wantNone(t, h, topic, 0, 0)
			wantNone(t, h, topic, 0, 1)
		}
		if h.Len() != 0 {
			t.Error(h.Len())
		}
	}
}

// thing is one of a plain haul: a list that is gone through from its beginning.
type thing struct {
	about
	num  int
	text string
}

// someThing is one of few, so that they meet.
func someThing(t *testing.T, rnd *rand.Rand, x roster.Roster) (memo.Memo, thing) {
	num, shard := rnd.Intn(4), rnd.Intn(2)
	who := api.Party{Group: rnd.Intn(x.Groups + 1), No: rnd.Intn(x.N())}
	if who.Group == 0 {
		text := configText(t, num, rnd.Intn(8)/7)
		return signed(t, memo.Config, 0, who.No, text), thing{about{who, Rule, 0}, num, text}
	}
	topic, text := Hand, handText(t, num, shard, "c"[:min(1, rnd.Intn(8))])
	if rnd.Intn(2) == 0 {
		topic, text = Took, tookText(t, num, shard)
	}
	return signed(t, memo.Claim, who.Group, who.No, text), thing{about{who, topic, shard}, num, text}
}

// putPlain puts it into a list: whether it is there now.
func putPlain(l []thing, x thing) ([]thing, bool) {
	for i, had := range l {
		if had.about == x.about {
			if had.num >= x.num {
				return l, false
			}
			l[i] = x
			return l, true
		}
	}
	return append(l, x), true
}

// certPlain is the group and the text of which enough replicas are there, and which.
func certPlain(l []thing, x roster.Roster, topic, shard, num int) (int, string, []int) {
	for group := range x.Groups + 1 {
		for least := range x.N() {
			var text string
			var nos []int
			for no := range x.N() {
				for _, y := range l {
					if y.about != (about{api.Party{Group: group, No: no}, topic, shard}) || y.num != num {
						continue
					}
					if no == least {
						text, nos = y.text, append(nos, no)
					} else if text == y.text {
						nos = append(nos, no)
					}
				}
			}
			if len(nos) >= x.Need() {
				return group, text, nos
			}
		}
	}
	return 0, "", nil
}

// 21.1 to 21.3: runs of what replicas say, held against a plain list; what is made is a right certificate.
func TestRuns(t *testing.T) {
	made := 0
	for run := range 24 {
		rnd := rand.New(rand.NewSource(int64(run)))
		x := roster.Roster{F: run % 3, Groups: 1 + run%2, Clients: 1}
		h := newHaul(t, x.F, x.Groups)
		var l []thing
		for range 150 {
			m, y := someThing(t, rnd, x)
			var is bool
			l, is = putPlain(l, y)
			wantPut(t, h, m, is, api.OK)
			if h.Len() != len(l) {
				t.Fatalf("%d things, not %d", h.Len(), len(l))
			}
			topic, shard, num := y.topic, y.shard, rnd.Intn(4)
			group, text, nos := certPlain(l, x, topic, shard, num)
			if nos == nil {
				wantNone(t, h, topic, shard, num)
				continue
			}
			made++
			wantCert(t, h, topic, shard, num, group, text, nos...)
			if c, _ := h.Cert(topic, shard, num); cert.Check(ring(t), c, x.N(), x.Need()) != api.OK {
				t.Errorf("not right: %#v", c)
			}
		}
	}
	if made < 100 {
		t.Errorf("only %d certificates", made)
	}
}

// 21.4: of two hauls, each of which hears what it may, the certificates of a group have one text, as long as f of its replicas at most said other things.
func TestOneCertificate(t *testing.T) {
	both := 0
	for run := range 300 {
		rnd := rand.New(rand.NewSource(int64(run)))
		x := roster.Roster{F: 1 + run%3, Groups: 1, Clients: 1}
		odd := rnd.Perm(x.N())[:x.F]
		isOdd := func(no int) bool {
			for _, o := range odd {
				if o == no {
					return true
				}
			}
			return false
		}
		honest := handText(t, 2, 1, "c")
		var l [2]*Haul
		for i := range l {
			l[i] = newHaul(t, x.F, x.Groups)
			for _, no := range rnd.Perm(x.N()) {
				text := honest
				if isOdd(no) {
					text = handText(t, 2+rnd.Intn(2), 1, "cd"[rnd.Intn(2):][:1])
				}
				if rnd.Intn(8) > 0 {
					wantPut(t, l[i], signed(t, memo.Claim, 1, no, text), true, api.OK)
				}
			}
		}
		a, okA := l[0].Cert(Hand, 1, 2)
		b, okB := l[1].Cert(Hand, 1, 2)
		if okA && okB {
			both++
		}
		if okA && a.Text != honest || okB && b.Text != honest {
			t.Fatalf("%#v, %#v", a, b)
		}
		if _, ok := l[0].Cert(Hand, 1, 3); ok {
			t.Fatal("a certificate of what f replicas said")
		}
	}
	if both < 50 {
		t.Errorf("only %d times both have one", both)
	}
}

// R3, R6: a certificate is new memory, and the same each time.
func TestCertIsNew(t *testing.T) {
	h := newHaul(t, 1, 1)
	text := configText(t, 1, 0)
	for no := range 4 {
		wantPut(t, h, signed(t, memo.Config, 0, no, text), true, api.OK)
	}
	a, _ := h.Cert(Rule, 0, 1)
	b, _ := h.Cert(Rule, 0, 1)
	for i := range a.Tags {
		a.Tags[i] = cert.Tag{No: 9, Tag: "x"}
	}
	for i := range a.Tags[:cap(a.Tags)] {
		a.Tags[:cap(a.Tags)][i] = cert.Tag{No: 9, Tag: "x"}
	}
	if cert.Check(ring(t), b, 4, 3) != api.OK {
		t.Error("two certificates share their tags")
	}
	wantCert(t, h, Rule, 0, 1, 0, text, 0, 1, 2, 3)
}

// P1: memos of all kinds and numbers.
func TestTotality(t *testing.T) {
	rnd := rand.New(rand.NewSource(3))
	numbers := []int{0, 1, 2, 3, 4, 10, 11, 16, -1, api.MaxBig, api.MaxBig + 1, math.MinInt, math.MaxInt}
	some := func() int { return numbers[rnd.Intn(len(numbers))] }
	texts := []string{"", "x", configText(t, 1, 0), tookText(t, 1, 1), handText(t, 1, 1, "c"), "0123456789abcdef"}
	h := newHaul(t, 1, 2)
	for range 20000 {
		m := memo.Memo{Kind: some(), From: api.Party{Group: some(), No: some()}, Text: texts[rnd.Intn(len(texts))], Tag: texts[rnd.Intn(len(texts))]}
		if rnd.Intn(4) == 0 {
			m.View, m.Number = some(), some()
		}
		if s, err := memo.Sign(ring(t), m); err == api.OK && rnd.Intn(2) == 0 {
			m = s
		}
		is, err := h.Put(m)
		if is && err != api.OK {
			t.Fatal(is, err)
		}
		h.Cert(some(), some(), some())
	}
	if n := h.Len(); n == 0 || n > 4+2*4*2*api.Shards {
		t.Errorf("%d things", n)
	}
}
