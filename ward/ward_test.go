package ward

import (
	"math"
	"slices"
	"strings"
	"testing"

	"wapentake/api"
	"wapentake/cert"
	"wapentake/chain"
	"wapentake/mark"
	"wapentake/memo"
	"wapentake/nest"
	"wapentake/order"
	"wapentake/peer"
	"wapentake/roster"
	"wapentake/seal"
	"wapentake/shard"
	"wapentake/shift"
	"wapentake/stock"
	"wapentake/table"
)

const (
	seed    = "seed"
	clients = -1
)

func ring(t *testing.T) *seal.Ring {
	t.Helper()
	r, err := seal.New(seed)
	if err != api.OK {
		t.Fatal(err)
	}
	return r
}

// signed are the bytes of a memo, signed by its party.
func signed(t *testing.T, m memo.Memo) string {
	t.Helper()
	m, err := memo.Sign(ring(t), m)
	if err != api.OK {
		t.Fatal(m.Kind, err)
	}
	return bytesOf(t, m)
}

func bytesOf(t *testing.T, m memo.Memo) string {
	t.Helper()
	b, err := memo.Encode(m)
	if err != api.OK {
		t.Fatal(m.Kind, err)
	}
	return b
}

func orderText(t *testing.T, o order.Order) string {
	t.Helper()
	s, err := order.Text(ring(t), o)
	if err != api.OK {
		t.Fatal(err)
	}
	return s
}

// askOf is the letter with which a client asks for an order.
func askOf(t *testing.T, o order.Order) string {
	t.Helper()
	return bytesOf(t, memo.Memo{Kind: memo.Ask, From: api.Party{Group: clients, No: o.Client}, Text: orderText(t, o)})
}

func configText(t *testing.T, c chain.Config) string {
	t.Helper()
	s, err := chain.Text(c)
	if err != api.OK {
		t.Fatal(err)
	}
	return s
}

func claimText(t *testing.T, c stock.Claim) string {
	t.Helper()
	s, err := stock.ClaimText(c)
	if err != api.OK {
		t.Fatal(err)
	}
	return s
}

// certOf is the certificate of a text with the tags of a group's first replicas.
func certOf(t *testing.T, group int, text string, count int) cert.Cert {
	t.Helper()
	c := cert.Cert{Text: text, Group: group}
	for no := range count {
		tag, err := ring(t).Tag(api.Party{Group: group, No: no}, text)
		if err != api.OK {
			t.Fatal(err)
		}
		c.Tags = append(c.Tags, cert.Tag{No: no, Tag: tag})
	}
	return c
}

// The configurations of a chain that joins group 1, then 2, and moves a shard.
var (
	first  = chain.Config{Num: 1, Groups: []int{1}, Owner: [api.Shards]int{1, 1, 1, 1}}
	second = chain.Config{Num: 2, Groups: []int{1, 2}, Owner: [api.Shards]int{2, 2, 1, 1}}
	third  = chain.Config{Num: 3, Groups: []int{1, 2}, Owner: [api.Shards]int{2, 2, 1, 2}}
)

// desk is one ward that a test talks to, as everybody else.
type desk struct {
	t   *testing.T
	x   roster.Roster
	who api.Party
	w   *Ward
}

func newDesk(t *testing.T, f, group, no int) desk {
	t.Helper()
	x := roster.Roster{F: f, Groups: 3, Clients: 2}
	who := api.Party{Group: group, No: no}
	w, err := New(x, who, seed)
	if err != api.OK {
		t.Fatal(err)
	}
	return desk{t: t, x: x, who: who, w: w}
}

// hear has the ward hear a memo of somebody, signed.
func (d desk) hear(group, no int, m memo.Memo) []peer.Out {
	d.t.Helper()
	m.From = api.Party{Group: group, No: no}
	return d.w.Hear(signed(d.t, m))
}

// hearConfig has it hear enough replicas of the controller's tell a configuration, hearClaim enough of a group claim something; both are silent.
func (d desk) hearConfig(c chain.Config) {
	d.t.Helper()
	for no := range d.x.Need() {
		d.want(d.hear(controller, no, memo.Memo{Kind: memo.Config, Text: configText(d.t, c)}))
	}
}

func (d desk) hearClaim(group int, c stock.Claim) {
	d.t.Helper()
	for no := range d.x.Need() {
		d.want(d.hear(group, no, memo.Memo{Kind: memo.Claim, Text: claimText(d.t, c)}))
	}
}

// advance has the stock itself go on.
func (d desk) advance(l ...chain.Config) {
	d.t.Helper()
	for _, c := range l {
		if err := d.w.Peer().Stock().Advance(c); err != api.OK {
			d.t.Fatal(err)
		}
	}
}

// sent are the letters with which the ward sends a memo of its own to some ends.
func (d desk) sent(m memo.Memo, ends ...int) []peer.Out {
	d.t.Helper()
	m.From = d.who
	var out []peer.Out
	for _, to := range ends {
		out = append(out, peer.Out{To: to, Text: signed(d.t, m)})
	}
	return out
}

// status are the letters of the peer's fourth tick, while it has done so many numbers.
func (d desk) status(done int) []peer.Out {
	d.t.Helper()
	return d.sent(memo.Memo{Kind: memo.Status, Number: done}, d.x.Others(d.who)...)
}

func (d desk) wants(num int) []peer.Out {
	d.t.Helper()
	return d.sent(memo.Memo{Kind: memo.Want, Number: num}, d.x.Group(controller)...)
}

func (d desk) claims(c stock.Claim, groups ...int) []peer.Out {
	d.t.Helper()
	var ends []int
	for _, group := range groups {
		ends = append(ends, d.x.Group(group)...)
	}
	return d.sent(memo.Memo{Kind: memo.Claim, Text: claimText(d.t, c)}, ends...)
}

func (d desk) took(num int, groups []int, shards ...int) []peer.Out {
	d.t.Helper()
	var out []peer.Out
	for _, i := range shards {
		out = append(out, d.claims(stock.Claim{Took: true, Num: num, Shard: i}, groups...)...)
	}
	return out
}

// orders are the letters with which the ward orders something, and, as the primary, proposes it, if it may.
func (d desk) orders(kind int, c cert.Cert, proposed bool) []peer.Out {
	d.t.Helper()
	text := orderText(d.t, order.Order{Kind: kind, Cert: c})
	out := d.sent(memo.Memo{Kind: memo.Ask, Text: text}, d.x.Others(d.who)...)
	if proposed {
		m := memo.Memo{Kind: memo.Order, Number: d.w.Peer().Done() + 1, Text: nest.Pack([]string{text})}
		out = append(out, d.sent(m, d.x.Others(d.who)...)...)
	}
	return out
}

// duties has the ward tick till its duties are done: what it sends at the last one.
func (d desk) duties() []peer.Out {
	d.t.Helper()
	for range 3 {
		d.want(d.w.Tick())
	}
	return d.w.Tick()
}

func show(out []peer.Out) string {
	var b strings.Builder
	for _, o := range out {
		m, _ := memo.Decode(o.Text)
		b.WriteString(" to " + nest.Num(o.To) + ": " + nest.Pack([]string{nest.Num(m.Kind), nest.Num(m.From.No), nest.Num(m.View), nest.Num(m.Number), m.Text[:min(len(m.Text), 40)]}))
	}
	return b.String()
}

func (d desk) want(got []peer.Out, want ...[]peer.Out) {
	d.t.Helper()
	if all := slices.Concat(want...); !slices.Equal(got, all) {
		d.t.Errorf("letters:%s, not%s", show(got), show(all))
	}
}

func (d desk) wantStock(num int, statuses ...int) {
	d.t.Helper()
	s := d.w.Peer().Stock()
	if n := s.Config().Num; n != num {
		d.t.Errorf("configuration %d, not %d", n, num)
	}
	for i, want := range statuses {
		if got := s.Status(i); got != want {
			d.t.Errorf("shard %d is %d, not %d", i, got, want)
		}
	}
}

// content is what a shard has that is Serving or Frozen.
func content(t *testing.T, s *stock.Stock, i int) string {
	t.Helper()
	l, err := nest.Unpack(s.Text())
	if err != api.OK {
		t.Fatal(err)
	}
	parts, err := nest.Unpack(l[1+i])
	if err != api.OK {
		t.Fatal(err)
	}
	return parts[1]
}

// keyOf is a key of a shard.
func keyOf(i, which int) string {
	for n := 0; ; n++ {
		key := "k" + nest.Num(n)
		if stock.Place(key) != i {
			continue
		}
		if which == 0 {
			return key
		}
		which--
	}
}

// fill has a stock that serves all shards have something in each of them.
func fill(t *testing.T, s *stock.Stock) {
	t.Helper()
	for i := range api.Shards {
		if met, _, err := s.Do(0, i+1, table.Op{Kind: table.Put, Key: keyOf(i, 0), Value: "v"}); met != stock.Done || err != api.OK {
			t.Fatal(met, err)
		}
	}
}

// 22.1.

func TestNew(t *testing.T) {
	good := roster.Roster{F: 1, Groups: 2, Clients: 3}
	long := strings.Repeat("x", 33)
	for i, c := range []struct {
		x    roster.Roster
		who  api.Party
		seed string
		want api.Errno
	}{
		{good, api.Party{Group: 0, No: 0}, "", api.OK},
		{good, api.Party{Group: 2, No: 3}, long[:32], api.OK},
		{roster.Roster{}, api.Party{}, "", api.ErrArg},
		{roster.Roster{F: 1, Groups: 5, Clients: 3}, api.Party{}, "", api.ErrArg},
		{good, api.Party{Group: 3, No: 0}, "", api.ErrArg},
		{good, api.Party{Group: 0, No: 4}, "", api.ErrArg},
		{good, api.Party{Group: 1, No: -1}, "", api.ErrArg},
		{good, api.Party{Group: -1, No: 0}, "", api.ErrArg},
		{good, api.Party{Group: math.MinInt, No: math.MaxInt}, "", api.ErrArg},
		{good, api.Party{Group: -1, No: 0}, long, api.ErrArg},
		{roster.Roster{}, api.Party{}, long, api.ErrArg},
		{good, api.Party{Group: 1, No: 0}, long, api.ErrLong},
	} {
		w, err := New(c.x, c.who, c.seed)
		_, wantErr := peer.New(c.x, c.who, c.seed)
		if err != c.want || err != wantErr || (w == nil) != (c.want != api.OK) {
			t.Errorf("%d: %v, not %v", i, err, c.want)
		}
		if w != nil && (w.Peer() == nil || w.Peer().Done() != 0 || w.Rejects() != 0) {
			t.Errorf("%d: it has done something", i)
		}
	}
}

func TestNilWard(t *testing.T) {
	want := bytesOf(t, memo.Memo{Kind: memo.Want, From: api.Party{Group: clients}, Number: 1})
	config := signed(t, memo.Memo{Kind: memo.Config, Text: configText(t, first)})
	ask := askOf(t, order.Order{Kind: order.Rule, Number: 1, Command: chain.Command{Kind: chain.Join, Group: 1}})
	for _, w := range []*Ward{nil, {}} {
		for _, text := range []string{"", "x", want, config, ask, strings.Repeat("x", api.MaxWire+1)} {
			if out := w.Hear(text); len(out) != 0 {
				t.Error(show(out))
			}
		}
		for range 20 {
			if out := w.Tick(); len(out) != 0 {
				t.Error(show(out))
			}
		}
		if w.Peer() != nil || w.Rejects() != 0 {
			t.Error(w.Peer(), w.Rejects())
		}
	}
}

// The peer is handed out itself.
func TestPeerIsItself(t *testing.T) {
	d := newDesk(t, 0, 1, 0)
	d.advance(first)
	if d.w.Peer() != d.w.Peer() {
		t.Error("two peers")
	}
	d.wantStock(1, shard.Serving, shard.Serving, shard.Serving, shard.Serving)
	d.w.Peer().Hear("x")
	if d.w.Rejects() != 1 {
		t.Error(d.w.Rejects())
	}
}

// Want.

func TestWant(t *testing.T) {
	for f := range 2 {
		d := newDesk(t, f, controller, 0)
		l := []chain.Config{{}}
		for group := 1; group <= 3; group++ {
			if _, _, err := d.w.Peer().Moot().Do(0, group, chain.Command{Kind: chain.Join, Group: group}); err != api.OK {
				t.Fatal(err)
			}
			l = append(l, d.w.Peer().Moot().Last())
		}
		n := d.x.N()
		for _, c := range []struct {
			from api.Party
			end  int
		}{
			{api.Party{Group: 1, No: n - 1}, 2*n - 1},
			{api.Party{Group: 3, No: 0}, 3 * n},
			{api.Party{Group: clients, No: 1}, 4*n + 1},
			{api.Party{Group: controller, No: n - 1}, n - 1},
			{api.Party{Group: controller, No: 0}, 0},
		} {
			for num := range l {
				var want []peer.Out
				if num >= 1 {
					want = d.sent(memo.Memo{Kind: memo.Config, Text: configText(t, l[num])}, c.end)
				}
				d.want(d.hear(c.from.Group, c.from.No, memo.Memo{Kind: memo.Want, Number: num}), want)
			}
			for _, num := range []int{4, 5, 1000, api.MaxBig} {
				d.want(d.hear(c.from.Group, c.from.No, memo.Memo{Kind: memo.Want, Number: num}))
			}
		}
		// Who is not there has no end.
		for _, from := range []api.Party{{Group: 1, No: n}, {Group: 4, No: 0}, {Group: clients, No: 2}, {Group: clients, No: 15}, {Group: controller, No: 15}} {
			d.want(d.hear(from.Group, from.No, memo.Memo{Kind: memo.Want, Number: 1}))
		}
		if d.w.Rejects() != 0 || d.w.Peer().Done() != 0 {
			t.Error(d.w.Rejects(), d.w.Peer().Done())
		}
	}
}

// A group of shards' has no configurations to tell.
func TestWantOfShards(t *testing.T) {
	d := newDesk(t, 1, 1, 0)
	d.advance(first)
	for num := range 4 {
		d.want(d.hear(2, 1, memo.Memo{Kind: memo.Want, Number: num}))
		d.want(d.hear(clients, 1, memo.Memo{Kind: memo.Want, Number: num}))
	}
	if d.w.Rejects() != 0 {
		t.Error(d.w.Rejects())
	}
}

// What is no memo, or not verified, is the peer's, which counts it.
func TestRejects(t *testing.T) {
	d := newDesk(t, 1, 1, 2)
	good := memo.Memo{Kind: memo.Config, Text: configText(t, first)}
	spoilt, err := memo.Sign(ring(t), good)
	if err != api.OK {
		t.Fatal(err)
	}
	spoilt.From.No = 1
	claim, err := memo.Sign(ring(t), memo.Memo{Kind: memo.Claim, From: api.Party{Group: 2}, Text: "x"})
	if err != api.OK {
		t.Fatal(err)
	}
	claim.Text = "y"
	wanted := bytesOf(t, memo.Memo{Kind: memo.Want, Number: 1})
	for i, text := range []string{"", "x", bytesOf(t, spoilt), bytesOf(t, claim), wanted[1:], wanted + "x", strings.Repeat("x", api.MaxWire), strings.Repeat("x", api.MaxWire+1)} {
		d.want(d.w.Hear(text))
		if d.w.Rejects() != i+1 || d.w.Peer().Rejects() != i+1 {
			t.Errorf("%d: %d rejects", i, d.w.Rejects())
		}
	}
	was := d.w.Rejects()
	// Memos that are verified, though they say nothing that a haul has, are none.
	d.want(d.hear(controller, 0, memo.Memo{Kind: memo.Config, Text: "x"}))
	d.want(d.hear(2, 0, memo.Memo{Kind: memo.Config, Text: configText(t, first)}))
	d.want(d.hear(2, 9, memo.Memo{Kind: memo.Claim, Text: "x"}))
	d.want(d.w.Hear(wanted))
	if d.w.Rejects() != was {
		t.Error(d.w.Rejects())
	}
}

// All other letters are the peer's, and so is the tick ahead of the duties.
func TestOtherLettersAreThePeers(t *testing.T) {
	for group := controller; group <= 1; group++ {
		d := newDesk(t, 1, group, 0)
		twin, err := peer.New(d.x, d.who, seed)
		if err != api.OK {
			t.Fatal(err)
		}
		change, _ := shift.Encode(shift.Change{View: 1})
		var l []string
		for number := 1; number <= 3; number++ {
			o := order.Order{Kind: order.Rule, Client: 1, Number: number, Command: chain.Command{Kind: chain.Join, Group: number}}
			if group != controller {
				o = order.Order{Kind: order.Do, Client: 1, Number: number, Op: table.Op{Kind: table.Put, Key: "k"}}
			}
			l = append(l, askOf(t, o))
			batch := nest.Pack([]string{orderText(t, o)})
			for _, kind := range []int{memo.Order, memo.Settle} {
				for no := 1; no < 4; no++ {
					l = append(l, signed(t, memo.Memo{Kind: kind, From: api.Party{Group: group, No: no}, Number: number, Text: batch}))
				}
			}
			l = append(l, signed(t, memo.Memo{Kind: memo.Status, From: api.Party{Group: group, No: number}}))
			l = append(l, signed(t, memo.Memo{Kind: memo.Change, From: api.Party{Group: group, No: number}, View: 1, Text: change}))
			l = append(l, "x", signed(t, memo.Memo{Kind: memo.Reply, From: api.Party{Group: group, No: number}, Number: 1}))
		}
		for i, text := range l {
			d.want(d.w.Hear(text), twin.Hear(text))
			out, want := d.w.Tick(), twin.Tick()
			if (i+1)%4 != 0 || group == controller {
				d.want(out, want)
			} else if d.want(out[:len(want)], want); len(out) == len(want) {
				t.Errorf("no duties at tick %d", i+1)
			}
		}
		if d.w.Peer().Text() != twin.Text() || d.w.Rejects() != twin.Rejects() || d.w.Peer().Done() < 1 || d.w.Rejects() != 3 {
			t.Error(d.w.Peer().Done(), d.w.Rejects())
		}
	}
}

// Duty 1.

func TestWantsTheNext(t *testing.T) {
	for f := range 2 {
		d := newDesk(t, f, 2, f)
		for range 3 {
			d.want(d.duties(), d.status(0), d.wants(1))
		}
		d.advance(first)
		d.want(d.duties(), d.status(0), d.wants(2))
		// Shards that are on their way come first.
		d.advance(second)
		d.wantStock(2, shard.Pulling, shard.Pulling, shard.Absent, shard.Absent)
		d.want(d.duties(), d.status(0))
		d.hearConfig(third)
		d.want(d.duties(), d.status(0))
	}
	for no := range 4 {
		d := newDesk(t, 1, controller, no)
		d.hearConfig(first)
		d.want(d.duties(), d.status(0))
		d.want(d.duties(), d.status(0))
	}
}

func TestOrdersAdvance(t *testing.T) {
	for no := range 4 {
		d := newDesk(t, 1, 1, no)
		text := configText(t, first)
		d.want(d.hear(controller, 1, memo.Memo{Kind: memo.Config, Text: text}))
		d.want(d.hear(controller, 0, memo.Memo{Kind: memo.Config, Text: text}))
		d.want(d.hear(2, 2, memo.Memo{Kind: memo.Config, Text: text}))
		d.want(d.duties(), d.status(0), d.wants(1))
		d.want(d.hear(controller, 2, memo.Memo{Kind: memo.Config, Text: text}))
		c := certOf(t, controller, text, 3)
		d.want(d.duties(), d.status(0), d.wants(1), d.orders(order.Advance, c, no == 0))
		// It was asked for, so it waits; it is ordered again all the same, for fellows that did not hear it.
		d.want(d.duties(), d.status(0), d.wants(1), d.orders(order.Advance, c, false))
		d.wantStock(0, shard.Absent)
	}
}

// Of another number than the next one nothing is ordered.
func TestOrdersNoOtherAdvance(t *testing.T) {
	for f := range 2 {
		d := newDesk(t, f, 1, 0)
		d.hearConfig(second)
		d.want(d.duties(), d.status(0), d.wants(1))
		d.wantStock(0)
		// Who said something of a greater number said that.
		d.hearConfig(first)
		d.want(d.duties(), d.status(0), d.wants(1))
		d.wantStock(0)
	}
}

// What is ordered alone is done at once; with it the duties end, as the configuration is another one.
func TestAdvanceAlone(t *testing.T) {
	d := newDesk(t, 0, 1, 0)
	d.hearConfig(first)
	d.want(d.duties(), d.wants(1))
	d.wantStock(1, shard.Serving, shard.Serving, shard.Serving, shard.Serving)
	d.want(d.duties(), d.wants(2), d.took(1, []int{2, 3}, 0, 1, 2, 3))
	d.hearConfig(second)
	d.want(d.duties(), d.wants(2))
	d.wantStock(2, shard.Frozen, shard.Frozen, shard.Serving, shard.Serving)
	if d.w.Peer().Done() != 2 {
		t.Error(d.w.Peer().Done())
	}
}

// Duty 2.

func TestHandsOver(t *testing.T) {
	for f := range 2 {
		d := newDesk(t, f, 1, 0)
		d.advance(first)
		fill(t, d.w.Peer().Stock())
		d.advance(second)
		d.wantStock(2, shard.Frozen, shard.Frozen, shard.Serving, shard.Serving)
		claim := func(i int) stock.Claim {
			return stock.Claim{Num: 2, Shard: i, Content: content(t, d.w.Peer().Stock(), i)}
		}
		zero, one := d.claims(claim(0), 2), d.claims(claim(1), 2)
		took := d.took(2, []int{2, 3}, 2, 3)
		for range 2 {
			d.want(d.duties(), d.status(0), zero, one, took)
		}
		// What is of another number, or not Took, or of too few, drops nothing.
		d.hearClaim(2, stock.Claim{Took: true, Num: 1, Shard: 1})
		d.hearClaim(2, stock.Claim{Num: 2, Shard: 1})
		for no := range d.x.Need() - 1 {
			d.hear(2, no, memo.Memo{Kind: memo.Claim, Text: claimText(t, stock.Claim{Took: true, Num: 2, Shard: 1})})
		}
		d.want(d.duties(), d.status(0), zero, one, took)
		d.hearClaim(2, stock.Claim{Took: true, Num: 2, Shard: 1})
		c := certOf(t, 2, claimText(t, stock.Claim{Took: true, Num: 2, Shard: 1}), d.x.Need())
		d.want(d.duties(), d.status(0), zero, one, d.orders(order.Drop, c, f > 0), took)
		if f > 0 {
			d.want(d.duties(), d.status(0), zero, one, d.orders(order.Drop, c, false), took)
			continue
		}
		d.wantStock(2, shard.Frozen, shard.Absent, shard.Serving, shard.Serving)
		d.want(d.duties(), d.status(0), zero, took)
		d.hearClaim(2, stock.Claim{Took: true, Num: 2, Shard: 0})
		c = certOf(t, 2, claimText(t, stock.Claim{Took: true, Num: 2, Shard: 0}), d.x.Need())
		d.want(d.duties(), d.status(0), zero, d.orders(order.Drop, c, f > 0), took)
		d.wantStock(2, shard.Absent, shard.Absent, shard.Serving, shard.Serving)
		d.want(d.duties(), d.status(0), d.wants(3), took)
	}
}

// An owner that the roster has not is sent nothing.
func TestHandsOverToNobody(t *testing.T) {
	d := newDesk(t, 0, 1, 0)
	d.advance(first, chain.Config{Num: 2, Groups: []int{1, 4}, Owner: [api.Shards]int{4, 1, 1, 1}})
	d.want(d.duties(), d.took(2, []int{2, 3}, 1, 2, 3))
	d.wantStock(2, shard.Frozen)
}

// Duties 3 and 4.

func TestTakesOver(t *testing.T) {
	for f := range 2 {
		d := newDesk(t, f, 2, 0)
		d.advance(first, second)
		d.wantStock(2, shard.Pulling, shard.Pulling, shard.Absent, shard.Absent)
		d.want(d.duties(), d.status(0))
		source, _ := stock.New(1)
		source.Advance(first)
		fill(t, source)
		source.Advance(second)
		claim, _ := source.Hand(1)
		// What is of another number, or Took, or of too few that say the same, is installed nowhere.
		d.hearClaim(1, stock.Claim{Num: 1, Shard: 1, Content: claim.Content})
		d.hearClaim(1, stock.Claim{Took: true, Num: 2, Shard: 1})
		for no := range d.x.Need() - 1 {
			d.hear(1, no, memo.Memo{Kind: memo.Claim, Text: claimText(t, claim)})
		}
		if f > 0 {
			d.hear(1, 3, memo.Memo{Kind: memo.Claim, Text: claimText(t, stock.Claim{Num: 2, Shard: 1, Content: "0:,"})})
		}
		d.want(d.duties(), d.status(0))
		d.hearClaim(1, claim)
		c := certOf(t, 1, claimText(t, claim), d.x.Need())
		if f > 0 {
			d.want(d.duties(), d.status(0), d.orders(order.Install, c, true))
			d.want(d.duties(), d.status(0), d.orders(order.Install, c, false))
			d.wantStock(2, shard.Pulling, shard.Pulling)
			continue
		}
		// Alone it is done at once, so that the shard is Serving when that is asked.
		d.want(d.duties(), d.took(2, []int{1, 3}, 1))
		d.wantStock(2, shard.Pulling, shard.Serving, shard.Absent, shard.Absent)
		if got := content(t, d.w.Peer().Stock(), 1); got != claim.Content {
			t.Errorf("content %q, not %q", got, claim.Content)
		}
		// One is still on its way, so no configuration is wanted.
		d.want(d.duties(), d.took(2, []int{1, 3}, 1))
		other, _ := source.Hand(0)
		d.hearClaim(1, other)
		d.want(d.duties(), d.took(2, []int{1, 3}, 0, 1))
		d.want(d.duties(), d.wants(3), d.took(2, []int{1, 3}, 0, 1))
	}
}

func TestTellsTook(t *testing.T) {
	for f := range 2 {
		d := newDesk(t, f, 1, f)
		d.advance(first)
		for range 2 {
			d.want(d.duties(), d.status(0), d.wants(2), d.took(1, []int{2, 3}, 0, 1, 2, 3))
		}
	}
}

// A certificate of a group that can't have it orders nothing that the stock does.
func TestOwnClaimsAreNone(t *testing.T) {
	d := newDesk(t, 0, 2, 0)
	d.advance(first, second)
	d.hearClaim(2, stock.Claim{Num: 2, Shard: 0, Content: "0:,"})
	d.want(d.duties())
	d.wantStock(2, shard.Pulling, shard.Pulling)
	if d.w.Peer().Done() != 0 {
		t.Error(d.w.Peer().Done())
	}
}

// P1: behind the last number of a configuration there is none to be wanted.
func TestLastConfiguration(t *testing.T) {
	d := newDesk(t, 0, 1, 0)
	last := first
	last.Num = api.MaxBig
	empty := nest.Pack([]string{nest.Num(shard.Serving), nest.Pack([]string{""})})
	state := nest.Pack([]string{configText(t, last), empty, empty, empty, empty})
	text, err := mark.Text(1, 4, state)
	if err != api.OK {
		t.Fatal(err)
	}
	b, err := cert.Encode(certOf(t, 1, text, 1))
	if err != api.OK {
		t.Fatal(err)
	}
	d.want(d.hear(1, 0, memo.Memo{Kind: memo.Stable, Text: b}))
	d.wantStock(api.MaxBig, shard.Serving, shard.Serving, shard.Serving, shard.Serving)
	d.want(d.duties(), d.took(api.MaxBig, []int{2, 3}, 0, 1, 2, 3))
}
