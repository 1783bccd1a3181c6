package peer

import (
	"math"
	"slices"
	"strings"
	"testing"

	"wapentake/api"
	"wapentake/batch"
	"wapentake/cert"
	"wapentake/chain"
	"wapentake/mark"
	"wapentake/memo"
	"wapentake/moot"
	"wapentake/nest"
	"wapentake/order"
	"wapentake/roster"
	"wapentake/shard"
	"wapentake/shift"
	"wapentake/stock"
	"wapentake/table"
)

// desk is one peer that a test talks to, as all its fellows and clients.
type desk struct {
	t   *testing.T
	x   roster.Roster
	who api.Party
	p   *Peer
}

func newDesk(t *testing.T, f, group, no int) desk {
	t.Helper()
	x := roster.Roster{F: f, Groups: 2, Clients: 3}
	who := api.Party{Group: group, No: no}
	p, err := New(x, who, seed)
	if err != api.OK {
		t.Fatal(err)
	}
	return desk{t: t, x: x, who: who, p: p}
}

// from is a memo of a fellow, signed.
func (d desk) from(no int, m memo.Memo) memo.Memo {
	d.t.Helper()
	m.From = api.Party{Group: d.who.Group, No: no}
	return sign(d.t, m)
}

// hear has the peer hear such a memo.
func (d desk) hear(no int, m memo.Memo) []Out {
	d.t.Helper()
	return d.p.Hear(bytesOf(d.t, d.from(no, m)))
}

func (d desk) ask(client, number int) []Out {
	d.t.Helper()
	return d.p.Hear(askOf(d.t, client, asked(d.t, d.who.Group, client, number)))
}

func (d desk) ticks(n int) []Out {
	var out []Out
	for range n {
		out = append(out, d.p.Tick()...)
	}
	return out
}

// told are the letters with which the peer tells all its fellows these memos.
func (d desk) told(l ...memo.Memo) []Out {
	d.t.Helper()
	var out []Out
	for _, m := range l {
		for _, to := range d.x.Others(d.who) {
			out = append(out, Out{To: to, Text: bytesOf(d.t, d.from(d.who.No, m))})
		}
	}
	return out
}

// sentTo are the letters with which it sends them to one fellow.
func (d desk) sentTo(no int, l ...memo.Memo) []Out {
	d.t.Helper()
	var out []Out
	for _, m := range l {
		out = append(out, Out{To: d.who.Group*d.x.N() + no, Text: bytesOf(d.t, m)})
	}
	return out
}

// replied is the letter with which it replies to a client.
func (d desk) replied(client, number int, met int, err api.Errno, value string, num int) []Out {
	d.t.Helper()
	text := nest.Pack([]string{nest.Num(met), nest.Num(int(err)), value, nest.Num(num)})
	m := d.from(d.who.No, memo.Memo{Kind: memo.Reply, View: client, Number: number, Text: text})
	return []Out{{To: 3*d.x.N() + client, Text: bytesOf(d.t, m)}}
}

// show tells letters in short.
func show(out []Out) string {
	var b strings.Builder
	for _, o := range out {
		m, _ := memo.Decode(o.Text)
		b.WriteString(" to " + nest.Num(o.To) + ": " + nest.Pack([]string{nest.Num(m.Kind), nest.Num(m.From.No), nest.Num(m.View), nest.Num(m.Number), m.Text[:min(len(m.Text), 40)]}))
	}
	return b.String()
}

func (d desk) want(got []Out, want ...[]Out) {
	d.t.Helper()
	if all := slices.Concat(want...); !slices.Equal(got, all) {
		d.t.Errorf("letters:%s, not%s", show(got), show(all))
	}
}

func (d desk) wantView(view int, in bool) {
	d.t.Helper()
	if v, i := d.p.View(); v != view || i != in {
		d.t.Errorf("view %d, %v, not %d, %v", v, i, view, in)
	}
}

func (d desk) wantDone(n int) {
	d.t.Helper()
	if d.p.Done() != n {
		d.t.Errorf("%d numbers are done, not %d", d.p.Done(), n)
	}
}

func anOrder(view, number int, text string) memo.Memo {
	return memo.Memo{Kind: memo.Order, View: view, Number: number, Text: text}
}

func aSettle(view, number int, text string) memo.Memo {
	return memo.Memo{Kind: memo.Settle, View: view, Number: number, Text: text}
}

// batch is the batch of one request.
func (d desk) batch(client, number int) string {
	return nest.Pack([]string{asked(d.t, d.who.Group, client, number)})
}

// settle has the peer hear what enough fellows vote in a view, so that a number is settled.
func (d desk) settle(view, number int, text string) []Out {
	d.t.Helper()
	var out []Out
	for _, m := range []memo.Memo{anOrder(view, number, text), aSettle(view, number, text)} {
		for no := range d.x.N() {
			if no != d.who.No {
				out = append(out, d.hear(no, m)...)
			}
		}
	}
	return out
}

// 20.1.

func TestNew(t *testing.T) {
	good := roster.Roster{F: 1, Groups: 2, Clients: 3}
	long := strings.Repeat("x", 33)
	for i, c := range []struct {
		x    roster.Roster
		who  api.Party
		seed string
		want api.Errno
	}{
		{good, api.Party{Group: 0, No: 0}, "", api.OK},
		{good, api.Party{Group: 2, No: 3}, long[:32], api.OK},
		{roster.Roster{}, api.Party{}, "", api.ErrArg},
		{roster.Roster{F: 4, Groups: 2, Clients: 3}, api.Party{}, "", api.ErrArg},
		{good, api.Party{Group: 3, No: 0}, "", api.ErrArg},
		{good, api.Party{Group: 0, No: 4}, "", api.ErrArg},
		{good, api.Party{Group: 1, No: -1}, "", api.ErrArg},
		{good, api.Party{Group: -1, No: 0}, "", api.ErrArg},
		{good, api.Party{Group: math.MinInt, No: 0}, "", api.ErrArg},
		{good, api.Party{Group: -1, No: 0}, long, api.ErrArg},
		{roster.Roster{}, api.Party{}, long, api.ErrArg},
		{good, api.Party{Group: 1, No: 0}, long, api.ErrLong},
	} {
		p, err := New(c.x, c.who, c.seed)
		if err != c.want || (p == nil) != (c.want != api.OK) {
			t.Errorf("%d: %v, not %v", i, err, c.want)
		}
	}
}

func TestNewHasDoneNothing(t *testing.T) {
	d := newDesk(t, 1, 1, 2)
	d.wantView(0, true)
	d.wantDone(0)
	fresh, _ := stock.New(1)
	if d.p.Text() != fresh.Text() || d.p.Stock().Text() != fresh.Text() || d.p.Moot() != nil {
		t.Error("not a fresh stock")
	}
	if len(d.p.Log()) != 0 || d.p.Rejects() != 0 {
		t.Error(d.p.Log(), d.p.Rejects())
	}
	d = newDesk(t, 1, 0, 2)
	if d.p.Text() != moot.New().Text() || d.p.Moot() == nil || d.p.Stock() != nil {
		t.Error("not a fresh moot")
	}
}

func TestNilPeer(t *testing.T) {
	ask := askOf(t, 0, asked(t, 0, 0, 1))
	for _, p := range []*Peer{nil, {}} {
		if out := p.Hear(ask); len(out) != 0 {
			t.Error(out)
		}
		if out := p.Hear("x"); len(out) != 0 {
			t.Error(out)
		}
		for range 40 {
			if out := p.Tick(); len(out) != 0 {
				t.Error(out)
			}
		}
		if v, in := p.View(); v != 0 || in {
			t.Error(v, in)
		}
		if p.Done() != 0 || p.Text() != "" || p.Stock() != nil || p.Moot() != nil || len(p.Log()) != 0 || p.Rejects() != 0 {
			t.Error("it does something")
		}
	}
}

func TestRejects(t *testing.T) {
	d := newDesk(t, 1, 1, 2)
	good := d.from(0, anOrder(0, 1, d.batch(0, 1)))
	spoilt := good
	spoilt.Tag = "0123456789abcdef"
	others := good
	others.From.No = 1
	other, _ := New(d.x, d.who, "another seed")
	want := 0
	for i, text := range []string{"", "x", bytesOf(t, spoilt), bytesOf(t, others), bytesOf(t, good)[1:], strings.Repeat("x", api.MaxWire), strings.Repeat("x", api.MaxWire+1)} {
		want++
		if out := d.p.Hear(text); len(out) != 0 || d.p.Rejects() != want {
			t.Errorf("%d: %s, %d", i, show(out), d.p.Rejects())
		}
	}
	d.want(d.p.Hear(bytesOf(t, good)), d.told(anOrder(0, 1, d.batch(0, 1))))
	if d.p.Rejects() != want {
		t.Error(d.p.Rejects())
	}
	if out := other.Hear(bytesOf(t, good)); len(out) != 0 || other.Rejects() != 1 {
		t.Error(show(out), other.Rejects())
	}
	d.p.rejects = api.MaxBig
	if d.p.Hear("x"); d.p.Rejects() != api.MaxBig {
		t.Error(d.p.Rejects())
	}
}

// What is a memo, but nothing that a peer has to do with, does nothing, and is no reject.
func TestOtherMemos(t *testing.T) {
	d := newDesk(t, 1, 1, 0)
	batch := d.batch(0, 1)
	change, _ := shift.Encode(shift.Change{View: 1})
	for no := range 4 {
		for _, m := range []memo.Memo{
			anOrder(0, 1, batch), aSettle(0, 1, batch),
			{Kind: memo.Mark, Number: 4, Text: "state"},
			{Kind: memo.Change, View: 1, Text: change},
			{Kind: memo.Status},
		} {
			m.From = api.Party{Group: 2, No: no}
			d.want(d.p.Hear(signed(t, m)))
			m.From = api.Party{Group: 1, No: 4 + no} // no replica of the roster
			d.want(d.p.Hear(signed(t, m)))
		}
		for _, m := range []memo.Memo{
			{Kind: memo.Reply, View: 1, Number: 1, Text: "x"}, {Kind: memo.Config, Text: "x"}, {Kind: memo.Claim, Text: "x"}, {Kind: memo.Want, Number: 1},
			{Kind: memo.Ask, Text: "x"}, {Kind: memo.Stable, Text: "x"}, {Kind: memo.Begin, View: 1, Text: "x"}, {Kind: memo.Change, View: 1, Text: "x"},
		} {
			d.want(d.hear(no, m))
		}
	}
	d.want(d.ticks(3))
	d.want(d.ticks(1), d.told(memo.Memo{Kind: memo.Status}))
	d.want(d.ticks(20), slices.Repeat(d.told(memo.Memo{Kind: memo.Status}), 5))
	if d.p.Rejects() != 0 {
		t.Error(d.p.Rejects())
	}
	d.wantView(0, true)
	d.wantDone(0)
}

// Ask.

func TestAloneIsDoneAtOnce(t *testing.T) {
	d := newDesk(t, 0, 1, 0)
	text := asked(t, 1, 0, 1)
	// No configuration, no shard that serves.
	d.want(d.ask(0, 1), d.replied(0, 1, stock.Wrong, api.OK, "", 0))
	d.wantDone(1)
	d.want(d.p.Hear(askOf(t, 0, advance(t, d.x))))
	d.wantDone(2)
	if d.p.Stock().Config().Num != 1 || d.p.Text() != d.p.Stock().Text() {
		t.Error(d.p.Text())
	}
	// What met Wrong was not done, so the same number is done now.
	d.want(d.ask(0, 1), d.replied(0, 1, stock.Done, api.OK, "b", 1))
	d.wantDone(3)
	want := []Did{{1, text, stock.Wrong, shard.Answer{}}, {3, text, stock.Done, shard.Answer{Value: "b"}}}
	if !slices.Equal(d.p.Log(), want) {
		t.Error(d.p.Log())
	}
}

func TestAloneRules(t *testing.T) {
	d := newDesk(t, 0, 0, 0)
	rule := func(client, number int, x chain.Command) []Out {
		return d.p.Hear(askOf(t, client, orderText(t, order.Order{Kind: order.Rule, Client: client, Number: number, Command: x})))
	}
	d.want(rule(1, 5, chain.Command{Kind: chain.Join, Group: 1}), d.replied(1, 5, 0, api.OK, "", 1))
	d.want(rule(1, 6, chain.Command{Kind: chain.Join, Group: 1}), d.replied(1, 6, 0, api.ErrGroup, "", 1))
	d.want(rule(2, 1, chain.Command{Kind: chain.Join, Group: 2}), d.replied(2, 1, 0, api.OK, "", 2))
	// The last reply is told again, and no other one.
	d.want(rule(1, 6, chain.Command{Kind: chain.Join, Group: 1}), d.replied(1, 6, 0, api.ErrGroup, "", 1))
	d.want(rule(1, 6, chain.Command{Kind: chain.Join, Group: 2}), d.replied(1, 6, 0, api.ErrGroup, "", 1))
	d.want(rule(1, 5, chain.Command{Kind: chain.Join, Group: 1}))
	d.wantDone(3)
	if d.p.Moot().Last().Num != 2 || d.p.Text() != d.p.Moot().Text() {
		t.Error(d.p.Text())
	}
	if l := d.p.Log(); len(l) != 3 || l[1].Number != 2 || l[1].Met != stock.Done || l[1].Answer != (shard.Answer{Err: api.ErrGroup}) {
		t.Error(l)
	}
}

func TestAskForOthers(t *testing.T) {
	x := roster.Roster{F: 0, Groups: 2, Clients: 3}
	rule := orderText(t, order.Order{Kind: order.Rule, Client: 0, Number: 1, Command: chain.Command{Kind: chain.Join, Group: 1}})
	stranger := orderText(t, order.Order{Kind: order.Do, Client: 3, Number: 1, Op: table.Op{Kind: table.Get, Key: "k"}})
	good := asked(t, 1, 0, 1)
	forged := strings.Replace(good, "k0", "k1", 1)
	none := orderText(t, order.Order{Kind: order.Advance, Cert: cert.Cert{Text: "x"}})
	for group, l := range [][]string{{good, advance(t, x), stranger, ""}, {rule, stranger, forged, none, "", good + "x"}} {
		d := newDesk(t, 0, group, 0)
		for i, text := range l {
			d.want(d.p.Hear(askOf(t, 0, text)))
			if d.p.Done() != 0 || d.p.Rejects() != 0 || d.p.pool.Len() != 0 {
				t.Errorf("group %d, %d: something was done", group, i)
			}
		}
	}
	// Who sends it does not matter: what counts is who signed it.
	d := newDesk(t, 0, 1, 0)
	d.p.Hear(bytesOf(t, memo.Memo{Kind: memo.Ask, From: api.Party{Group: 2, No: 9}, Text: good}))
	d.wantDone(1)
}

// What is settled is done, whatever the pool says: a number that is not the client's greatest meets Stale.
func TestStale(t *testing.T) {
	d := newDesk(t, 1, 1, 1)
	d.settle(0, 1, nest.Pack([]string{advance(t, d.x)}))
	d.settle(0, 2, d.batch(0, 7))
	out := d.settle(0, 3, nest.Pack([]string{asked(t, 1, 0, 6), asked(t, 1, 0, 7)}))
	if l := out[len(out)-2:]; !slices.Equal(l, slices.Concat(d.replied(0, 6, stock.Stale, api.OK, "", 1), d.replied(0, 7, stock.Done, api.OK, "h", 1))) {
		t.Error(show(l))
	}
	if l := d.p.Log(); len(l) != 3 || l[1].Met != stock.Stale || l[1].Answer != (shard.Answer{}) || l[2].Answer.Value != "h" {
		t.Error(l)
	}
	d = newDesk(t, 1, 0, 1)
	d.settle(0, 1, d.batch(0, 7))
	out = d.settle(0, 2, d.batch(0, 6))
	if l := out[len(out)-1:]; !slices.Equal(l, d.replied(0, 6, 2, api.OK, "", d.p.Moot().Last().Num)) {
		t.Error(show(l))
	}
	if l := d.p.Log(); len(l) != 2 || l[1].Met != 2 || l[1].Answer != (shard.Answer{}) {
		t.Error(l)
	}
}

// Proposing.

func TestPrimaryProposes(t *testing.T) {
	d := newDesk(t, 1, 1, 0)
	one := d.batch(0, 1)
	d.want(d.ask(0, 1), d.told(anOrder(0, 1, one)))
	// One number at a time.
	d.want(d.ask(1, 1))
	d.want(d.ask(0, 1))
	d.want(d.p.Hear(askOf(t, 0, advance(t, d.x))))
	d.want(d.hear(1, anOrder(0, 1, one)))
	d.want(d.hear(2, anOrder(0, 1, one)), d.told(aSettle(0, 1, one)))
	d.want(d.hear(3, anOrder(0, 1, one)))
	d.want(d.hear(3, aSettle(0, 1, one)))
	next := nest.Pack([]string{asked(t, 1, 1, 1), advance(t, d.x)})
	d.want(d.hear(1, aSettle(0, 1, one)), d.replied(0, 1, stock.Wrong, api.OK, "", 0), d.told(anOrder(0, 2, next)))
	d.wantDone(1)
}

func TestOthersDoNotPropose(t *testing.T) {
	for no := 1; no < 4; no++ {
		d := newDesk(t, 1, 1, no)
		d.want(d.ask(0, 1))
		if !d.p.pool.Has(41, 1) {
			t.Error("it does not wait")
		}
	}
}

// Behind 8 numbers without a stable mark there is no room; when there is one, it goes on.
func TestProposingKeepsToTheWindow(t *testing.T) {
	d := newDesk(t, 1, 1, 0)
	for number := 1; number <= 8; number++ {
		one := d.batch(0, number)
		d.want(d.ask(0, number), d.told(anOrder(0, number, one)))
		d.settle(0, number, one)
		d.wantDone(number)
	}
	d.want(d.ask(0, 9))
	state := memo.Memo{Kind: memo.Mark, Number: 4, Text: d.p.Text()}
	d.want(d.hear(1, state))
	d.want(d.hear(2, state))
	// Its own mark of 4 is replaced by that of 8.
	state.Number = 8
	d.want(d.hear(1, state))
	d.want(d.hear(2, state), d.told(anOrder(0, 9, d.batch(0, 9))))
}

// Order.

func TestVoteForAProposal(t *testing.T) {
	d := newDesk(t, 1, 1, 2)
	one := d.batch(0, 1)
	// A fellow's vote is no proposal.
	d.want(d.hear(1, anOrder(0, 1, one)))
	d.want(d.hear(3, anOrder(0, 1, d.batch(1, 1))))
	d.want(d.hear(0, anOrder(0, 1, one)), d.told(anOrder(0, 1, one), aSettle(0, 1, one)))
	// The same again, and another one of the same number.
	d.want(d.hear(0, anOrder(0, 1, one)))
	d.want(d.hear(0, anOrder(0, 1, d.batch(1, 1))))
	// All numbers of the window, in any order.
	d.want(d.hear(0, anOrder(0, 8, one)), d.told(anOrder(0, 8, one)))
	d.want(d.hear(0, anOrder(0, 5, "")), d.told(anOrder(0, 5, "")))
	d.want(d.hear(0, anOrder(0, 9, one)))
	d.want(d.hear(0, anOrder(0, api.MaxBig, one)))
	// Other views.
	d.want(d.hear(1, anOrder(1, 2, one)))
	d.want(d.hear(0, anOrder(4, 2, one)))
}

func TestNoVoteForWhatMayNotBe(t *testing.T) {
	good := asked(t, 1, 0, 1)
	for i, text := range []string{
		"x",
		nest.Pack([]string{"x"}),
		nest.Pack([]string{good, ""}),
		nest.Pack([]string{good, strings.Replace(good, "k0", "k1", 1)}),
		nest.Pack([]string{good, asked(t, 0, 1, 1)}), // the controller's
		nest.Pack([]string{good, good, good, good, good}),
		nest.Pack([]string{strings.Repeat("x", batch.MaxBody+1)}),
	} {
		d := newDesk(t, 1, 1, 2)
		d.want(d.hear(0, anOrder(0, 1, text)))
		// Nor does it take another proposal for the first one.
		d.want(d.hear(0, anOrder(0, 1, nest.Pack([]string{good}))))
		// But what enough others order is settled by it, too.
		d.want(d.hear(1, anOrder(0, 1, text)))
		d.want(d.hear(3, anOrder(0, 1, text)), d.told(aSettle(0, 1, text)))
		d.want(d.hear(1, aSettle(0, 1, text)))
		d.hear(3, aSettle(0, 1, text))
		if d.p.Done() != 1 || len(d.p.Log()) > 1 {
			t.Errorf("%d: %d, %v", i, d.p.Done(), d.p.Log())
		}
	}
}

// Of a batch that is no list's text nothing is done, of others what is right; what the pool is told of is just that.
func TestDoWhatIsRight(t *testing.T) {
	d := newDesk(t, 1, 1, 2)
	good := asked(t, 1, 0, 1)
	d.settle(0, 1, nest.Pack([]string{advance(t, d.x)}))
	d.ask(1, 1)
	out := d.settle(0, 2, nest.Pack([]string{"x", strings.Replace(asked(t, 1, 1, 1), "k1", "k0", 1), good, asked(t, 0, 1, 1)}))
	d.want(out[len(out)-1:], d.replied(0, 1, stock.Done, api.OK, "b", 1))
	if d.p.Done() != 2 || len(d.p.Log()) != 1 || !d.p.pool.Has(42, 1) {
		t.Error(d.p.Done(), d.p.Log())
	}
	d.settle(0, 3, good)
	if d.p.Done() != 3 || len(d.p.Log()) != 1 {
		t.Error(d.p.Done(), d.p.Log())
	}
}

// Two batches of one number: without 2 f + 1 votes for the proposal nothing is ordered.
func TestOddPrimary(t *testing.T) {
	d := newDesk(t, 1, 1, 2)
	a, b := d.batch(0, 1), d.batch(1, 1)
	d.want(d.hear(0, anOrder(0, 1, a)), d.told(anOrder(0, 1, a)))
	d.want(d.hear(1, anOrder(0, 1, b)))
	d.want(d.hear(3, anOrder(0, 1, b)))
	d.want(d.hear(0, anOrder(0, 1, b)))
	d.want(d.hear(1, aSettle(0, 1, b)))
	d.want(d.hear(3, aSettle(0, 1, b)))
	d.want(d.hear(3, aSettle(0, 1, a)))
	d.wantDone(0)
	// 2 f + 1 that settle say what is settled, without the peer's own vote.
	d.hear(0, aSettle(0, 1, b))
	d.wantDone(1)
	if l := d.p.Log(); len(l) != 1 || l[0].Text != asked(t, 1, 1, 1) {
		t.Error(l)
	}
}

// Numbers are done in their order.
func TestDoingWaits(t *testing.T) {
	d := newDesk(t, 1, 0, 3)
	d.settle(0, 3, d.batch(0, 3))
	d.settle(0, 2, d.batch(0, 2))
	d.wantDone(0)
	d.settle(0, 1, d.batch(0, 1))
	d.wantDone(3)
	for i, l := 0, d.p.Log(); i < 3; i++ {
		if len(l) != 3 || l[i].Number != i+1 || l[i].Text != asked(t, 0, 0, i+1) {
			t.Fatal(l)
		}
	}
}

// What the stock refuses is forgotten, not done: it may be ordered again.
func TestRefusedIsForgotten(t *testing.T) {
	x := roster.Roster{F: 0, Groups: 2, Clients: 3}
	config := func(num int, owners ...int) string {
		s, err := chain.Text(chain.Config{Num: num, Groups: []int{1, 2}, Owner: [api.Shards]int(owners)})
		if err != api.OK {
			t.Fatal(err)
		}
		return orderText(t, order.Order{Kind: order.Advance, Cert: certOf(t, 0, s, x.Need())})
	}
	claim := func(kind int, c stock.Claim) string {
		s, err := stock.ClaimText(c)
		if err != api.OK {
			t.Fatal(err)
		}
		return orderText(t, order.Order{Kind: kind, Cert: certOf(t, 2, s, x.Need())})
	}
	d := newDesk(t, 0, 1, 0)
	step := func(text string, last ...int) {
		t.Helper()
		done := d.p.Done()
		d.p.Hear(askOf(t, 0, text))
		got := []int{d.p.Done() - done, d.p.Stock().Config().Num, d.p.Stock().Status(0), d.p.Stock().Status(3)}
		if !slices.Equal(got, last) {
			t.Errorf("%v, not %v", got, last)
		}
	}
	took, hand := stock.Claim{Took: true, Num: 2}, stock.Claim{Num: 3, Content: nest.Pack([]string{"", "0", "9", "0", "x"})}
	step(config(2, 2, 1, 1, 1), 1, 0, shard.Absent, shard.Absent) // 1 comes first
	step(config(1, 1, 1, 1, 1), 1, 1, shard.Serving, shard.Serving)
	step(config(1, 1, 1, 1, 1), 0, 1, shard.Serving, shard.Serving) // it is done
	step(claim(order.Drop, took), 1, 1, shard.Serving, shard.Serving)
	step(config(2, 2, 1, 1, 1), 1, 2, shard.Frozen, shard.Serving)
	step(config(3, 1, 1, 1, 2), 1, 2, shard.Frozen, shard.Serving)
	step(claim(order.Drop, took), 1, 2, shard.Absent, shard.Serving)
	step(claim(order.Drop, took), 0, 2, shard.Absent, shard.Serving)
	step(claim(order.Install, hand), 1, 2, shard.Absent, shard.Serving)
	step(config(3, 1, 1, 1, 2), 1, 3, shard.Pulling, shard.Frozen)
	step(claim(order.Install, hand), 1, 3, shard.Serving, shard.Frozen)
	step(claim(order.Install, hand), 0, 3, shard.Serving, shard.Frozen)
	if len(d.p.Log()) != 0 {
		t.Error(d.p.Log())
	}
}

// Mark and Stable.

func TestMarks(t *testing.T) {
	d := newDesk(t, 1, 0, 1)
	for number := 1; number <= 9; number++ {
		out := d.settle(0, number, d.batch(0, number))
		marked := d.told(memo.Memo{Kind: memo.Mark, Number: number, Text: d.p.Text()})
		if tail := out[max(0, len(out)-3):]; slices.Equal(tail, marked) != (number%4 == 0) {
			t.Errorf("%d: %s", number, show(tail))
		}
		if number == 8 {
			// Without enough marks 9 is not in the window; with 2 f + 1 it is.
			d.want(d.hear(0, anOrder(0, 9, "")))
			m := memo.Memo{Kind: memo.Mark, Number: 8, Text: d.p.Text()}
			d.want(d.hear(0, memo.Memo{Kind: memo.Mark, Number: 8, Text: "x"}))
			d.want(d.hear(2, m))
			d.want(d.hear(0, m)) // too late: it told another one
			d.want(d.hear(0, anOrder(0, 9, "")))
			d.want(d.hear(3, m))
			d.want(d.hear(0, anOrder(0, 8, "x")))
		}
	}
	d.wantDone(9)
	d.want(d.hear(0, anOrder(0, 16, "")), d.told(anOrder(0, 16, "")))
	d.want(d.hear(0, anOrder(0, 17, "")))
}

// stableAt is a state that a group of the controller's may have, and the certificate that it is that behind a number.
func (d desk) stableAt(number, tags int) (string, cert.Cert) {
	d.t.Helper()
	m := moot.New()
	m.Do(1, 40, chain.Command{Kind: chain.Join, Group: 2})
	text, err := mark.Text(d.who.Group, number, m.Text())
	if err != api.OK {
		d.t.Fatal(err)
	}
	return m.Text(), certOf(d.t, d.who.Group, text, tags)
}

func (d desk) stable(c cert.Cert) memo.Memo {
	d.t.Helper()
	b, err := cert.Encode(c)
	if err != api.OK {
		d.t.Fatal(err)
	}
	return memo.Memo{Kind: memo.Stable, Text: b}
}

func TestLaggingPeerAdopts(t *testing.T) {
	for _, by := range []string{"marks", "stable"} {
		d := newDesk(t, 1, 0, 1)
		d.settle(0, 1, d.batch(0, 5))
		d.settle(0, 3, d.batch(0, 7))
		d.settle(0, 7, d.batch(0, 8))
		d.ask(2, 9)
		state, c := d.stableAt(6, 3)
		var out []Out
		if by == "marks" {
			m := memo.Memo{Kind: memo.Mark, Number: 6, Text: state}
			d.want(d.hear(0, m))
			d.want(d.hear(2, m))
			d.wantDone(1)
			out = d.hear(3, m)
		} else {
			out = d.hear(3, d.stable(c))
		}
		// It has done 6, and 7, which was settled.
		d.want(out, d.replied(0, 8, 0, api.OK, "", 2))
		d.wantDone(7)
		if last := d.p.Log(); len(last) != 2 || last[1].Number != 7 || d.p.Moot().Last().Num != 2 {
			t.Error(by, last, d.p.Text())
		}
		if d.p.pool.Len() != 0 || len(d.p.settled) != 0 {
			t.Error(by, "its pool is not empty, or something is settled that is done")
		}
		d.want(d.hear(0, anOrder(0, 6, "")))
		d.want(d.hear(0, anOrder(0, 14, "")), d.told(anOrder(0, 14, "")))
		// What it did itself stays done, and is replied to.
		d.want(d.ask(0, 5))
		d.want(d.ask(0, 8), d.replied(0, 8, 0, api.OK, "", 2))
		// It is not behind any more.
		older, c := d.stableAt(5, 3)
		d.want(d.hear(3, d.stable(c)))
		if d.wantDone(7); d.p.Text() == older {
			t.Error(by, "an older state")
		}
	}
}

// A group of shards' holds a stock.
func TestLaggingStock(t *testing.T) {
	d := newDesk(t, 1, 1, 1)
	s, _ := stock.New(1)
	s.Advance(chain.Config{Num: 1, Groups: []int{1}, Owner: [api.Shards]int{1, 1, 1, 1}})
	s.Do(0, 9, table.Op{Kind: table.Put, Key: "k", Value: "v"})
	text, _ := mark.Text(1, 4, s.Text())
	d.want(d.hear(3, d.stable(certOf(t, 1, text, 3))))
	if d.wantDone(4); d.p.Text() != s.Text() || d.p.Stock().Text() != s.Text() || d.p.Stock().Status(2) != shard.Serving {
		t.Error(d.p.Text())
	}
	// It does what follows by what it holds.
	text = orderText(t, order.Order{Kind: order.Do, Client: 1, Number: 1, Op: table.Op{Kind: table.Get, Key: "k"}})
	out := d.settle(0, 5, nest.Pack([]string{text}))
	d.want(out[len(out)-1:], d.replied(1, 1, stock.Done, api.OK, "v", 1))
}

// A peer that is not behind keeps what it holds.
func TestStableOfWhatIsDone(t *testing.T) {
	d := newDesk(t, 1, 0, 1)
	for number := 1; number <= 7; number++ {
		d.settle(0, number, d.batch(0, number))
	}
	d.ask(2, 9)
	had := d.p.Text()
	_, c := d.stableAt(7, 3)
	d.want(d.hear(3, d.stable(c)))
	if d.p.Text() != had || d.p.Done() != 7 || d.p.pool.Len() != 1 {
		t.Error(d.p.Text(), d.p.Done())
	}
	d.want(d.hear(0, anOrder(0, 15, "")), d.told(anOrder(0, 15, "")))
}

func TestNoStable(t *testing.T) {
	d := newDesk(t, 1, 0, 1)
	had := d.p.Text()
	_, few := d.stableAt(6, 2)
	_, forged := d.stableAt(6, 3)
	forged.Tags[1].Tag = forged.Tags[0].Tag
	_, many := d.stableAt(6, 5)
	_, other := d.stableAt(6, 3)
	other.Group = 1
	ofOthers, _ := mark.Text(1, 6, "state")
	for i, c := range []cert.Cert{few, forged, many, other, certOf(t, 1, ofOthers, 3), certOf(t, 0, ofOthers, 3), certOf(t, 0, "x", 3), {}} {
		d.want(d.hear(3, d.stable(c)))
		if d.p.Done() != 0 || d.p.Text() != had || d.p.window.Low() != 0 {
			t.Errorf("%d: adopted", i)
		}
	}
}

// A state that enough signed, but that is none: the numbers are done, and it goes on with what it holds.
func TestStableOfNoState(t *testing.T) {
	for _, number := range []int{6, api.MaxBig} {
		d := newDesk(t, 1, 0, 1)
		had := d.p.Text()
		text, _ := mark.Text(0, number, "no state")
		d.want(d.hear(3, d.stable(certOf(t, 0, text, 3))))
		if d.p.Text() != had {
			t.Error(d.p.Text())
		}
		d.wantDone(number)
		if number == 6 {
			d.settle(0, 7, d.batch(0, 1))
			d.wantDone(7)
		}
		d.ask(0, 2)
		d.ticks(40)
		for no := range 4 {
			d.hear(no, memo.Memo{Kind: memo.Status})
		}
	}
}

// Patience.

// changes are the Changes among letters.
func changes(out []Out) []memo.Memo {
	var l []memo.Memo
	for _, o := range out {
		if m, err := memo.Decode(o.Text); err == api.OK && m.Kind == memo.Change {
			l = append(l, m)
		}
	}
	return l
}

func (d desk) changeTo(x shift.Change) memo.Memo {
	d.t.Helper()
	s, err := shift.Encode(x)
	if err != api.OK {
		d.t.Fatal(err)
	}
	return memo.Memo{Kind: memo.Change, View: x.View, Text: s}
}

func TestPatience(t *testing.T) {
	status := func(d desk, view, number int) []Out {
		return d.told(memo.Memo{Kind: memo.Status, View: view, Number: number})
	}
	for name, begin := range map[string]func(desk){
		"asked":   func(d desk) { d.ask(0, 1) },
		"ordered": func(d desk) { d.hear(3, anOrder(0, 5, "x")) },
		"settled": func(d desk) { d.hear(3, aSettle(0, 8, "x")) },
	} {
		d := newDesk(t, 1, 1, 2)
		d.want(d.ticks(3))
		begin(d)
		d.want(d.ticks(15), slices.Repeat(status(d, 0, 0), 4))
		d.wantView(0, true)
		d.want(d.ticks(1), d.told(d.changeTo(shift.Change{View: 1})))
		d.wantView(1, false)
		// The next ones take twice as long.
		for view, span := 1, 32; view < 12; view, span = view+1, min(2*span, 4096) {
			if l := changes(d.ticks(span - 1)); len(l) != 0 {
				t.Errorf("%s: leaves %d ahead of %d ticks", name, view, span)
			}
			d.wantView(view, false)
			if l := changes(d.ticks(1)); len(l) != 3 || l[0] != d.from(2, d.changeTo(shift.Change{View: view + 1})) {
				t.Errorf("%s: %v", name, l)
			}
		}
	}
}

func TestNothingToWaitFor(t *testing.T) {
	d := newDesk(t, 1, 1, 2)
	d.ticks(100)
	d.wantView(0, true)
	d.ask(0, 1)
	d.ticks(15)
	d.settle(0, 1, d.batch(0, 1))
	d.ticks(100)
	d.wantView(0, true)
	// Each number that is done is a reason to wait anew.
	d.ask(0, 2)
	for number := 2; number <= 5; number++ {
		d.ask(1, number)
		d.ticks(15)
		d.settle(0, number, d.batch(1, number))
	}
	d.ticks(15)
	d.wantView(0, true)
	d.ticks(1)
	d.wantView(1, false)
}

// A peer that has left and waits for nothing goes no further; what it was put off by, it keeps.
func TestWaitingOutside(t *testing.T) {
	d := newDesk(t, 1, 0, 2)
	d.ask(0, 1)
	d.ticks(16 + 32)
	d.wantView(2, false)
	_, c := d.stableAt(4, 3)
	d.hear(3, d.stable(c))
	d.ticks(500)
	d.wantView(2, false)
	d.ask(0, 1)
	d.ticks(63)
	d.wantView(2, false)
	d.ticks(1)
	d.wantView(3, false)
}

// Leaving.

func TestNothingIsVotedOutside(t *testing.T) {
	d := newDesk(t, 1, 1, 2)
	one := d.batch(0, 1)
	d.ask(0, 1)
	d.ticks(16)
	d.wantView(1, false)
	for _, view := range []int{0, 1} {
		d.want(d.settle(view, 1, one))
	}
	d.wantDone(0)
}

func TestLeavingTellsAll(t *testing.T) {
	d := newDesk(t, 1, 0, 2)
	_, c := d.stableAt(4, 3)
	d.hear(3, d.stable(c))
	var bests []shift.Best
	for _, number := range []int{6, 7, 12} {
		text := d.batch(0, number)
		for no := range 4 {
			if no != 2 {
				d.hear(no, anOrder(0, number, text))
			}
		}
		// With its own vote, behind the primary's, the third is enough.
		said, _ := shift.Order(0, 0, number, text)
		bests = append(bests, shift.Best{Number: number, Cert: certOf(t, 0, said, 3)})
	}
	out := changes(d.ticks(16))
	want := d.from(2, d.changeTo(shift.Change{View: 1, Low: 4, Mark: c, Bests: bests}))
	if len(out) != 3 || out[0] != want || out[1] != want || out[2] != want {
		t.Error(out, want)
	}
}

// f + 1 others that left say that one left that does as told: the peer leaves for the least of their views.
func TestFollow(t *testing.T) {
	d := newDesk(t, 1, 1, 3)
	d.want(d.hear(0, d.changeTo(shift.Change{View: 7})))
	d.want(d.hear(0, d.changeTo(shift.Change{View: 9})))
	d.want(d.hear(3, d.changeTo(shift.Change{View: 8}))) // its own
	d.wantView(0, true)
	d.want(d.hear(1, d.changeTo(shift.Change{View: 5})), d.told(d.changeTo(shift.Change{View: 5})))
	d.wantView(5, false)
	// 0 alone is beyond that.
	d.want(d.hear(1, d.changeTo(shift.Change{View: 4})))
	d.want(d.hear(2, d.changeTo(shift.Change{View: 5})))
	d.want(d.hear(2, d.changeTo(shift.Change{View: 12})), d.told(d.changeTo(shift.Change{View: 9})))
	d.wantView(9, false)
	// With f 2 it takes three.
	d = newDesk(t, 2, 1, 3)
	d.want(d.hear(0, d.changeTo(shift.Change{View: 7})))
	d.want(d.hear(1, d.changeTo(shift.Change{View: 6})))
	d.want(d.hear(2, d.changeTo(shift.Change{View: 8})), d.told(d.changeTo(shift.Change{View: 6})))
}

func TestNoChange(t *testing.T) {
	d := newDesk(t, 1, 1, 3)
	said, _ := shift.Order(1, 0, 1, "x")
	few := shift.Change{View: 3, Bests: []shift.Best{{Number: 1, Cert: certOf(t, 1, said, 2)}}}
	other := d.changeTo(shift.Change{View: 3})
	other.View = 4
	for i, m := range []memo.Memo{d.changeTo(few), d.changeTo(shift.Change{View: 3, Low: 4}), other, {Kind: memo.Change, View: 3, Text: "x"}, {Kind: memo.Change, View: 3}} {
		for no := range 3 {
			d.want(d.hear(no, m))
		}
		if view, _ := d.p.View(); view != 0 || d.p.Rejects() != 0 {
			t.Errorf("%d: view %d", i, view)
		}
	}
}

// Begin.

// beginOf is a Begin of a view, with those changes of those replicas.
func (d desk) beginOf(view int, nos []int, x shift.Change) memo.Memo {
	d.t.Helper()
	var l []string
	for _, no := range nos {
		l = append(l, bytesOf(d.t, d.from(no, d.changeTo(x))))
	}
	return memo.Memo{Kind: memo.Begin, View: view, Text: nest.Pack(l)}
}

func TestPrimaryBegins(t *testing.T) {
	d := newDesk(t, 1, 1, 1)
	x := shift.Change{View: 1}
	d.want(d.hear(3, d.changeTo(x)))
	begin := d.beginOf(1, []int{1, 2, 3}, x)
	d.want(d.hear(2, d.changeTo(x)), d.told(d.changeTo(x), begin))
	d.wantView(1, true)
	// It begins once.
	d.want(d.hear(0, d.changeTo(x)))
	d.want(d.hear(2, d.changeTo(x)))
	// The others wait for it.
	d = newDesk(t, 1, 1, 2)
	d.hear(3, d.changeTo(x))
	d.hear(0, d.changeTo(x))
	d.want(d.hear(1, d.changeTo(x)))
	d.wantView(1, false)
	d.want(d.hear(1, begin))
	d.wantView(1, true)
}

// Of more changes those of the least numbered replicas; the last one of each replica counts.
func TestWhoseChangesBegin(t *testing.T) {
	d := newDesk(t, 2, 1, 5)
	for _, no := range []int{6, 2, 4, 0} {
		d.hear(no, d.changeTo(shift.Change{View: 5}))
	}
	d.wantView(5, true)
	d = newDesk(t, 2, 1, 5)
	d.ask(0, 1)
	d.hear(6, d.changeTo(shift.Change{View: 5}))
	d.hear(2, d.changeTo(shift.Change{View: 9}))
	d.hear(2, d.changeTo(shift.Change{View: 5}))
	d.hear(0, d.changeTo(shift.Change{View: 4}))
	d.wantView(4, false)
	d.ticks(32)
	d.wantView(5, false)
	d.hear(3, d.changeTo(shift.Change{View: 5}))
	d.hear(3, d.changeTo(shift.Change{View: 6}))
	d.hear(4, d.changeTo(shift.Change{View: 5}))
	d.wantView(5, false)
	out := d.hear(1, d.changeTo(shift.Change{View: 5}))
	d.want(out, d.told(d.beginOf(5, []int{1, 2, 4, 5, 6}, shift.Change{View: 5}), anOrder(5, 1, d.batch(0, 1))))
	d.wantView(5, true)
}

func TestAloneChangesViews(t *testing.T) {
	d := newDesk(t, 0, 1, 0)
	d.p.leave(3)
	d.wantView(3, true)
	d.ask(0, 1)
	d.wantDone(1)
}

func TestBegin(t *testing.T) {
	d := newDesk(t, 1, 1, 2)
	one := d.batch(0, 1)
	d.want(d.hear(0, anOrder(0, 1, one)), d.told(anOrder(0, 1, one)))
	// Whoever sends it, a view beyond its own is entered.
	d.want(d.hear(3, d.beginOf(5, []int{0, 1, 3}, shift.Change{View: 5})))
	d.wantView(5, true)
	// What was voted in a lesser view is gone.
	d.ticks(15)
	d.want(d.hear(1, anOrder(5, 1, one)), d.told(anOrder(5, 1, one)))
	// Views that it has left, or is in, are not entered.
	for _, view := range []int{1, 4, 5} {
		d.want(d.hear(view%4, d.beginOf(view, []int{0, 1, 3}, shift.Change{View: view})))
		d.wantView(5, true)
	}
	d.ticks(16)
	d.wantView(6, false)
	d.want(d.hear(1, d.beginOf(5, []int{0, 1, 3}, shift.Change{View: 5})))
	d.wantView(6, false)
	d.want(d.hear(2, d.beginOf(6, []int{0, 1, 3}, shift.Change{View: 6})))
	d.wantView(6, true)
}

func TestNoBegin(t *testing.T) {
	d := newDesk(t, 1, 1, 2)
	x := shift.Change{View: 3}
	all := func(nos ...int) []string {
		l, err := nest.Unpack(d.beginOf(3, nos, x).Text)
		if err != api.OK {
			t.Fatal(err)
		}
		return l
	}
	begin := func(l ...string) memo.Memo {
		return memo.Memo{Kind: memo.Begin, View: 3, Text: nest.Pack(l)}
	}
	good := all(0, 1, 3)
	forged := d.from(3, d.changeTo(x))
	forged.Tag = d.from(2, d.changeTo(x)).Tag
	other := sign(t, memo.Memo{Kind: memo.Change, From: api.Party{Group: 2, No: 3}, View: 3, Text: d.changeTo(x).Text})
	wrong := d.from(3, d.changeTo(shift.Change{View: 3, Low: 4}))
	for i, m := range []memo.Memo{
		begin(), begin(all(0, 1)...), begin(all(0, 1, 2, 3)...), begin(all(0, 3, 1)...), begin(all(0, 1, 1)...), begin(all(0, 1, 4)...),
		begin(good[0], good[1], "x"), begin(good[0], good[1], ""),
		begin(good[0], good[1], bytesOf(t, forged)), begin(good[0], good[1], bytesOf(t, other)), begin(good[0], good[1], bytesOf(t, wrong)),
		begin(good[0], good[1], bytesOf(t, d.from(3, d.changeTo(shift.Change{View: 4})))),
		begin(good[0], good[1], bytesOf(t, d.from(3, memo.Memo{Kind: memo.Change, View: 3, Text: d.changeTo(shift.Change{View: 4}).Text}))),
		begin(good[0], good[1], bytesOf(t, d.from(3, memo.Memo{Kind: memo.Status, View: 3}))),
		begin(good[0], good[1], bytesOf(t, d.from(3, anOrder(3, 1, d.changeTo(x).Text)))),
		d.beginOf(4, []int{0, 1, 3}, x), d.beginOf(2, []int{0, 1, 3}, x),
		{Kind: memo.Begin, View: 3, Text: begin(good...).Text + "x"},
	} {
		d.want(d.hear(3, m))
		if view, in := d.p.View(); view != 0 || !in {
			t.Errorf("%d: view %d", i, view)
		}
	}
	d.want(d.hear(3, begin(good...)))
	d.wantView(3, true)
}

// planned is a change to view 5 with the bests of numbers 5 (batch a) and 7 (batch b) behind the stable mark of 4, and that mark.
func (d desk) planned(a, b string) (string, shift.Change) {
	d.t.Helper()
	state, c := d.stableAt(4, 3)
	x := shift.Change{View: 5, Low: 4, Mark: c}
	for i, number := range []int{5, 7} {
		view := 1 + i
		said, err := shift.Order(d.who.Group, view, number, []string{a, b}[i])
		if err != api.OK {
			d.t.Fatal(err)
		}
		x.Bests = append(x.Bests, shift.Best{Number: number, View: view, Cert: certOf(d.t, d.who.Group, said, 3)})
	}
	return state, x
}

func TestPlanOfAPrimary(t *testing.T) {
	d := newDesk(t, 1, 0, 1)
	a, b := d.batch(0, 50), d.batch(0, 51)
	state, x := d.planned(a, b)
	d.ask(2, 1)
	out := d.hear(3, d.beginOf(5, []int{0, 2, 3}, x))
	d.want(out, d.told(anOrder(5, 5, a), anOrder(5, 6, ""), anOrder(5, 7, b)))
	if d.wantDone(4); d.p.Text() != state {
		t.Error(d.p.Text())
	}
	// Its own requests wait till the plan is done.
	d.want(d.ask(2, 1))
	d.settle(5, 5, a)
	d.settle(5, 6, "")
	d.wantDone(6)
	out = d.settle(5, 7, b)
	d.wantDone(7)
	if l := out[len(out)-3:]; !slices.Equal(l, d.told(anOrder(5, 8, d.batch(2, 1)))) {
		t.Error(show(l))
	}
}

func TestPlanOfOthers(t *testing.T) {
	d := newDesk(t, 1, 0, 2)
	a, b := d.batch(0, 50), d.batch(0, 51)
	_, x := d.planned(a, b)
	d.want(d.hear(1, d.beginOf(5, []int{0, 1, 3}, x)))
	d.wantDone(4)
	// Of a number of the plan just that batch, of others what is right.
	for number, text := range map[int]string{5: b, 6: a, 7: ""} {
		d.want(d.hear(1, anOrder(5, number, text)))
	}
	d.want(d.hear(1, anOrder(5, 8, a)), d.told(anOrder(5, 8, a)))
	d.want(d.hear(1, anOrder(5, 12, "")), d.told(anOrder(5, 12, "")))
	d = newDesk(t, 1, 0, 2)
	d.hear(1, d.beginOf(5, []int{0, 1, 3}, x))
	for number, text := range map[int]string{5: a, 6: "", 7: b} {
		d.want(d.hear(1, anOrder(5, number, text)), d.told(anOrder(5, number, text)))
	}
	// The next view's plan replaces it.
	d.want(d.hear(2, d.beginOf(9, []int{0, 1, 3}, shift.Change{View: 9})))
	d.want(d.hear(1, anOrder(9, 5, b)), d.told(anOrder(9, 5, b)))
}

// Where changes have unlike marks, the greatest one is adopted, and what is ahead of it is left out.
func TestPlanOfUnlikeMarks(t *testing.T) {
	d := newDesk(t, 1, 0, 2)
	state, x := d.planned(d.batch(0, 50), d.batch(0, 51))
	said, _ := shift.Order(0, 3, 2, d.batch(0, 49))
	older := shift.Change{View: 5, Bests: []shift.Best{{Number: 2, View: 3, Cert: certOf(t, 0, said, 3)}}}
	var l []string
	for no, c := range []shift.Change{older, {View: 5}, x} {
		l = append(l, bytesOf(t, d.from(no, d.changeTo(c))))
	}
	d.want(d.hear(1, memo.Memo{Kind: memo.Begin, View: 5, Text: nest.Pack(l)}))
	d.wantView(5, true)
	if d.wantDone(4); d.p.Text() != state || d.p.window.Low() != 4 {
		t.Error(d.p.Text())
	}
	d.want(d.hear(1, anOrder(5, 2, d.batch(0, 49))))
	d.want(d.hear(1, anOrder(5, 7, d.batch(0, 51))), d.told(anOrder(5, 7, d.batch(0, 51))))
	// One whose own mark is greater keeps that.
	d = newDesk(t, 1, 0, 1)
	_, c := d.stableAt(6, 3)
	d.hear(3, d.stable(c))
	out := d.hear(1, memo.Memo{Kind: memo.Begin, View: 5, Text: nest.Pack(l)})
	d.want(out, d.told(anOrder(5, 5, d.batch(0, 50)), anOrder(5, 6, ""), anOrder(5, 7, d.batch(0, 51))))
	if d.wantDone(6); d.p.window.Low() != 6 {
		t.Error(d.p.window.Low())
	}
}

// A view is entered once: another Begin of it has no other plan made.
func TestPlanStays(t *testing.T) {
	d := newDesk(t, 1, 0, 2)
	a, b := d.batch(0, 50), d.batch(0, 51)
	_, x := d.planned(a, b)
	d.hear(1, d.beginOf(5, []int{0, 1, 3}, x))
	_, y := d.planned(b, a)
	d.want(d.hear(1, d.beginOf(5, []int{0, 1, 3}, y)))
	d.want(d.hear(1, anOrder(5, 5, b)))
	d.want(d.hear(1, anOrder(5, 7, b)), d.told(anOrder(5, 7, b)))
}

// In a view that begins, a peer has the first patience again.
func TestPatienceOfANewView(t *testing.T) {
	d := newDesk(t, 1, 1, 2)
	d.ask(0, 1)
	d.ticks(16 + 32 + 10)
	d.wantView(2, false)
	d.hear(1, d.beginOf(5, []int{0, 1, 3}, shift.Change{View: 5}))
	d.ticks(15)
	d.wantView(5, true)
	d.ticks(1)
	d.wantView(6, false)
	d.ticks(31)
	d.wantView(6, false)
	d.ticks(1)
	d.wantView(7, false)
}

// A batch of the plan may be one that would not be ordered otherwise: enough had ordered it.
func TestPlanOfAnyBatch(t *testing.T) {
	d := newDesk(t, 1, 0, 2)
	_, x := d.planned("x", "y")
	d.hear(1, d.beginOf(5, []int{0, 1, 3}, x))
	d.want(d.hear(1, anOrder(5, 5, "x")), d.told(anOrder(5, 5, "x")))
}

// What was settled in a view that it left is still done, and is ordered again for those that need it.
func TestDoneIsOrderedAgain(t *testing.T) {
	d := newDesk(t, 1, 0, 2)
	one := d.batch(0, 1)
	d.settle(0, 1, one)
	d.wantDone(1)
	said, _ := shift.Order(0, 0, 1, one)
	x := shift.Change{View: 1, Bests: []shift.Best{{Number: 1, Cert: certOf(t, 0, said, 3)}}}
	d.want(d.hear(1, d.beginOf(1, []int{0, 1, 3}, x)))
	d.want(d.hear(1, anOrder(1, 1, one)), d.told(anOrder(1, 1, one)))
	d.want(d.hear(3, anOrder(1, 1, one)), d.told(aSettle(1, 1, one)))
	d.hear(1, aSettle(1, 1, one))
	d.hear(3, aSettle(1, 1, one))
	d.wantDone(1)
	if len(d.p.Log()) != 1 {
		t.Error(d.p.Log())
	}
}

// Status.

func TestTickTellsStatus(t *testing.T) {
	d := newDesk(t, 1, 0, 2)
	d.settle(0, 1, d.batch(0, 1))
	for range 3 {
		d.want(d.ticks(3))
		d.want(d.ticks(1), d.told(memo.Memo{Kind: memo.Status, Number: 1}))
	}
	d.hear(1, d.beginOf(5, []int{0, 1, 3}, shift.Change{View: 5}))
	d.want(d.ticks(4), d.told(memo.Memo{Kind: memo.Status, View: 5, Number: 1}))
}

func TestStatusOfVotes(t *testing.T) {
	d := newDesk(t, 1, 0, 2)
	a, b := d.batch(0, 1), d.batch(0, 2)
	status := func(no, view, number int) []Out {
		return d.hear(no, memo.Memo{Kind: memo.Status, View: view, Number: number})
	}
	d.want(status(3, 0, 0))
	d.settle(0, 1, a)
	d.hear(0, anOrder(0, 2, b))
	d.hear(0, anOrder(0, 4, ""))
	d.hear(1, anOrder(0, 4, ""))
	own := func(l ...memo.Memo) []memo.Memo {
		for i := range l {
			l[i] = d.from(2, l[i])
		}
		return l
	}
	votes := own(anOrder(0, 1, a), aSettle(0, 1, a), anOrder(0, 2, b), anOrder(0, 4, ""), aSettle(0, 4, ""))
	d.want(status(3, 0, 0), d.sentTo(3, votes...))
	d.want(status(0, 7, 1), d.sentTo(0, votes[2:]...))
	d.want(status(1, 0, 3), d.sentTo(1, votes[3:]...))
	d.want(status(1, 0, 4))
	d.want(status(1, 0, api.MaxBig))
	d.want(status(2, 0, 0)) // it is no fellow of itself
	// Its last mark goes with them.
	for number := 2; number <= 5; number++ {
		d.settle(0, number, []string{"", "", b, "", "", ""}[number])
	}
	d.wantDone(5)
	marked := own(memo.Memo{Kind: memo.Mark, Number: 4, Text: d.p.Text()})
	d.want(status(1, 0, 4), d.sentTo(1, slices.Concat(own(anOrder(0, 5, ""), aSettle(0, 5, "")), marked)...))
	d.want(status(1, 0, 9), d.sentTo(1, marked...))
}

func TestStatusOfViews(t *testing.T) {
	d := newDesk(t, 1, 0, 2)
	status := func(no, view, number int) []Out {
		return d.hear(no, memo.Memo{Kind: memo.Status, View: view, Number: number})
	}
	_, c := d.stableAt(4, 3)
	d.hear(3, d.stable(c))
	stable := d.from(2, d.stable(c))
	d.want(status(3, 0, 4))
	d.want(status(3, 0, 3), d.sentTo(3, stable))
	begin := d.beginOf(5, []int{0, 1, 3}, shift.Change{View: 5})
	d.hear(1, begin)
	d.want(status(3, 5, 4))
	d.want(status(3, 6, 4))
	d.want(status(3, 4, 4), d.sentTo(3, d.from(1, begin)))
	d.want(status(3, 0, 0), d.sentTo(3, d.from(1, begin), stable))
	// One that is not in its view tells that it left, but no votes.
	d.hear(1, anOrder(5, 5, ""))
	d.ticks(16)
	d.wantView(6, false)
	left := d.from(2, d.changeTo(shift.Change{View: 6, Low: 4, Mark: c}))
	d.want(status(3, 0, 4), d.sentTo(3, left))
	d.want(status(3, 6, 4), d.sentTo(3, left))
	d.want(status(3, 6, 0), d.sentTo(3, left, stable))
	// An older change of its own that comes back is not the last one.
	d.p.Hear(bytesOf(t, d.from(2, d.changeTo(shift.Change{View: 5}))))
	d.want(status(3, 6, 4), d.sentTo(3, left))
}

// R3, R6.

func TestAnswersAreNewMemory(t *testing.T) {
	d := newDesk(t, 0, 0, 0)
	d.ask(0, 1)
	d.ask(0, 2)
	want := slices.Clone(d.p.Log())
	l := d.p.Log()
	for i := range l[:cap(l)] {
		l[:cap(l)][i] = Did{Number: 77}
	}
	if !slices.Equal(d.p.Log(), want) || len(want) != 2 {
		t.Error(d.p.Log())
	}
	out := d.ask(0, 2)
	again := d.ask(0, 2)
	for i := range out[:cap(out)] {
		out[:cap(out)][i] = Out{To: 77}
	}
	d.want(again, d.ask(0, 2))
}
