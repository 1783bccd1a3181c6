package shire

import (
	"math/rand"
	"reflect"
	"slices"
	"strings"
	"testing"

	"wapentake/api"
	"wapentake/batch"
	"wapentake/cert"
	"wapentake/chain"
	"wapentake/memo"
	"wapentake/nest"
	"wapentake/order"
	"wapentake/proof"
	"wapentake/roster"
	"wapentake/shard"
	"wapentake/shift"
	"wapentake/stock"
	"wapentake/table"
)

const seed = "a seed"

// What odd replicas do beside what they are told.
const (
	asTold = iota // nothing
	silent        // what they send is lost
	lie           // they send what they like: letters that they make, or heard, and memos that they sign
)

// world is a shire, with a hand that makes its choices.
type world struct {
	t     *testing.T
	rnd   *rand.Rand
	x     roster.Roster
	s     *Shire
	oddly int
	odds  []int // the ends of odd replicas

	choices []api.Choice // all that were made
	letters []string     // what was on its way at some time
	asks    []string     // orders' texts of clients among it
	changes []string     // changes' bytes among it
	served  map[configured]int
	lies    int
}

// configured is a shard as a configuration's number has it.
type configured struct{ num, shard int }

func newWorld(t *testing.T, x roster.Roster, oddly int, chance int64) *world {
	t.Helper()
	w := &world{t: t, rnd: rand.New(rand.NewSource(chance)), x: x, oddly: oddly, served: map[configured]int{}}
	odd := make([]int, x.Groups+1)
	for group := range odd {
		for _, no := range w.rnd.Perm(x.N())[:x.F] {
			odd[group] |= 1 << no
			w.odds = append(w.odds, group*x.N()+no)
		}
	}
	w.s = shireOf(t, x, odd)
	return w
}

func shireOf(t *testing.T, x roster.Roster, odd []int) *Shire {
	t.Helper()
	s, err := New(x, seed, odd)
	if s == nil || err != api.OK {
		t.Fatal(err)
	}
	return s
}

// step makes a choice, and looks at what came of it.
func (w *world) step(c api.Choice) bool {
	w.t.Helper()
	w.choices = append(w.choices, c)
	is := w.s.Step(c)
	w.read()
	w.isOneServer()
	return is
}

// read keeps what letters were put on their way last.
func (w *world) read() {
	if w.oddly != lie {
		return
	}
	n := w.s.Letters()
	for i := max(0, n-20); i < n; i++ {
		x, _ := w.s.letters.See(i)
		m, err := memo.Decode(x.Text)
		if err != api.OK || len(w.letters) > 3000 {
			continue
		}
		w.letters = append(w.letters, x.Text)
		switch m.Kind {
		case memo.Ask:
			w.asks = append(w.asks, m.Text)
		case memo.Change:
			w.changes = append(w.changes, x.Text)
		}
	}
}

// round has a round go by. Where odd replicas are silent it is made of ticks, and of letters that are delivered or lost.
func (w *world) round() {
	w.t.Helper()
	if w.oddly != silent {
		w.step(api.Choice{Kind: api.DoRound, N: 1})
		return
	}
	for end := range w.x.Ends() {
		w.step(api.Choice{Kind: api.DoTick, End: end})
	}
	for w.s.Letters() > 0 {
		w.deliver(0)
	}
}

// deliver has a letter be heard, but one of an odd replica that is silent.
func (w *world) deliver(i int) {
	w.t.Helper()
	c := api.Choice{Kind: api.DoDeliver, N: i}
	if x, err := w.s.letters.See(i); err == api.OK && w.oddly == silent && slices.Contains(w.odds, x.From) {
		c.Kind = api.DoLose
	}
	w.step(c)
}

// joined has group 1 join, and waits for it.
func (w *world) joined() {
	w.t.Helper()
	w.step(api.Choice{Kind: api.DoRule, What: chain.Join, Group: 1})
	w.finish(300)
}

// isAnswered tells whether no request is open.
func (w *world) isAnswered() bool {
	for no := range w.x.Clients {
		if w.s.Caller(no).Open() {
			return false
		}
	}
	return true
}

// finish has all letters come, round by round, till all is answered: how many rounds it took.
func (w *world) finish(most int) int {
	w.t.Helper()
	for n := range most {
		if w.isAnswered() {
			return n
		}
		w.round()
	}
	w.stuck()
	return most
}

func (w *world) stuck() {
	w.t.Helper()
	for i, x := range w.s.wards {
		view, in := x.Peer().View()
		l := []int{}
		for k := range api.Shards {
			l = append(l, x.Peer().Stock().Status(k))
		}
		w.t.Logf("end %d: odd %v, view %d, %v, %d done, %v, %v", i, slices.Contains(w.odds, i), view, in, x.Peer().Done(), x.Peer().Stock().Config(), l)
	}
	for no, c := range w.s.callers {
		w.t.Logf("caller %d: open %v, %v", no, c.Open(), c.Config())
	}
	w.t.Log(w.s.Calls(), w.s.Rulings())
	w.t.Fatal("it does not end")
}

// isOneServer is 25.4, of the configurations that replicas have now and those that they had when it was asked.
func (w *world) isOneServer() {
	w.t.Helper()
	for i := w.x.N(); i < len(w.s.wards); i++ {
		if slices.Contains(w.odds, i) {
			continue
		}
		group, s := i/w.x.N(), w.s.Ward(i).Peer().Stock()
		num := -1
		for k := range api.Shards {
			if s.Status(k) != shard.Serving {
				continue
			}
			if num < 0 {
				num = s.Config().Num
			}
			at := configured{num, k}
			if other, ok := w.served[at]; ok && other != group {
				w.t.Fatalf("by configuration %d groups %d and %d serve shard %d", num, other, group, k)
			}
			w.served[at] = group
		}
	}
}

// isOneMap is 25.2.
func (w *world) isOneMap() {
	w.t.Helper()
	if rule, place, err := proof.Check(w.s.Calls(), w.s.Points()); rule != 0 || err != api.OK {
		w.t.Fatalf("rule %d is broken at %d, %v: %v, %v", rule, place, err, w.s.Calls(), w.s.Points())
	}
}

// isOneChain is 25.3.
func (w *world) isOneChain() {
	w.t.Helper()
	h := chain.New()
	for i, r := range w.s.Rulings() {
		if err := h.Do(r.Command); err != r.Err {
			w.t.Fatalf("ruling %d, %v: the chain tells %v", i, r, err)
		}
	}
	is := func(c chain.Config) {
		w.t.Helper()
		if x, err := h.Get(c.Num); err != api.OK || !reflect.DeepEqual(x, c) {
			w.t.Fatalf("%v is none of the chain, which has %v", c, x)
		}
	}
	for i := range w.s.wards {
		if p := w.s.Ward(i).Peer(); !slices.Contains(w.odds, i) {
			is(p.Moot().Last())
			is(p.Stock().Config())
		}
	}
	for no := range w.x.Clients {
		is(w.s.Caller(no).Config())
	}
}

// someOp is an operation that may be right.
func (w *world) someOp(no int) api.Choice {
	c := api.Choice{Kind: api.DoAsk, N: no, What: 1 + w.rnd.Intn(table.Swap), Key: keyOf(w.rnd.Intn(api.Shards), w.rnd.Intn(2))}
	if c.What != table.Get && c.What != table.Delete {
		c.Value = strings.Repeat("v", w.rnd.Intn(3))
	}
	if c.What == table.Swap {
		c.Old = strings.Repeat("v", w.rnd.Intn(3))
	}
	return c
}

// someCommand is one that may be right, of a group that is there.
func (w *world) someCommand(no int) api.Choice {
	c := api.Choice{Kind: api.DoRule, N: no, What: 1 + w.rnd.Intn(chain.Move), Group: 1 + w.rnd.Intn(w.x.Groups)}
	if c.What == chain.Move {
		c.Shard = w.rnd.Intn(api.Shards)
	}
	return c
}

// keyOf is a key of a shard.
func keyOf(i, which int) string {
	for n := 0; ; n++ {
		if k := "k" + nest.Num(n); stock.Place(k) == i {
			if which == 0 {
				return k
			}
			which--
		}
	}
}

// tellLies has an odd replica send at most so many ends something: how many choices that took.
func (w *world) tellLies(most int) int {
	w.t.Helper()
	if len(w.odds) == 0 {
		return 0
	}
	from := w.odds[w.rnd.Intn(len(w.odds))]
	c := w.someLie(from)
	other := w.someLie(from) // to some others
	n := 0
	for _, to := range w.rnd.Perm(w.x.Ends()) {
		if n == most {
			break
		}
		x := c
		if w.rnd.Intn(2) == 0 && other.What == c.What && other.Kind == c.Kind {
			x = other
		}
		x.End, x.N = from, to
		if w.step(x) {
			w.lies++
		}
		n++
	}
	return n
}

func (w *world) someLie(from int) api.Choice {
	if w.rnd.Intn(3) > 0 {
		return w.someMemo(from)
	}
	text := string([]byte{byte(w.rnd.Intn(256)), byte(w.rnd.Intn(256))})
	if len(w.letters) > 0 {
		text = w.letters[w.rnd.Intn(len(w.letters))]
	}
	switch w.rnd.Intn(4) {
	case 0:
		b := []byte(text)
		b[w.rnd.Intn(len(b))] ^= 1 << w.rnd.Intn(8)
		text = string(b)
	case 1:
		text = w.someBegin(from)
	case 2:
		text = w.someAsk(from)
	}
	return api.Choice{Kind: api.DoForge, Text: text}
}

// someBegin is one of changes that replicas told.
func (w *world) someBegin(from int) string {
	who, _ := w.x.Party(from)
	m := memo.Memo{Kind: memo.Begin, From: who, View: 1}
	var l []string
	for range w.x.Need() {
		if len(w.changes) > 0 {
			l = append(l, w.changes[w.rnd.Intn(len(w.changes))])
		}
	}
	if len(l) > 0 {
		x, _ := memo.Decode(l[0])
		m.View, m.Text = x.View, nest.Pack(l)
	}
	return bytesOf(w.t, m)
}

// someAsk asks for an order of which too few tags are there, or for one that a client asked for.
func (w *world) someAsk(from int) string {
	who, _ := w.x.Party(from)
	m := memo.Memo{Kind: memo.Ask, From: who, Text: "x"}
	if len(w.asks) > 0 && w.rnd.Intn(2) == 0 {
		m.Text = w.asks[w.rnd.Intn(len(w.asks))]
		return bytesOf(w.t, m)
	}
	config, _ := chain.Next(w.s.Caller(0).Config(), chain.Command{Kind: chain.Join, Group: 1 + w.rnd.Intn(w.x.Groups)})
	text, err := chain.Text(config)
	if err != api.OK {
		return bytesOf(w.t, m)
	}
	signed, _ := w.s.ring.Sign(who, text)
	c, err := cert.Add(cert.Cert{Text: text, Group: who.Group}, signed)
	if err != api.OK {
		w.t.Fatal(err)
	}
	m.Text, _ = order.Text(nil, order.Order{Kind: order.Advance, Cert: c})
	return bytesOf(w.t, m)
}

func bytesOf(t *testing.T, m memo.Memo) string {
	t.Helper()
	b, err := memo.Encode(m)
	if err != api.OK {
		t.Fatal(err, m)
	}
	return b
}

// someMemo is what an odd replica signs.
func (w *world) someMemo(from int) api.Choice {
	p := w.s.Ward(from).Peer()
	view, _ := p.View()
	c := api.Choice{Kind: api.DoSign, What: memo.Order + w.rnd.Intn(memo.Want-memo.Order+1)}
	switch c.What {
	case memo.Order, memo.Settle:
		c.View, c.Number, c.Text = view, p.Done()+1+w.rnd.Intn(2), w.someBatch()
	case memo.Mark:
		c.Number, c.Text = p.Done()/4*4+4, p.Text()
		if w.rnd.Intn(2) == 0 {
			c.Text = "x"
		}
	case memo.Change:
		c.View = view + 1 + w.rnd.Intn(3)/2
		c.Text, _ = shift.Encode(shift.Change{View: c.View})
	case memo.Stable:
		c.Text = "x"
	case memo.Begin:
		c.View = view + 1
	case memo.Status:
		c.View, c.Number = max(0, view-w.rnd.Intn(2)), max(0, p.Done()-w.rnd.Intn(3))
	case memo.Want:
		c.Number = w.rnd.Intn(4)
	default:
		return w.someSaying(from, c)
	}
	return c
}

// someSaying is what an odd replica says to clients, or to other groups.
func (w *world) someSaying(from int, c api.Choice) api.Choice {
	config := w.s.Caller(0).Config()
	switch c.What {
	case memo.Reply:
		c.View, c.Number = w.rnd.Intn(w.x.Clients), 1+len(w.s.Calls())/2
		for _, x := range w.s.Calls() {
			if x.Client == c.View && x.To < 0 {
				c.Number = x.Number
			}
		}
		c.Text = nest.Pack([]string{nest.Num(w.rnd.Intn(2)), "0", "lie", "1"})
	case memo.Config:
		x, err := chain.Next(config, chain.Command{Kind: 1 + w.rnd.Intn(2), Group: 1 + w.rnd.Intn(w.x.Groups)})
		if err != api.OK {
			x = config
		}
		c.Text, _ = chain.Text(x)
	case memo.Claim:
		x := stock.Claim{Took: w.rnd.Intn(2) == 0, Num: max(0, config.Num+w.rnd.Intn(3)-1), Shard: w.rnd.Intn(api.Shards)}
		if !x.Took {
			x.Content = "0:,0:,"
		}
		c.Text, _ = stock.ClaimText(x)
	}
	return c
}

// someBatch is of what clients asked for, or nothing of theirs.
func (w *world) someBatch() string {
	var l []batch.Request
	for range w.rnd.Intn(3) {
		if len(w.asks) > 0 {
			l = append(l, batch.Request{Caller: 1, Number: 1, Text: w.asks[w.rnd.Intn(len(w.asks))]})
		}
	}
	if w.rnd.Intn(8) == 0 {
		return "x"
	}
	return batch.Text(l)
}
