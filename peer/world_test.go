package peer

import (
	"math/rand"
	"slices"
	"strconv"
	"strings"
	"testing"

	"wapentake/api"
	"wapentake/batch"
	"wapentake/cert"
	"wapentake/chain"
	"wapentake/memo"
	"wapentake/nest"
	"wapentake/order"
	"wapentake/roster"
	"wapentake/seal"
	"wapentake/shift"
	"wapentake/table"
	"wapentake/window"
)

const seed = "seed"

func ring(t *testing.T) *seal.Ring {
	t.Helper()
	r, err := seal.New(seed)
	if err != api.OK {
		t.Fatal(err)
	}
	return r
}

// signed are the bytes of a memo, signed by its party.
func signed(t *testing.T, m memo.Memo) string {
	t.Helper()
	return bytesOf(t, sign(t, m))
}

func sign(t *testing.T, m memo.Memo) memo.Memo {
	t.Helper()
	x, err := memo.Sign(ring(t), m)
	if err != api.OK {
		t.Fatal(m.Kind, err)
	}
	return x
}

func bytesOf(t *testing.T, m memo.Memo) string {
	t.Helper()
	b, err := memo.Encode(m)
	if err != api.OK {
		t.Fatal(m.Kind, err)
	}
	return b
}

func orderText(t *testing.T, o order.Order) string {
	t.Helper()
	s, err := order.Text(ring(t), o)
	if err != api.OK {
		t.Fatal(err)
	}
	return s
}

// certOf is the certificate of a text with the tags of a group's first replicas.
func certOf(t *testing.T, group int, text string, count int) cert.Cert {
	t.Helper()
	c := cert.Cert{Text: text, Group: group}
	for no := range count {
		tag, err := ring(t).Tag(api.Party{Group: group, No: no}, text)
		if err != api.OK {
			t.Fatal(err)
		}
		c.Tags = append(c.Tags, cert.Tag{No: no, Tag: tag})
	}
	return c
}

// advance orders the configuration that has group 1 serve all shards.
func advance(t *testing.T, x roster.Roster) string {
	t.Helper()
	s, err := chain.Text(chain.Config{Num: 1, Groups: []int{1}, Owner: [api.Shards]int{1, 1, 1, 1}})
	if err != api.OK {
		t.Fatal(err)
	}
	return orderText(t, order.Order{Kind: order.Advance, Cert: certOf(t, 0, s, x.Need())})
}

// asked is the text of some request of a client that is right for a group.
func asked(t *testing.T, group, client, number int) string {
	t.Helper()
	o := order.Order{Client: client, Number: number}
	if group == controller {
		o.Kind, o.Command = order.Rule, chain.Command{Kind: chain.Join + (client+number)%2, Group: 1 + (client+number)%3}
	} else {
		o.Kind, o.Op = order.Do, table.Op{Kind: table.Append, Key: "k" + strconv.Itoa(client%2), Value: string('a' + rune((client+number)%26))}
	}
	return orderText(t, o)
}

// askOf is the letter with which a client asks for it.
func askOf(t *testing.T, client int, text string) string {
	t.Helper()
	return bytesOf(t, memo.Memo{Kind: memo.Ask, From: api.Party{Group: clients, No: client}, Text: text})
}

// letter is on its way to a replica of the group.
type letter struct {
	to   int
	text string
}

// world is a group whose letters are delivered as a test has it, and clients that ask it.
type world struct {
	t       *testing.T
	rnd     *rand.Rand
	x       roster.Roster
	group   int
	peers   []*Peer
	odd     []int // the replicas that do not do as told
	mute    bool  // what odd replicas would send if they did as told is lost
	first   int   // the end of replica 0
	letters []letter
	pass    func(letter) (letter, bool) // what becomes of a letter that is sent, if anything does; nil, if it stays as it is
	states  map[int]string              // what the state behind a number is
	did     map[int][]Did               // what was done as a number
	looked  []int                       // of each replica how much of its log was looked at
	numbers []int                       // of each client its last request's
	open    []string                    // of each client what it asks for; empty, if nothing
	said    []map[int]string
	seen    []memo.Memo // what odd replicas heard
}

func newWorld(t *testing.T, f, group int, chance int64) *world {
	t.Helper()
	x := roster.Roster{F: f, Groups: 2, Clients: 3}
	w := &world{t: t, rnd: rand.New(rand.NewSource(chance)), x: x, group: group, first: group * x.N(), states: map[int]string{}, did: map[int][]Did{}}
	for no := range x.N() {
		p, err := New(x, api.Party{Group: group, No: no}, seed)
		if err != api.OK {
			t.Fatal(err)
		}
		w.peers, w.looked = append(w.peers, p), append(w.looked, 0)
	}
	for range x.Clients {
		w.numbers, w.open, w.said = append(w.numbers, 0), append(w.open, ""), append(w.said, map[int]string{})
	}
	return w
}

func (w *world) isOdd(no int) bool {
	return slices.Contains(w.odd, no)
}

// hear has a replica hear a letter, tick has it tick; both look at what came of it.
func (w *world) hear(l letter) {
	if w.isOdd(l.to) {
		if m, err := memo.Decode(l.text); err == api.OK {
			w.seen = append(w.seen, m)
		}
	}
	w.send(l.to, w.peers[l.to].Hear(l.text))
}

func (w *world) tick(no int) {
	w.send(no, w.peers[no].Tick())
}

func (w *world) send(from int, out []Out) {
	w.t.Helper()
	if w.mute && w.isOdd(from) {
		return
	}
	for _, o := range out {
		switch client := o.To - w.x.N()*(w.x.Groups+1); {
		case client >= 0:
			w.reply(client, from, o.Text)
		case o.To < w.first || o.To >= w.first+w.x.N() || o.To == w.first+from:
			w.t.Fatalf("a letter of %d goes to end %d", from, o.To)
		default:
			l, ok := letter{to: o.To - w.first, text: o.Text}, true
			if w.pass != nil {
				l, ok = w.pass(l)
			}
			if ok {
				w.letters = append(w.letters, l)
			}
		}
	}
	w.look(from)
}

// look holds what a replica did and has against what others did and had (20.2).
func (w *world) look(no int) {
	w.t.Helper()
	if w.isOdd(no) {
		return
	}
	p := w.peers[no]
	if state, ok := w.states[p.Done()]; ok && state != p.Text() {
		w.t.Fatalf("replica %d behind number %d has %q, not %q", no, p.Done(), p.Text(), state)
	}
	w.states[p.Done()] = p.Text()
	mine := map[int][]Did{}
	for _, d := range p.log[w.looked[no]:] {
		mine[d.Number] = append(mine[d.Number], d)
	}
	w.looked[no] = len(p.log)
	for number, l := range mine {
		had, ok := w.did[number]
		if !ok {
			w.did[number] = l
			continue
		}
		if !slices.Equal(had, l) {
			w.t.Fatalf("replica %d did %v, not %v", no, l, had)
		}
	}
	if n := p.pool.Len(); n > batch.Room {
		w.t.Fatalf("%d requests", n)
	}
	if n := p.window.Slots(); n > window.Size {
		w.t.Fatalf("%d slots", n)
	}
	if n := len(p.settled); n > window.Size {
		w.t.Fatalf("%d batches are settled", n)
	}
}

// reply has a client hear a reply; it believes what f + 1 replicas say.
func (w *world) reply(client, from int, text string) {
	w.t.Helper()
	m, err := memo.Decode(text)
	if err != api.OK || memo.Verify(ring(w.t), m) != api.OK || m.Kind != memo.Reply || m.View != client || m.From.No != from {
		w.t.Fatalf("a reply to %d: %+v, %v", client, m, err)
	}
	if m.Number != w.numbers[client] || w.open[client] == "" {
		return
	}
	w.said[client][from] = m.Text
	count := 0
	for _, s := range w.said[client] {
		if s == m.Text {
			count++
		}
	}
	if count < w.x.Some() {
		return
	}
	if strings.HasPrefix(m.Text, "1:0,") {
		w.open[client] = ""
	}
	clear(w.said[client])
}

// ask has a client ask for something, if it does not wait for an answer.
func (w *world) ask(client int) {
	if w.open[client] == "" {
		w.numbers[client]++
		w.open[client] = asked(w.t, w.group, client, w.numbers[client])
		clear(w.said[client])
	}
	for no := range w.peers {
		w.letters = append(w.letters, letter{to: no, text: askOf(w.t, client, w.open[client])})
	}
}

// serve has the group do the configuration that has it serve.
func (w *world) serve() {
	if w.group == controller {
		return
	}
	for no := range w.peers {
		w.letters = append(w.letters, letter{to: no, text: askOf(w.t, 0, advance(w.t, w.x))})
	}
	w.round(nil)
}

// round has all replicas tick, and all letters be delivered, but those of, and to, silent ones.
func (w *world) round(silent func(int) bool) {
	is := func(no int) bool { return silent != nil && silent(no) }
	for no := range w.peers {
		if !is(no) {
			w.tick(no)
		}
	}
	for len(w.letters) > 0 {
		l := w.letters[0]
		w.letters = w.letters[1:]
		if !is(l.to) {
			w.hear(l)
		}
	}
}

// stir has one thing happen at random: letters come in any order, are lost or doubled; somebody ticks or asks; an odd replica tells something.
func (w *world) stir() {
	switch n := w.rnd.Intn(100); {
	case n < 6 || len(w.letters) == 0:
		w.tick(w.rnd.Intn(len(w.peers)))
	case n < 7:
		w.ask(w.rnd.Intn(len(w.open)))
	case n < 10 && len(w.odd) > 0:
		w.mute = w.rnd.Intn(2) == 0
		w.lie(w.odd[w.rnd.Intn(len(w.odd))])
	default:
		i := w.rnd.Intn(min(len(w.letters), 1+w.rnd.Intn(15)))
		l := w.letters[i]
		switch w.rnd.Intn(20) {
		case 0: // it is lost
		case 1:
			w.hear(l)
			w.letters = append(w.letters, l)
		default:
			w.hear(l)
		}
		w.letters = slices.Delete(w.letters, i, i+1)
	}
}

// lie has an odd replica tell some fellows what it likes, signed by itself, or what it heard.
func (w *world) lie(no int) {
	who := api.Party{Group: w.group, No: no}
	p := w.peers[w.rnd.Intn(len(w.peers))]
	view := max(0, p.view+w.rnd.Intn(4)-1)
	number := max(1, p.done+w.rnd.Intn(4)-1)
	var l []string
	for range 2 {
		m := memo.Memo{From: who}
		switch w.rnd.Intn(10) {
		case 0, 1, 2:
			m.Kind, m.View, m.Number, m.Text = memo.Order, p.view, number, w.someBatch()
		case 3, 4:
			m.Kind, m.View, m.Number, m.Text = memo.Settle, p.view, number, w.someBatch()
		case 5:
			m.Kind, m.Number, m.Text = memo.Mark, number+w.rnd.Intn(4), p.Text()+"x"[:w.rnd.Intn(2)]
		case 6:
			m.Kind, m.View = memo.Change, max(1, view)
			m.Text = w.someChange(m.View)
		case 7:
			m.Kind, m.View = memo.Begin, max(1, view)
			m.Text = w.someBegin(m.View)
		case 8:
			m.Kind, m.View, m.Number = memo.Status, view, number
		default:
			if len(w.seen) > 0 {
				m = w.seen[w.rnd.Intn(len(w.seen))]
				l = append(l, bytesOf(w.t, m))
				continue
			}
			m.Kind, m.Text = memo.Stable, "x"
		}
		l = append(l, signed(w.t, m))
	}
	for to := range w.peers {
		if to != no && w.rnd.Intn(3) > 0 {
			w.letters = append(w.letters, letter{to: to, text: l[w.rnd.Intn(2)]})
		}
	}
}

// someBatch is a batch that an odd replica might tell: of what clients ask, of what somebody told, or none.
func (w *world) someBatch() string {
	var l []batch.Request
	for range w.rnd.Intn(3) {
		client := w.rnd.Intn(len(w.open))
		if w.open[client] != "" {
			l = append(l, batch.Request{Text: w.open[client]})
		}
	}
	for range 20 {
		if len(w.seen) == 0 || w.rnd.Intn(2) == 0 {
			break
		}
		if m := w.seen[w.rnd.Intn(len(w.seen))]; m.Kind == memo.Order {
			return m.Text
		}
	}
	if w.rnd.Intn(10) == 0 {
		return "x"
	}
	return batch.Text(l)
}

// someChange is a change with what an odd replica may have certificates of.
func (w *world) someChange(view int) string {
	p := w.peers[w.rnd.Intn(len(w.peers))]
	x := p.change()
	x.View = view
	var l []shift.Best
	for _, b := range x.Bests {
		if b.View < view && w.rnd.Intn(2) == 0 {
			l = append(l, b)
		}
	}
	x.Bests = l
	s, err := shift.Encode(x)
	if err != api.OK {
		w.t.Fatal(err)
	}
	return s
}

// someBegin is a list of what odd replicas heard of changes to a view, and of what they would tell.
func (w *world) someBegin(view int) string {
	l := make([]string, len(w.peers))
	for _, m := range w.seen {
		if m.Kind == memo.Change && m.View == view {
			l[m.From.No] = bytesOf(w.t, m)
		}
	}
	for no := range w.peers {
		if w.isOdd(no) {
			l[no] = signed(w.t, memo.Memo{Kind: memo.Change, From: api.Party{Group: w.group, No: no}, View: view, Text: w.someChange(view)})
		}
	}
	var some []string
	for _, no := range w.rnd.Perm(len(l)) {
		if l[no] != "" && len(some) < w.x.Need() {
			some = append(some, l[no])
		} else {
			l[no] = ""
		}
	}
	var rising []string
	for _, b := range l {
		if b != "" {
			rising = append(rising, b)
		}
	}
	return nest.Pack(rising)
}
