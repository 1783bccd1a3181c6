package peer

import (
	"math/rand"
	"testing"

	"wapentake/api"
	"wapentake/memo"
	"wapentake/nest"
	"wapentake/shift"
)

// disturb has some time go by in which not all goes well: letters at random and lies, a replica that hears nothing, one that is alone with its clock.
func (w *world) disturb() {
	alone := w.rnd.Intn(len(w.peers))
	client := w.rnd.Intn(len(w.open))
	switch w.rnd.Intn(4) {
	case 0, 1:
		for range 300 + w.rnd.Intn(900) {
			w.stir()
		}
	case 2:
		for range w.rnd.Intn(40) {
			w.ask(client)
			w.round(func(no int) bool { return no == alone })
		}
	case 3:
		w.ask(client)
		for _, l := range w.letters {
			if l.to == alone {
				w.hear(l)
			}
		}
		for range w.rnd.Intn(120) {
			w.tick(alone)
		}
		w.letters = nil
	}
	w.mute = false
}

// calm has all letters come, but those of odd replicas, till a request is answered: how many rounds that takes.
func (w *world) calm() int {
	w.t.Helper()
	for rounds := range 5000 {
		if rounds%every == 0 {
			w.ask(0)
		}
		w.round(w.isOdd)
		if w.open[0] == "" {
			return rounds
		}
	}
	for no, p := range w.peers {
		view, in := p.View()
		w.t.Logf("replica %d: view %d, %v, %d done", no, view, in, p.Done())
	}
	w.t.Error("a request is not answered")
	return 0
}

// wantSame asks that some replicas have done as many numbers, and have the same.
func (w *world) wantSame(least int, nos ...int) {
	w.t.Helper()
	first := w.peers[nos[0]]
	for _, no := range nos {
		if p := w.peers[no]; p.Done() < least || p.Done() != first.Done() || p.Text() != first.Text() {
			w.t.Errorf("replica %d: %d done, not %d", no, p.Done(), first.Done())
		}
	}
}

// 20.2: letters that are lost, doubled and late, for long, and f replicas that tell what they like. What was done is held against each other behind each step.
func TestOneOrderWhateverHappens(t *testing.T) {
	for _, c := range []struct{ f, runs int }{{0, 4}, {1, 40}, {2, 6}, {3, 2}} {
		for group := controller; group <= 1; group++ {
			views, done := 0, 0
			for chance := range c.runs {
				w := newWorld(t, c.f, group, int64(chance))
				w.odd = w.rnd.Perm(len(w.peers))[:c.f]
				w.serve()
				for range 1 + w.rnd.Intn(6) {
					w.disturb()
				}
				for range 40 {
					w.ask(0)
					w.round(w.isOdd)
				}
				for no, p := range w.peers {
					if !w.isOdd(no) {
						view, _ := p.View()
						views, done = max(views, view), max(done, p.Done())
					}
				}
			}
			if done < 10 || c.f == 1 && (views < 5 || done < 20) {
				t.Errorf("f %d, group %d: only %d views, %d numbers", c.f, group, views, done)
			}
		}
	}
}

// 20.4: a while in which letters are lost, doubled and late, and f replicas tell what they like; once letters come, it goes on without these.
func TestItGoesOnWhateverItHeard(t *testing.T) {
	for _, c := range []struct{ f, runs int }{{0, 10}, {1, 60}, {2, 12}, {3, 4}} {
		for chance := range c.runs {
			w := newWorld(t, c.f, chance%2, int64(chance))
			w.odd = w.rnd.Perm(len(w.peers))[:c.f]
			w.serve()
			alone := w.rnd.Intn(len(w.peers))
			for range 60 {
				switch w.rnd.Intn(20) {
				case 0:
					for range w.rnd.Intn(12) {
						w.round(nil)
					}
				case 1, 2:
					w.ask(w.rnd.Intn(len(w.open)))
				case 3, 4, 5, 6, 7, 8:
					w.tick(alone)
				default:
					w.stir()
				}
			}
			w.mute = false
			w.calm()
		}
	}
}

// 20.2 with a group all of whose replicas do as told, but whose letters do not all come.
func TestOneOrderOfLostLetters(t *testing.T) {
	for chance := range 12 {
		w := newWorld(t, 1, chance%2, int64(100+chance))
		w.serve()
		for range 4 {
			w.disturb()
		}
		w.calm()
	}
}

// 20.3.
func TestItGoesOn(t *testing.T) {
	for f := 0; f <= 3; f++ {
		for group := controller; group <= 1; group++ {
			for silent := 0; silent <= f; silent++ {
				w := newWorld(t, f, group, 1)
				w.serve()
				isSilent := func(no int) bool { return no < silent }
				for client := range w.open {
					w.ask(client)
				}
				had := w.peers[f].Done()
				// 16 ticks till they leave the first view, and twice as many each time.
				for range 8 + 16*(1<<silent-1) {
					w.round(isSilent)
				}
				var nos []int
				for no := silent; no < len(w.peers); no++ {
					nos = append(nos, no)
					if view, in := w.peers[no].View(); view != silent || !in {
						t.Errorf("replica %d: view %d, %v", no, view, in)
					}
					if l := w.peers[no].Log(); len(l) != len(w.open) {
						t.Errorf("replica %d did %v", no, l)
					}
				}
				w.wantSame(had+1, nos...)
				for client, text := range w.open {
					if text != "" {
						t.Errorf("f %d, %d silent: client %d is not answered", f, silent, client)
					}
				}
			}
		}
	}
}

// 20.3, many requests one behind the other, so that the window moves on.
func TestItGoesOnForLong(t *testing.T) {
	w := newWorld(t, 1, 1, 1)
	w.serve()
	for range 40 {
		for client := range w.open {
			w.ask(client)
		}
		w.round(nil)
	}
	w.round(nil)
	w.wantSame(40, 0, 1, 2, 3)
	for no, p := range w.peers {
		if view, in := p.View(); view != 0 || !in || p.window.Low() < p.Done()-4 {
			t.Errorf("replica %d: view %d, %v, %d of %d", no, view, in, p.window.Low(), p.Done())
		}
	}
}

// A replica that slept hears of a stable mark, holds its state, and goes on from there; what it is short of beyond that, it hears, too.
func TestOneThatSlept(t *testing.T) {
	for group := controller; group <= 1; group++ {
		for sleeper := range 4 {
			for numbers := 1; numbers <= 12; numbers++ {
				w := newWorld(t, 1, group, 1)
				w.serve()
				had := w.peers[sleeper].Done()
				for range numbers {
					w.ask(0)
					for i := 0; w.open[0] != ""; i++ {
						w.round(func(no int) bool { return no == sleeper })
						if i > 40 {
							t.Fatal("it does not go on")
						}
					}
				}
				if w.peers[sleeper].Done() != had {
					t.Fatal("it did not sleep")
				}
				for range 8 {
					w.round(nil)
				}
				w.wantSame(had+numbers, 0, 1, 2, 3)
			}
		}
	}
}

// What one replica alone has settled, the next view settles, too, whatever one replica tells of it.
func TestWhatIsSettledStays(t *testing.T) {
	for alone := range 3 {
		for _, lies := range []bool{false, true} {
			w := newWorld(t, 1, controller, 1)
			w.ask(0)
			w.ask(1)
			for len(w.letters) > 0 {
				l := w.letters[0]
				w.letters = w.letters[1:]
				if m, _ := memo.Decode(l.text); m.Kind != memo.Settle || l.to == alone {
					w.hear(l)
				}
			}
			if w.peers[alone].Done() == 0 || w.peers[3].Done() != 0 {
				t.Fatal("it is not settled at one alone")
			}
			w.pass = func(l letter) (letter, bool) {
				m, _ := memo.Decode(l.text)
				if lies && m.Kind == memo.Change && m.From.No == 3 {
					m.Text, _ = shift.Encode(shift.Change{View: m.View})
					l.text = signed(t, m)
				}
				return l, m.Kind != memo.Settle || m.View > 0
			}
			for range 200 {
				w.round(func(no int) bool { return no == alone })
			}
			var others []int
			for no := range 4 {
				if no != alone {
					others = append(others, no)
				}
			}
			w.wantSame(1, others...)
			if view, _ := w.peers[others[0]].View(); view == 0 {
				t.Error("the view did not change")
			}
		}
	}
}

// A primary that proposes one batch to one replica and another one to the others: the view changes, and all that is asked is done.
func TestOddPrimaryIsLeft(t *testing.T) {
	w := newWorld(t, 1, controller, 1)
	w.odd, w.mute = []int{0}, true
	w.ask(0)
	w.ask(1)
	w.letters = w.letters[:0]
	for no := 1; no < 4; no++ {
		for client := range 2 {
			w.hear(letter{to: no, text: askOf(t, client, w.open[client])})
		}
	}
	for no := 1; no < 4; no++ {
		m := anOrder(0, 1, nest.Pack([]string{w.open[min(no-1, 1)]}))
		m.From = api.Party{Group: controller, No: 0}
		w.letters = append(w.letters, letter{to: no, text: signed(t, m)})
		m.Kind = memo.Settle
		w.letters = append(w.letters, letter{to: no, text: signed(t, m)})
	}
	for range 40 {
		w.round(w.isOdd)
	}
	w.wantSame(1, 1, 2, 3)
	for no := 1; no < 4; no++ {
		if view, in := w.peers[no].View(); view != 1 || !in || len(w.peers[no].Log()) != 2 {
			t.Errorf("replica %d: view %d, %v, %v", no, view, in, w.peers[no].Log())
		}
	}
}

// 20.4, P1: bytes of all kinds, letters that are spoilt, and memos that all replicas might have signed.
func TestWhateverItHears(t *testing.T) {
	rnd := rand.New(rand.NewSource(5))
	for run := range 6 {
		w := newWorld(t, run%3, run%2, int64(run))
		w.serve()
		var seen []string
		for range 3000 {
			if len(w.letters) == 0 {
				w.ask(rnd.Intn(3))
				w.tick(rnd.Intn(len(w.peers)))
			}
			if len(w.letters) == 0 {
				continue
			}
			l := w.letters[0]
			w.letters = w.letters[1:]
			seen = append(seen, l.text)
			w.hear(l)
			b := []byte(seen[rnd.Intn(len(seen))])
			for range 1 + rnd.Intn(3) {
				b[rnd.Intn(len(b))] = byte(rnd.Intn(256))
			}
			p := w.peers[rnd.Intn(len(w.peers))]
			was := p.Rejects()
			m, err := memo.Decode(string(b))
			isMemo := err == api.OK && memo.Verify(ring(t), m) == api.OK
			out := p.Hear(string(b))
			if isMemo != (p.Rejects() == was) || !isMemo && len(out) > 0 {
				t.Fatalf("%q: %d rejects behind %d, %s", b, p.Rejects(), was, show(out))
			}
			w.look(p.who.No)
		}
		w.calm()
	}
}

// P1: even when everybody's tags are there, whatever they say, nothing but an answer comes of it, and what is kept has its bounds.
func TestWhateverIsSigned(t *testing.T) {
	for chance := range 6 {
		w := newWorld(t, 1, chance%2, int64(chance))
		w.odd = []int{0, 1, 2, 3}
		w.serve()
		for range 400 {
			for no := range w.peers {
				w.lie(no)
			}
			for range 6 {
				w.stir()
			}
		}
		w.odd = nil
		for _, p := range w.peers {
			if n := p.window.Slots(); n > 8 || len(p.settled) > 8 || p.pool.Len() > 24 {
				t.Errorf("%d slots, %d settled, %d requests", n, len(p.settled), p.pool.Len())
			}
			p.Tick()
			p.Hear("x")
		}
	}
}

// R6: the same letters have the same said.
func TestSameLettersTellTheSame(t *testing.T) {
	tell := func() []letter {
		w := newWorld(t, 1, 1, 9)
		w.odd = []int{0}
		w.serve()
		var all []letter
		for range 800 {
			w.stir()
			all = append(all, w.letters...)
		}
		return all
	}
	a, b := tell(), tell()
	if len(a) != len(b) {
		t.Fatal(len(a), len(b))
	}
	for i := range a {
		if a[i] != b[i] {
			t.Fatalf("letter %d: %v, %v", i, a[i], b[i])
		}
	}
}

// The greatest numbers: there is no view beyond the last one.
func TestLastView(t *testing.T) {
	d := newDesk(t, 1, 1, 2)
	d.hear(1, d.changeTo(shift.Change{View: api.MaxBig}))
	d.hear(3, d.changeTo(shift.Change{View: api.MaxBig}))
	d.wantView(api.MaxBig, false)
	d.ask(0, 1)
	d.ticks(5000)
	d.wantView(api.MaxBig, false)
	d.hear(0, d.beginOf(api.MaxBig, []int{0, 1, 3}, shift.Change{View: api.MaxBig}))
	d.wantView(api.MaxBig, true)
	d.settle(api.MaxBig, 1, d.batch(0, 1))
	d.wantDone(1)
}
