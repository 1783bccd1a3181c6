package shire

import (
	"wapentake/api"
	"wapentake/order"
	"wapentake/peer"
	"wapentake/proof"
	"wapentake/shard"
	"wapentake/stock"
	"wapentake/table"
)

// request is what a client asked for under a number, as an operation or as a command.
type request struct{ kind, client, number int }

// record is what is kept of what happened, each thing with the moment of its step.
type record struct {
	now     int // the moment: how many steps were done
	calls   []proof.Call
	points  []proof.Point
	rulings []Ruling
	done    map[request]struct{} // what there is a point, or a ruling, of
}

// keepCall keeps what a client asks for.
func (r *record) keepCall(client, number int, o table.Op) {
	r.calls = append(r.calls, proof.Call{Client: client, Number: number, Op: o, From: r.now, To: -1})
}

// keepAnswer keeps a client's answer, if it is of an operation that had none; a client's last call alone may be one.
func (r *record) keepAnswer(client, number int, a shard.Answer) {
	for i := len(r.calls) - 1; i >= 0; i-- {
		c := &r.calls[i]
		if c.Client != client {
			continue
		}
		if c.Number == number && c.To < 0 {
			c.To, c.Answer = r.now, a
		}
		return
	}
}

// keepDone keeps what a replica did behind so many numbers, as far as none did it ahead.
func (r *record) keepDone(log []peer.Did, had int) {
	for _, d := range log {
		if d.Number > had && d.Met == stock.Done {
			r.keepDid(d)
		}
	}
}

func (r *record) keepDid(d peer.Did) {
	o, _, err := order.Read(d.Text)
	what := request{o.Kind, o.Client, o.Number}
	if _, is := r.done[what]; is || err != api.OK {
		return
	}
	r.done[what] = struct{}{}
	if o.Kind == order.Do {
		r.points = append(r.points, proof.Point{At: r.now, Client: o.Client, Number: o.Number, Answer: d.Answer})
	} else {
		r.rulings = append(r.rulings, Ruling{Client: o.Client, Number: o.Number, Command: o.Command, Err: d.Answer.Err})
	}
}
