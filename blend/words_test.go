package blend

import (
	"quillpress/api"
	"quillpress/squash"
	"quillpress/states"
)

// words is a blend that goes by the chapter's words as plainly as may be: what tables have is found by name, bits and bytes are lists, all that has passed is kept.
type words struct {
	l        []api.Part
	contexts []int
	// bits are those of the byte that is going on.
	bits []int
	past []byte
	// kept is what the tables have that is no longer what they had at first.
	kept map[cell]int
	// place and length are those of each part's match.
	place, length []int
	// met counts what was met, so that a test can tell whether it has gone to the edges.
	met map[string]int
}

// cell is a number of a part's tables: which one, at which place, the how-many-th.
type cell struct {
	part  int
	what  string
	place int
	j     int
}

func newWords(l []api.Part) *words {
	n := len(l)
	return &words{l: l, contexts: make([]int, n), kept: map[cell]int{}, place: make([]int, n), length: make([]int, n), met: map[string]int{}}
}

// copied is the same, to go its own way.
func (x *words) copied() *words {
	y := newWords(x.l)
	copy(y.contexts, x.contexts)
	copy(y.place, x.place)
	copy(y.length, x.length)
	y.bits = append(y.bits, x.bits...)
	y.past = append(y.past, x.past...)
	for k, n := range x.kept {
		y.kept[k] = n
	}
	return y
}

// down divides towards below.
func down(a, b int) int {
	q := a / b
	if q*b > a {
		q--
	}
	return q
}

// into brings n into least to most.
func (x *words) into(n, least, most int, what string) int {
	if n < least {
		x.met[what+" below"]++
		return least
	}
	if n > most {
		x.met[what+" above"]++
		return most
	}
	return n
}

// c is what the bits of the byte that is going on make.
func (x *words) c() int {
	c := 1
	for _, bit := range x.bits {
		c = c*2 + bit
	}
	return c
}

// spot is the place of part i.
func (x *words) spot(i int) int {
	const all = 1 << 32
	n := uint64(x.contexts[i]) ^ uint64(x.c()*40503%all)
	n = n * 2654435761 % all
	for range 32 - x.l[i].Size {
		n /= 2
	}
	return int(n)
}

// at is a number of part i's tables, and its name.
func (x *words) at(i int, what string, place, j, first int) (int, cell) {
	name := cell{i, what, place, j}
	if n, ok := x.kept[name]; ok {
		return n, name
	}
	return first, name
}

// ring is the byte that stands at a place of part i's ring: the last one whose number has that rest.
func (x *words) ring(i, place int) byte {
	size, last := 1<<x.l[i].Size, len(x.past)-1
	n := last - ((last-place)%size+size)%size
	if n < 0 {
		return 0
	}
	return x.past[n]
}

// leans are how all parts lean.
func (x *words) leans() []int {
	var out []int
	for i := range x.l {
		out = append(out, x.lean(i, out))
	}
	return out
}

// entry is which of a PSse's entries it goes by, at which chance it began.
func (x *words) entry(i int, out []int) (int, int) {
	j := down(out[x.l[i].A]+2047, 128)
	return j, squash.Squash(j*132-2047) * 1024
}

// lean is how part i leans, those ahead of it as told.
func (x *words) lean(i int, out []int) int {
	p := x.l[i]
	switch p.Kind {
	case api.PConst:
		return p.C
	case api.PCm:
		n, _ := x.at(i, "chance", x.spot(i), 0, 2097152)
		return squash.Stretch(down(n, 1024))
	case api.PIcm:
		s, _ := x.at(i, "state", x.spot(i), 0, 0)
		n, _ := x.at(i, "chance", s, 0, states.Chance(uint8(s)))
		return squash.Stretch(down(n, 16))
	case api.PMatch:
		return x.matched(i)
	case api.PAvg:
		return down(p.C*out[p.A]+(256-p.C)*out[p.B], 256)
	case api.PMix2:
		w, _ := x.at(i, "weight", x.spot(i), 0, 32768)
		return down(w*out[p.A]+(65536-w)*out[p.B], 65536)
	case api.PMix:
		sum := 0
		for k := range p.B {
			w, _ := x.at(i, "weight", x.spot(i), k, down(65536, p.B))
			sum += w * out[p.A+k]
		}
		return x.into(down(sum, 65536), -2047, 2047, "mix")
	case api.PIsse:
		s, _ := x.at(i, "state", x.spot(i), 0, 0)
		w0, _ := x.at(i, "weight", s, 0, 65536)
		w1, _ := x.at(i, "weight", s, 1, 0)
		return x.into(down(w0*out[p.A]+w1*64, 65536), -2047, 2047, "isse")
	case api.PSse:
		j, first := x.entry(i, out)
		n, _ := x.at(i, "chance", x.spot(i), j, first)
		return squash.Stretch(down(n, 1024))
	}
	panic("no kind")
}

// matched is how the match of part i leans.
func (x *words) matched(i int) int {
	if x.length[i] == 0 {
		return 0
	}
	e := x.ring(i, x.place[i])
	for k, bit := range x.bits {
		if int(e>>(7-k)&1) != bit {
			x.met["match but bits"]++
			return 0
		}
	}
	far := 64 * x.length[i]
	if x.length[i] > 15 {
		x.met["match above 15"]++
		far = 960
	}
	if e>>(7-len(x.bits))&1 == 0 {
		far = -far
	}
	return far
}

// guess is 16 times what the last one makes.
func (x *words) guess() int {
	l := x.leans()
	return 16 * squash.Squash(l[len(l)-1])
}

// set sets contexts.
func (x *words) set(h []uint32) {
	for i, p := range x.l {
		x.contexts[i] = 0
		if i < len(h) {
			x.contexts[i] = int(h[i])
		}
		if p.Kind == api.PMatch {
			x.look(i)
		}
	}
}

// look looks for a match of part i.
func (x *words) look(i int) {
	q, name := x.at(i, "number", x.spot(i), 0, 0)
	n := len(x.past)
	if x.length[i] == 0 && q != 0 {
		x.place[i] = q % (1 << x.l[i].Size)
		k := 0
		for k < 32 && k < q && x.ring(i, q-k-1) == x.ring(i, n-k-1) {
			k++
		}
		x.length[i] = k
		x.met["looked"]++
		if k == q {
			x.met["match from the beginning"]++
		}
		if k == 0 {
			x.met["match of none"]++
		}
		if n-q > 1<<x.l[i].Size {
			x.met["match overwritten"]++
		}
	}
	x.kept[name] = n
}

// learn learns a bit.
func (x *words) learn(bit int) {
	out := x.leans()
	for i := range x.l {
		x.learnPart(i, out, bit)
	}
	x.bits = append(x.bits, bit)
	if len(x.bits) < 8 {
		return
	}
	whole := byte(x.c() - 256)
	for i, p := range x.l {
		if p.Kind != api.PMatch {
			continue
		}
		if x.length[i] > 0 && x.ring(i, x.place[i]) == whole {
			x.length[i]++
			x.place[i] = (x.place[i] + 1) % (1 << p.Size)
			if x.length[i] > 32 {
				x.length[i] = 32
				x.met["match above 32"]++
			}
		} else {
			x.length[i] = 0
		}
	}
	x.past = append(x.past, whole)
	x.bits = nil
}

// learnPart is what part i learns, all leaning as they did.
func (x *words) learnPart(i int, out []int, bit int) {
	p := x.l[i]
	miss := 4095*bit - squash.Squash(out[i])
	switch p.Kind {
	case api.PCm:
		x.towards(i, x.spot(i), 0, 2097152, bit)
	case api.PSse:
		j, first := x.entry(i, out)
		x.towards(i, x.spot(i), j, first, bit)
	case api.PIcm:
		s, name := x.at(i, "state", x.spot(i), 0, 0)
		n, chance := x.at(i, "chance", s, 0, states.Chance(uint8(s)))
		x.kept[chance] = n + (65535*bit-n)/64
		x.kept[name] = int(states.Next(uint8(s), bit))
	case api.PMix2:
		w, name := x.at(i, "weight", x.spot(i), 0, 32768)
		x.kept[name] = x.into(w+down(miss*p.Rate*(out[p.A]-out[p.B])+512, 1024), 0, 65535, "mix2 weight")
	case api.PMix:
		for k := range p.B {
			w, name := x.at(i, "weight", x.spot(i), k, down(65536, p.B))
			x.kept[name] = x.into(w+down(miss*p.Rate*out[p.A+k]+8192, 16384), -1048576, 1048576, "mix weight")
		}
	case api.PIsse:
		s, name := x.at(i, "state", x.spot(i), 0, 0)
		w0, first := x.at(i, "weight", s, 0, 65536)
		w1, second := x.at(i, "weight", s, 1, 0)
		x.kept[first] = x.into(w0+down(miss*out[p.A]+4096, 8192), -1048576, 1048576, "isse weight 0")
		x.kept[second] = x.into(w1+down(miss+16, 32), -1048576, 1048576, "isse weight 1")
		x.kept[name] = int(states.Next(uint8(s), bit))
	}
}

// towards moves a chance of 2^22 towards a bit, and counts.
func (x *words) towards(i, place, j, first, bit int) {
	n, chance := x.at(i, "chance", place, j, first)
	count, name := x.at(i, "count", place, j, 0)
	t := 0
	if bit == 1 {
		t = 4194303
	}
	x.kept[chance] = n + (t-n)/(count+2)
	x.kept[name] = count + 1
	if count+1 > x.l[i].Limit {
		x.kept[name] = x.l[i].Limit
		x.met["limit"]++
	}
}
