package blend

import "quillpress/squash"

// table has 2^size places, each with as many entries as it is wide.
type table[E any] struct {
	size, wide int
	all        []E
}

// lay makes a table; first is told which entry of its place it is to make.
func lay[E any](size, wide int, first func(j int) E) table[E] {
	t := table[E]{size: size, wide: wide, all: make([]E, wide<<size)}
	for i := range t.all {
		t.all[i] = first(i % wide)
	}
	return t
}

// at are the entries of the context's place, as they stand in the table.
func (t table[E]) at(m moment) []E {
	x := (m.context ^ m.c*40503) * 2654435761
	i := int(x>>(32-t.size)) * t.wide
	return t.all[i : i+t.wide]
}

// same makes each entry e.
func same[E any](e E) func(int) E {
	return func(int) E { return e }
}

// odds are how likely a one is, of 2^22, and how many bits have told it.
type odds struct {
	chance, count int32
}

// certain is the greatest chance.
const certain = 1<<22 - 1

// even are odds of which nothing is known.
func even(int) odds {
	return odds{chance: 1 << 21}
}

// spread are the odds that leave a lean about what it is, for the j-th of the places between both edges.
func spread(j int) odds {
	return odds{chance: int32(squash.Squash(j*132-edge) * 1024)}
}

// lean is how far these odds lean.
func (o *odds) lean() int {
	return squash.Stretch(int(o.chance / 1024))
}

// learn moves the chance towards the bit, the less the more bits have told it.
func (o *odds) learn(bit, limit int) {
	o.chance += (certain*int32(bit) - o.chance) / (o.count + 2)
	o.count = min(o.count+1, int32(limit))
}
