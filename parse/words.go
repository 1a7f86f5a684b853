package parse

import "quillpress/api"

// The words and signs of the grammar, in maps of what they say. One text is either a word or a sign, so no map asks which.

// shape is what the word of a part says: its kind, and how many numbers stand behind it.
type shape struct {
	kind    api.PartKind
	numbers int
}

// start is what the first token of a statement says. One that begins with a place has none: there the token behind the place says what it does.
type start struct {
	kind api.StmtKind
	op   api.Op
}

// words are all of them, by where they stand.
type words struct {
	parts    map[string]shape
	starts   map[string]start
	places   map[string]int
	cells    map[string]int // behind *
	steps    map[string]api.Op
	sums     map[string]api.Op // between a and an operand
	compares map[string]api.Op
}

// newWords makes the maps.
func newWords() words {
	return words{
		parts: map[string]shape{
			"const": {api.PConst, 1},
			"cm":    {api.PCm, 2},
			"icm":   {api.PIcm, 1},
			"match": {api.PMatch, 1},
			"avg":   {api.PAvg, 3},
			"pair":  {api.PMix2, 4},
			"mix":   {api.PMix, 4},
			"isse":  {api.PIsse, 2},
			"sse":   {api.PSse, 3},
		},
		starts: map[string]start{
			"halt":  {kind: api.SHalt},
			"if":    {kind: api.SIf},
			"do":    {kind: api.SDo},
			"hash":  {api.SPlain, api.OHash},
			"hashd": {api.SPlain, api.OHashD},
			"out":   {api.SPlain, api.OOut},
			"zero":  {api.SPlain, api.OZero},
			"swap":  {api.SPlain, api.OSwap},
			"~":     {api.SPlain, api.ONot},
			"r":     {api.SPlain, api.OStore},
		},
		places: map[string]int{"a": api.RegA, "b": api.RegB, "c": api.RegC, "d": api.RegD},
		cells:  map[string]int{"b": api.MemB, "c": api.MemC, "d": api.MemD},
		steps:  map[string]api.Op{"++": api.OInc, "--": api.ODec},
		sums: map[string]api.Op{
			"+=": api.OAdd, "-=": api.OSub, "*=": api.OMul, "/=": api.ODiv, "%=": api.OMod,
			"&=": api.OAnd, "&~=": api.OAndN, "|=": api.OOr, "^=": api.OXor,
			"<<=": api.OShl, ">>=": api.OShr,
		},
		compares: map[string]api.Op{"==": api.OEq, "<": api.OLt, ">": api.OGt},
	}
}

// made is the part of this kind with its numbers, as many as its shape has.
func made(kind api.PartKind, n [4]int) api.Part {
	p := api.Part{Kind: kind}
	switch kind {
	case api.PConst:
		p.C = n[0]
	case api.PCm:
		p.Size, p.Limit = n[0], n[1]
	case api.PIcm, api.PMatch:
		p.Size = n[0]
	case api.PAvg:
		p.A, p.B, p.C = n[0], n[1], n[2]
	case api.PMix2, api.PMix:
		p.Size, p.A, p.B, p.Rate = n[0], n[1], n[2], n[3]
	case api.PIsse:
		p.Size, p.A = n[0], n[1]
	case api.PSse:
		p.Size, p.A, p.Limit = n[0], n[1], n[2]
	}
	return p
}
