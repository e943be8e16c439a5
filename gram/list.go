package gram

import "telamon/api"

// row reads one, and another one as long as more holds (which may pass what parts them).
func row[T any](one func() T, more func() bool) []T {
	out := []T{one()}
	for more() {
		out = append(out, one())
	}
	return out
}

// block reads what a block of the layout parts; there may be nothing between two partings.
func block[T any](p *parser, one func() T) []T {
	p.wantKind(api.KOpen)
	var out []T
	for parted := true; p.here().Kind != api.KClose; {
		if p.semi() {
			parted = true
			continue
		}
		p.must(parted)
		out = append(out, one())
		parted = false
	}
	p.pass()
	return out
}

// bracketed reads what stands in brackets, parted as the lines of a block are; there may be nothing.
func bracketed[T any](p *parser, one func() T) []T {
	p.want("(")
	if p.took(")") {
		return nil
	}
	out := row(one, p.semi)
	p.want(")")
	return out
}
