package hilbert

import "dictum/api"

// deduced answers the proof of h -> X for each X of right lines, in order (P16.3).
func (m *maker) deduced(lines []api.Line, h int) *proof {
	p := m.begin()
	var images []int
	for _, line := range lines {
		if m.e != api.OK {
			break
		}
		images = append(images, p.image(lines, images, line, h))
	}
	return p
}

// image puts the lines of h -> X, where X is the formula of a line, and answers the last one's number. The images of the lines ahead of it are told.
func (p *proof) image(lines []api.Line, images []int, line api.Line, h int) int {
	switch {
	case line.Form == h:
		return p.itself(h)
	case line.Kind == api.LineMP:
		s := p.axiom(api.LineS, h, lines[line.B].Form, line.Form)
		return p.mp(p.mp(s, images[line.A]), images[line.B])
	}
	at := p.line(line)
	return p.mp(p.axiom(api.LineK, line.Form, h), at)
}

// itself puts the lines of h -> h.
func (p *proof) itself(h int) int {
	same := p.put(imp(known(h), known(h)))
	s := p.axiom(api.LineS, h, same, h)
	both := p.mp(s, p.axiom(api.LineK, h, same))
	return p.mp(both, p.axiom(api.LineK, h, h))
}
