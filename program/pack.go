package program

import "stripes/api"

const (
	headSize = 3 // bytes ahead of the steps: how many registers, and how many steps
	stepSize = 4 // bytes of a step
)

// Pack writes a program as bytes.
func Pack(g api.Program) ([]byte, error) {
	if !packable(g) {
		return nil, api.ErrProgram
	}
	n := len(g.Steps)
	b := make([]byte, 0, headSize+stepSize*n)
	b = append(b, byte(g.Regs), byte(n>>8), byte(n))
	for _, s := range g.Steps {
		b = append(b, byte(s.Kind), byte(s.A), byte(s.B), s.C)
	}
	return b, nil
}

// packable tells whether all of a program has room in its bytes, and nothing of it is left out of them.
func packable(g api.Program) bool {
	if !bounded(g) {
		return false
	}
	for _, s := range g.Steps {
		if !packableStep(s) {
			return false
		}
	}
	return true
}

// packableStep tells it of a step.
func packableStep(s api.Step) bool {
	switch s.Kind {
	case api.Load, api.Put:
		return s.C == 0 && within(s.A, 256) && within(s.B, 256)
	case api.Add:
		return within(s.A, 256) && within(s.B, 256)
	}
	return false
}

// Unpack reads a program that Pack wrote.
func Unpack(b []byte) (api.Program, error) {
	// The length is looked at first, so that no more steps are made than there are bytes for.
	if len(b) < headSize || len(b) != headSize+stepSize*stepsOf(b) {
		return api.Program{}, api.ErrProgram
	}
	g := api.Program{Regs: int(b[0])}
	for b = b[headSize:]; len(b) > 0; b = b[stepSize:] {
		g.Steps = append(g.Steps, api.Step{Kind: api.Kind(b[0]), A: int(b[1]), B: int(b[2]), C: b[3]})
	}
	if !packable(g) {
		return api.Program{}, api.ErrProgram
	}
	return g, nil
}

// stepsOf tells how many steps the head of a packed program names.
func stepsOf(b []byte) int { return int(b[1])<<8 | int(b[2]) }
