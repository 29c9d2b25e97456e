package opt

import "gantlet/api"

// temps is a set of temporaries: of temporary n bit n modulo 64 of word n / 64.
type temps [(api.MaxTemps + 63) / 64]uint64

func (s *temps) has(n int) bool {
	return s[n>>6]>>(n&63)&1 == 1
}

func (s *temps) add(n int) {
	s[n>>6] |= 1 << (n & 63)
}

func (s *temps) remove(n int) {
	s[n>>6] &^= 1 << (n & 63)
}

// join adds all of another set.
func (s *temps) join(t temps) {
	for i, w := range t {
		s[i] |= w
	}
}

// read adds all temporaries that trees ask for.
func (s *temps) read(l []api.Tree) {
	for _, t := range l {
		if t.Op == api.RTmp {
			s.add(int(t.N))
		}
		s.read(t.Kids)
	}
}

// locals is a set of those of a function: bit 1 << n stands for local n.
type locals uint32

func (s locals) has(n int64) bool {
	return s>>n&1 == 1
}
