package layout

// block is an explicit one, which counts braces, or an implicit one, which has a column and may have been begun by a `let`.
type block struct {
	explicit bool
	braces   int
	column   int
	let      bool
}

// stack holds the blocks that have not ended, the outermost first.
type stack struct{ blocks []block }

func (s *stack) push(b block) { s.blocks = append(s.blocks, b) }

func (s *stack) pop() { s.blocks = s.blocks[:s.depth()-1] }

func (s *stack) depth() int { return len(s.blocks) }

// inner is the innermost block; nil: there is none, as behind the end of a file.
func (s *stack) inner() *block {
	if s.depth() == 0 {
		return nil
	}
	return &s.blocks[s.depth()-1]
}

// fits: does column stand behind that of the innermost implicit block? Explicit ones within that one do not matter.
func (s *stack) fits(column int) bool {
	for i := s.depth() - 1; i >= 0; i-- {
		if b := s.blocks[i]; !b.explicit {
			return column > b.column
		}
	}
	return true
}

func (s *stack) anyExplicit() bool {
	for _, b := range s.blocks {
		if b.explicit {
			return true
		}
	}
	return false
}

// throughLet is how many blocks there are from the innermost one out to the first that a `let` began; 0, if none did, or an explicit one comes first.
func (s *stack) throughLet() int {
	for i := s.depth() - 1; i >= 0 && !s.blocks[i].explicit; i-- {
		if s.blocks[i].let {
			return s.depth() - i
		}
	}
	return 0
}
