package parse

// parser reads the parts of the grammar. Each of its methods goes over the tokens of one part.
type parser struct {
	cursor
}

// list reads what stands between commas.
func list[T any](p *parser, read func() T) []T {
	l := []T{read()}
	for p.takes(",") {
		l = append(l, read())
	}
	return l
}

// enclosed reads what stands in parentheses.
func enclosed[T any](p *parser, read func() T) T {
	p.needs("(")
	x := read()
	p.needs(")")
	return x
}

// enclosedList reads a list in parentheses, between which there may be nothing.
func enclosedList[T any](p *parser, read func() T) []T {
	return enclosed(p, func() []T {
		if p.sees(")") {
			return nil
		}
		return list(p, read)
	})
}

// chosen returns what the next word stands for, and goes over it, if it stands for something.
func chosen[T any](p *parser, meanings map[string]T) (T, bool) {
	x, ok := meanings[p.word(0)]
	if ok {
		p.next++
	}
	return x, ok
}

// chain reads operands between which operators stand. They group from the left: extend reads the operand after an operator, and returns both operands with it.
func chain[K, T any](p *parser, operators map[string]K, operand func(*parser) T, extend func(left T, operator K) T) T {
	x := operand(p)
	for {
		operator, ok := chosen(p, operators)
		if !ok {
			return x
		}
		x = extend(x, operator)
	}
}
