package lazy

// line is ghosts in the order of their uses. Each knows those beside it, so that it takes no longer to use one of many than one of few.
type line struct {
	oldest, newest *Ghost
	n              int
}

// add puts one that is not in line at its end.
func (l *line) add(g *Ghost) {
	g.older = l.newest
	if g.older == nil {
		l.oldest = g
	} else {
		g.older.newer = g
	}
	l.newest = g
	l.n++
}

// remove takes one that is in line out of it.
func (l *line) remove(g *Ghost) {
	if g.older == nil {
		l.oldest = g.newer
	} else {
		g.older.newer = g.newer
	}
	if g.newer == nil {
		l.newest = g.older
	} else {
		g.newer.older = g.older
	}
	g.older, g.newer = nil, nil
	l.n--
}
