package collect

import (
	"maps"
	"slices"

	"tenon/api"
)

// noWatcher is the number of no watcher.
const noWatcher = 0

// told is what the heap calls behind each change. It only takes note, so that what comes and goes between two steps need not be looked through; what was not seen yet is read as it is when it is come to.
func (c *Cycle) told(id api.Ref) {
	if c.on && (id == 0 || c.seen[id] != 0) {
		c.changed[id] = struct{}{}
	}
}

// catchUp has what was seen be so as the heap stands: the roots are seen, and whom those name that were looked through; what is gone is not. The order is not that of a map, since it decides who is looked through first.
func (c *Cycle) catchUp() {
	if c.isTold() {
		c.doubt()
	}
	for _, id := range slices.Sorted(maps.Keys(c.changed)) {
		if id == 0 {
			c.seeRoots()
		} else {
			c.follow(id)
		}
	}
	clear(c.changed)
}

// now is what was seen, as the heap stands. It is apart from what the cycle goes on with, since an End that is refused changes nothing.
func (c *Cycle) now() marks {
	apart := Cycle{marks: c.marks.copied(), changed: maps.Clone(c.changed)}
	apart.catchUp()
	return apart.marks
}

// isTold tells whether the heap is telling its watchers of a change just now: then it refuses whatever number it is handed.
func (c *Cycle) isTold() bool { return c.h.Unwatch(noWatcher) == api.ErrPanic }

// doubt takes all that was seen as changed: who calls from within a watcher may know of a change that the cycle is only told of later.
func (c *Cycle) doubt() {
	c.changed[0] = struct{}{}
	for id := range c.seen {
		c.changed[id] = struct{}{}
	}
}

// close has the cycle be over: it keeps nothing, and watches no more. Within a watcher the heap lets nobody go; then it does not listen to what it is told, and asks again at the next call.
func (c *Cycle) close() {
	over := Cycle{}
	if c.h.Unwatch(c.number) == api.ErrPanic {
		over.h, over.number = c.h, c.number
	}
	*c = over
}

// isOver tells whether the cycle is over; if the heap did not let it go then, it is asked again.
func (c *Cycle) isOver() bool {
	if !c.on && c.h != nil {
		c.close()
	}
	return !c.on
}
