package world

import (
	"narrows/api"
	"narrows/chain"
)

// mostIncluded is how many are included on a side in a fair round, at most.
const mostIncluded = 40

// ledger is a side, and how many of its events were read.
type ledger struct {
	*chain.Chain
	read int
}

// includeAll includes what waits: again and again the first one that is taken.
func (l *ledger) includeAll() {
	for range mostIncluded {
		if !l.includeFirst() {
			return
		}
	}
}

// includeFirst includes the first one that is taken, and tells whether there is one.
func (l *ledger) includeFirst() bool {
	for place := range l.Pool() {
		if l.Include(place) {
			return true
		}
	}
	return false
}

// news is the events that were not read yet, in order.
func (l *ledger) news() []api.Event {
	events := l.Events(l.read)
	l.read += len(events)
	return events
}
