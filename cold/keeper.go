package cold

import (
	"slices"

	"springhouse/api"
	"springhouse/common"
	"springhouse/item"
)

// keeper of a store that is right, while something is done in it.
type keeper struct{ api.Store }

// within a copy of a store, if it is right, something is done: the store then, if that was no error.
func within(s api.Store, do func(k *keeper) api.Errno) (api.Store, api.Errno) {
	if e := Check(s); e != api.OK {
		return api.Store{}, e
	}
	k := keeper{common.CopyStore(s)}
	if e := do(&k); e != api.OK {
		return api.Store{}, e
	}
	return k.Store, api.OK
}

// view: the space that the store is.
func (k *keeper) view() api.Space {
	var seen api.Space
	for _, slot := range k.Slots {
		seen = append(seen, k.entry(slot))
	}
	return seen
}

// entry that a slot is, hot or not.
func (k *keeper) entry(slot api.Slot) api.Entry {
	return api.Entry{Key: slot.Key, Item: k.item(slot), Until: slot.Until}
}

func (k *keeper) item(slot api.Slot) api.Item {
	if !slot.Cold {
		return slot.Item
	}
	x, _ := item.Decode(k.Segments[slot.Place.Segment][slot.Place.Record]) // the check of the store has decoded all of them
	return x
}

// hot slot of an entry.
func hot(entry api.Entry) api.Slot {
	return api.Slot{Key: entry.Key, Item: entry.Item, Until: entry.Until}
}

// at: where the slot of a key stands; below 0, if there is none.
func (k *keeper) at(key string) int {
	return slices.IndexFunc(k.Slots, func(slot api.Slot) bool { return slot.Key == key })
}

// find the slot of a key, which must be cold, or must not be.
func (k *keeper) find(key string, cold bool) (*api.Slot, api.Errno) {
	i := k.at(key)
	if i < 0 {
		return nil, api.ErrNone
	}
	if k.Slots[i].Cold != cold {
		return nil, api.ErrState
	}
	return &k.Slots[i], api.OK
}

// write an item behind all others, and tell where it lies.
func (k *keeper) write(x api.Item) (api.Place, api.Errno) {
	record, e := item.Encode(x)
	if e != api.OK {
		return api.Place{}, e
	}
	last := len(k.Segments) - 1
	if last < 0 || len(k.Segments[last]) >= api.MaxRecords {
		if len(k.Segments) >= api.MaxSegments {
			return api.Place{}, api.ErrMany
		}
		k.Segments = append(k.Segments, nil)
		last++
	}
	k.Segments[last] = append(k.Segments[last], record)
	return api.Place{Segment: last, Record: len(k.Segments[last]) - 1}, api.OK
}

// become a space: what is as it was stays where it lies.
func (k *keeper) become(s api.Space) {
	var slots []api.Slot
	for _, entry := range s {
		slots = append(slots, k.slot(entry))
	}
	k.Slots = slots
}

// slot for an entry: the one that is there, if that has its item, else a hot one.
func (k *keeper) slot(entry api.Entry) api.Slot {
	i := k.at(entry.Key)
	if i < 0 || !same(k.item(k.Slots[i]), entry.Item) {
		return hot(entry)
	}
	slot := k.Slots[i]
	slot.Until = entry.Until
	return slot
}

// same: items are the same just if their bytes are.
func same(x, y api.Item) bool {
	a, _ := item.Encode(x)
	b, _ := item.Encode(y)
	return a == b
}

// gather: records of a segment that no slot means go, and those behind them come nearer; how many went.
func (k *keeper) gather(segment int) int {
	var stay []string
	for i, record := range k.Segments[segment] {
		from, to := api.Place{Segment: segment, Record: i}, api.Place{Segment: segment, Record: len(stay)}
		meant := false
		k.eachCold(func(p *api.Place) {
			// None is met again where it went to, as that is no place behind this one.
			if *p == from {
				*p, meant = to, true
			}
		})
		if meant {
			stay = append(stay, record)
		}
	}
	went := len(k.Segments[segment]) - len(stay)
	k.Segments[segment] = stay
	return went
}

// remove a segment that no slot means: those behind it come nearer.
func (k *keeper) remove(segment int) {
	k.Segments = slices.Delete(k.Segments, segment, segment+1)
	k.eachCold(func(p *api.Place) {
		if p.Segment > segment {
			p.Segment--
		}
	})
}

// eachCold does something with the place of each slot that is cold: that of a hot one means no record.
func (k *keeper) eachCold(do func(p *api.Place)) {
	for i := range k.Slots {
		if k.Slots[i].Cold {
			do(&k.Slots[i].Place)
		}
	}
}
