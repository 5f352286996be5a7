package cold

import (
	"springhouse/api"
	"springhouse/common"
	"springhouse/item"
)

// Check a store.
func Check(s api.Store) api.Errno {
	if isGreat(s) {
		return api.ErrMany
	}
	if e := checkRecords(s.Segments); e != api.OK {
		return e
	}
	for i, slot := range s.Slots {
		if e := checkSlot(s, slot); e != api.OK {
			return e
		}
		if i > 0 && s.Slots[i-1].Key >= slot.Key {
			return api.ErrState
		}
	}
	return api.OK
}

// isGreat: is there more of something than may be?
func isGreat(s api.Store) bool {
	if len(s.Slots) > api.MaxKeys || len(s.Segments) > api.MaxSegments {
		return true
	}
	for _, segment := range s.Segments {
		if len(segment) > api.MaxRecords {
			return true
		}
	}
	return false
}

func checkRecords(segments [][]string) api.Errno {
	for _, segment := range segments {
		for _, record := range segment {
			if _, e := item.Decode(record); e != api.OK {
				return e
			}
		}
	}
	return api.OK
}

// checkSlot checks a slot by itself, whichever stands ahead of it.
func checkSlot(s api.Store, slot api.Slot) api.Errno {
	if common.IsLong(slot.Key) {
		return api.ErrMany
	}
	if e := checkItem(s, slot); e != api.OK {
		return e
	}
	if !common.IsTime(slot.Until) {
		return api.ErrRange
	}
	return api.OK
}

// checkItem checks a slot's item, or where it lies.
func checkItem(s api.Store, slot api.Slot) api.Errno {
	if slot.Cold {
		return checkCold(s, slot)
	}
	if e := item.Check(slot.Item); e != api.OK {
		return e
	}
	if slot.Place != (api.Place{}) {
		return api.ErrForm
	}
	return api.OK
}

func checkCold(s api.Store, slot api.Slot) api.Errno {
	if !common.IsNothing(slot.Item) {
		return api.ErrForm
	}
	if !hasRecord(s.Segments, slot.Place) {
		return api.ErrNone
	}
	return api.OK
}

func hasRecord(segments [][]string, p api.Place) bool {
	if p.Segment < 0 || p.Segment >= len(segments) {
		return false
	}
	return p.Record >= 0 && p.Record < len(segments[p.Segment])
}
