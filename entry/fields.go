package entry

import "cloister/api"

// mostCount is the greatest Count that may be.
const mostCount = 1<<31 - 1

// fields is fields of an entry, one a bit.
type fields uint8

// The fields, in the order in which they stand in bytes: it is the order of every kind that has some of them.
const (
	fieldKey fields = 1 << iota
	fieldStamp
	fieldCount
	fieldDead
	fieldValue
)

// countsOf is the fields that count of a kind; none, if it is no kind.
func countsOf(kind int) fields {
	switch kind {
	case api.EntryPut:
		return fieldKey | fieldValue
	case api.EntryDelete:
		return fieldKey
	case api.EntryCommit, api.EntryOpen, api.EntrySeal:
		return fieldStamp | fieldCount
	case api.EntryVersion:
		return fieldKey | fieldStamp | fieldDead | fieldValue
	}
	return 0
}

// have tells whether a field is among these.
func (f fields) have(one fields) bool { return f&one != 0 }

// mayBe tells whether an entry may be. A dead one's Value must be empty, just as one that does not count.
func mayBe(e api.Entry) bool {
	counts := countsOf(e.Kind)
	return counts != 0 &&
		fits(counts.have(fieldKey), len(e.Key), 1, api.MaxKey) &&
		fits(counts.have(fieldStamp), e.Stamp, 0, api.MaxStamp) &&
		fits(counts.have(fieldCount), e.Count, 0, mostCount) &&
		(counts.have(fieldDead) || !e.Dead) &&
		fits(counts.have(fieldValue) && !e.Dead, len(e.Value), 0, api.MaxValue)
}

// fits tells whether a number that counts lies between its bounds, and whether one that does not is zero.
func fits(counts bool, n, low, high int) bool {
	if !counts {
		return n == 0
	}
	return n >= low && n <= high
}
