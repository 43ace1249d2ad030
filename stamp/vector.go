package stamp

// unseen stands in a vector where no clock was asked. It is below every stamp, so that nothing there counts at it.
const unseen = -1

// Take is a vector of what clocks say at some places.
func Take(clocks []*Clock, places []int) []int {
	vector := make([]int, len(clocks))
	for place := range vector {
		vector[place] = unseen
	}
	for _, place := range places {
		if isThere(clocks, place) {
			vector[place] = clocks[place].Now()
		}
	}
	return vector
}

// isThere tells whether a number is a place of the clocks at which there is one; Now alone wouldn't tell, as it is 0 of none.
func isThere(clocks []*Clock, place int) bool {
	return place >= 0 && place < len(clocks) && clocks[place] != nil
}

// Below tells whether a vector is nowhere above another.
func Below(a, b []int) bool {
	if len(a) != len(b) {
		return false
	}
	for place, n := range a {
		if n > b[place] {
			return false
		}
	}
	return true
}
