package clock

import "putlog/api"

// window is the true seconds from first to last; there are none if first is greater than last.
type window struct {
	first, last int
}

// narrow leaves in w only the seconds from first to last.
func (w *window) narrow(first, last int) {
	w.first, w.last = max(w.first, first), min(w.last, last)
}

// shown returns the true seconds at which c, which is valid, may show the second local.
func shown(c api.Clock, local int) window {
	w := window{first: 0, last: api.MaxTime}
	for _, r := range c.Readings {
		bound(r, c.Drift, local, w.narrow)
	}
	return w
}

// bound calls narrow with the first and the last true second at which a clock with this drift, which shows what r says, may show the second local.
func bound(r api.Reading, drift, local int, narrow func(first, last int)) {
	least, greatest := Spread(drift, max(local-r.Local, r.Local-local))
	switch {
	case local > r.Local:
		narrow(r.Low+least, r.High+greatest)
	case local < r.Local:
		narrow(r.Low-greatest, r.High-least)
	default:
		// The clock may have shown the same second before the reading, too.
		narrow(r.Low-greatest, r.High+greatest)
	}
}
