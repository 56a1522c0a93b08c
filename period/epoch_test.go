package period_test

import (
	"testing"

	"distraint/api"
	"distraint/period"
)

// long tells odd params of this EpochLen and this Window.
func long(length, window int) api.Params {
	return of(func(p *api.Params) { p.EpochLen, p.Window = length, window })
}

func is(t *testing.T, name string, p api.Params, x, n int, err api.Errno) {
	t.Helper()
	for _, r := range requests() {
		if r.name == name {
			r.tells(t, p, x, 0, n, err)
			return
		}
	}
	t.Fatal("no call", name)
}

// TestEpochs: P8.2: the epochs of heights, written out.
func TestEpochs(t *testing.T) {
	for _, x := range []struct{ length, h, epoch int }{
		{1, 1, 0}, {1, 2, 1}, {1, 1000, 999}, {1, 4294967295, 4294967294}, {1, 4294967296, 4294967295},
		{2, 1, 0}, {2, 2, 0}, {2, 3, 1}, {2, 4, 1}, {2, 4294967294, 2147483646}, {2, 4294967295, 2147483647}, {2, 4294967296, 2147483647},
		{3, 3, 0}, {3, 4, 1}, {3, 4294967295, 1431655764}, {3, 4294967296, 1431655765},
		{10, 9, 0}, {10, 10, 0}, {10, 11, 1}, {10, 20, 1}, {10, 21, 2}, {10, 4294967290, 429496728}, {10, 4294967291, 429496729}, {10, 4294967296, 429496729},
		{999, 999, 0}, {999, 1000, 1}, {999, 4294967296, 4299266},
		{1000, 1, 0}, {1000, 999, 0}, {1000, 1000, 0}, {1000, 1001, 1}, {1000, 2000, 1}, {1000, 2001, 2}, {1000, 4294967000, 4294966}, {1000, 4294967001, 4294967}, {1000, 4294967296, 4294967},
	} {
		is(t, "Epoch", long(x.length, 5), x.h, x.epoch, api.OK)
	}
}

// TestEnds: P8.1 and P8.2: the first and the last heights of epochs, written out: the last one is cut to 2^32, and there is none if the first one is greater.
func TestEnds(t *testing.T) {
	for _, x := range []struct{ length, epoch, first, last int }{
		{1, 0, 1, 1}, {1, 1, 2, 2}, {1, 4294967294, 4294967295, 4294967295}, {1, 4294967295, 4294967296, 4294967296}, {1, 4294967296, 0, 0},
		{2, 0, 1, 2}, {2, 1, 3, 4}, {2, 2147483647, 4294967295, 4294967296}, {2, 2147483648, 0, 0}, {2, 4294967296, 0, 0},
		{3, 0, 1, 3}, {3, 1431655764, 4294967293, 4294967295}, {3, 1431655765, 4294967296, 4294967296}, {3, 1431655766, 0, 0},
		{10, 0, 1, 10}, {10, 1, 11, 20}, {10, 429496728, 4294967281, 4294967290}, {10, 429496729, 4294967291, 4294967296}, {10, 429496730, 0, 0}, {10, 4294967295, 0, 0},
		{512, 8388607, 4294966785, 4294967296}, {512, 8388608, 0, 0},
		{771, 5570644, 4294966525, 4294967295}, {771, 5570645, 4294967296, 4294967296}, {771, 5570646, 0, 0},
		{1000, 0, 1, 1000}, {1000, 1, 1001, 2000}, {1000, 4294966, 4294966001, 4294967000}, {1000, 4294967, 4294967001, 4294967296}, {1000, 4294968, 0, 0}, {1000, 4294967296, 0, 0},
		{1000, 1 << 61, 0, 0}, {1000, 1<<61 + 1, 0, 0}, {1000, 1 << 62, 0, 0}, {512, 1 << 55, 0, 0}, {512, -1 << 55, 0, 0}, {4, 1 << 62, 0, 0}, // EpochLen times these is 0 in 64 bits, or a little more
	} {
		err := api.OK
		if x.first == 0 {
			err = api.ErrRange
		}
		is(t, "First", long(x.length, 5), x.epoch, x.first, err)
		is(t, "Last", long(x.length, 5), x.epoch, x.last, err)
	}
}

// TestWindows: P8.2: where windows begin, written out: before the first height there is nothing.
func TestWindows(t *testing.T) {
	for _, x := range []struct{ length, window, h, low, floor int }{
		{1, 1, 1, 0, 1}, {1, 1, 2, 1, 2}, {1, 1, 4294967296, 4294967295, 4294967296},
		{1, 2, 1, 0, 1}, {1, 2, 2, 0, 1}, {1, 2, 3, 1, 2},
		{1, 256, 1, 0, 1}, {1, 256, 255, 0, 1}, {1, 256, 256, 0, 1}, {1, 256, 257, 1, 2}, {1, 256, 258, 2, 3}, {1, 256, 4294967296, 4294967040, 4294967041},
		{10, 8, 1, 0, 1}, {10, 8, 5, 0, 1}, {10, 8, 79, 0, 1}, {10, 8, 80, 0, 1}, {10, 8, 81, 1, 2}, {10, 8, 82, 1, 3}, {10, 8, 90, 1, 11}, {10, 8, 91, 2, 12}, {10, 8, 4294967296, 429496722, 4294967217},
		{1000, 1, 1, 0, 1}, {1000, 1, 999, 0, 1}, {1000, 1, 1000, 0, 1}, {1000, 1, 1001, 1, 2}, {1000, 1, 2000, 1, 1001}, {1000, 1, 2001, 2, 1002}, {1000, 1, 4294967296, 4294967, 4294966297},
		{1000, 256, 1, 0, 1}, {1000, 256, 255999, 0, 1}, {1000, 256, 256000, 0, 1}, {1000, 256, 256001, 1, 2}, {1000, 256, 257000, 1, 1001}, {1000, 256, 257001, 2, 1002}, {1000, 256, 4294967296, 4294712, 4294711297},
	} {
		is(t, "Low", long(x.length, x.window), x.h, x.low, api.OK)
		is(t, "Floor", long(x.length, x.window), x.h, x.floor, api.OK)
	}
}

// lengths and windows are edges of EpochLen and of Window, and some between.
func lengths() []int { return []int{1, 2, 3, 10, 512, 771, 999, 1000} }
func windows() []int { return []int{1, 2, 8, 255, 256} }

// TestEpochEdges: P8.2: heights and epochs on both sides of all edges, by the chapter's words.
func TestEpochEdges(t *testing.T) {
	for _, length := range lengths() {
		for _, window := range windows() {
			p := long(length, window)
			for _, middle := range []int{0, length, 2 * length, window, window * length, (window + 1) * length, top / length, top / 2, top - window*length, top - length, top} {
				for x := middle - 3; x <= middle+3; x++ {
					for _, name := range []string{"Epoch", "First", "Last", "Low", "Floor"} {
						for _, r := range requests() {
							if r.name == name {
								r.tellsTrue(t, p, x, 0)
							}
						}
					}
				}
			}
		}
	}
}

// ends tells the first and the last height of an epoch.
func ends(t *testing.T, p api.Params, e int) (first, last int) {
	t.Helper()
	first, err := period.First(p, e)
	last, other := period.Last(p, e)
	if err != api.OK || other != api.OK {
		t.Fatalf("First and Last(%+v, %d): %v, %v", p, e, err, other)
	}
	return first, last
}

// TestParted: P8.4: a walk over all heights of some epochs, which counts them: they follow upon each other without a gap, and have EpochLen heights each.
func TestParted(t *testing.T) {
	for _, length := range lengths() {
		p, h := long(length, 5), 1
		for e := range 5 {
			first, last := ends(t, p, e)
			if first != h {
				t.Fatalf("EpochLen %d: the epoch %d begins at %d; want %d", length, e, first, h)
			}
			for range length {
				if of, err := period.Epoch(p, h); of != e || err != api.OK {
					t.Fatalf("EpochLen %d: %d is in the epoch %d, %v; want %d", length, h, of, err, e)
				}
				h++
			}
			if last != h-1 {
				t.Fatalf("EpochLen %d: the epoch %d ends at %d; want %d", length, e, last, h-1)
			}
		}
	}
}

// TestBetween: P8.4: each height lies between the first and the last one of its epoch, and of no other epoch; the last epoch of all ends at 2^32.
func TestBetween(t *testing.T) {
	for _, length := range lengths() {
		p := long(length, 5)
		for _, middle := range []int{100, 5000, top / 3, top - 200} {
			for h := middle - 99; h <= middle+200; h++ {
				own, err := period.Epoch(p, h)
				if err != api.OK {
					t.Fatalf("Epoch(%+v, %d): %v", p, h, err)
				}
				for e := max(own-2, 0); e <= own+2; e++ {
					if _, err := period.First(p, e); err != api.OK && e > own {
						break // there are no epochs behind the last one
					}
					first, last := ends(t, p, e)
					if inside := h >= first && h <= last; inside != (e == own) {
						t.Fatalf("EpochLen %d: %d is in the epoch %d; the epoch %d is from %d to %d", length, h, own, e, first, last)
					}
				}
			}
		}
		final, _ := period.Epoch(p, top)
		if _, last := ends(t, p, final); last != top {
			t.Errorf("EpochLen %d: the last epoch ends at %d", length, last)
		}
		is(t, "First", p, final+1, 0, api.ErrRange)
		is(t, "Last", p, final+1, 0, api.ErrRange)
	}
}

// TestSteps: P8.4: from one height to the next, Low and Floor stay or increase by 1; neither is behind the height's own epoch, or the height.
func TestSteps(t *testing.T) {
	for _, length := range lengths() {
		for _, window := range windows() {
			p := long(length, window)
			for _, middle := range []int{200, window * length, (window + 1) * length, top / 3, top - 150} {
				from := max(middle-150, 1)
				low, floor := lowFloor(t, p, from)
				for h := from + 1; h <= middle+150; h++ {
					nextLow, nextFloor := lowFloor(t, p, h)
					if nextLow < low || nextLow > low+1 || nextFloor < floor || nextFloor > floor+1 {
						t.Fatalf("%+v at %d: from %d, %d to %d, %d", p, h, low, floor, nextLow, nextFloor)
					}
					low, floor = nextLow, nextFloor
				}
			}
			if low, floor := lowFloor(t, p, 1); low != 0 || floor != 1 {
				t.Errorf("%+v at 1: %d, %d", p, low, floor)
			}
		}
	}
}

// lowFloor tells Low and Floor, which reach back over Window epochs, or that many heights, or to the beginning.
func lowFloor(t *testing.T, p api.Params, h int) (low, floor int) {
	t.Helper()
	low, err := period.Low(p, h)
	floor, other := period.Floor(p, h)
	own, third := period.Epoch(p, h)
	if err != api.OK || other != api.OK || third != api.OK {
		t.Fatalf("Low, Floor and Epoch(%+v, %d): %v, %v, %v", p, h, err, other, third)
	}
	if own-low+1 != p.Window && (low != 0 || own >= p.Window) {
		t.Fatalf("Low(%+v, %d): %d", p, h, low)
	}
	if h-floor+1 != p.Window*p.EpochLen && (floor != 1 || h >= p.Window*p.EpochLen) {
		t.Fatalf("Floor(%+v, %d): %d", p, h, floor)
	}
	return low, floor
}
