package point

import (
	"testing"

	"bastille/fe"
)

// P7.1: On of coordinates that are not on the curve, or do not go together. No exported call makes such ones, so this test makes them here.
func TestOnOfOther(t *testing.T) {
	one, b := fe.Small(1), Base()
	scaled := Point{twice(b.x), twice(b.y), twice(b.z), twice(b.t)}
	if !scaled.On() || !scaled.Equal(b) || scaled.Bytes() != b.Bytes() {
		t.Error("the base, with all coordinates twice, is not the base")
	}
	for _, p := range []Point{
		at(one, one),
		at(one, fe.Small(0)),
		at(fe.Small(0), fe.Small(0)),
		at(b.y, b.x),
		at(b.x.Add(one), b.y),
		at(b.x, b.y.Add(one)),
		{b.x, b.y, one, b.t.Add(one)},
		{b.x, b.y, one, b.t.Neg()},
		{b.x, b.y, fe.Small(2), b.t},
		{twice(b.x), twice(b.y), fe.Small(2), b.t},
		{b.x, b.y, fe.Small(0), b.t},
		{fe.Small(0), one, fe.Small(0), fe.Small(0)},
		{one, one, fe.Small(0), fe.Small(0)},
		{one, fe.Small(0), fe.Small(0), fe.Small(0)},
	} {
		if p.On() {
			t.Errorf("%x, %x, %x and %x are on the curve", p.x.Bytes(), p.y.Bytes(), p.z.Bytes(), p.t.Bytes())
		}
	}
}
