package fresh_test

import (
	"math"
	"reflect"
	"testing"

	"slipsheet/api"
	"slipsheet/fresh"
	"slipsheet/tree"
)

func TestJ2Fresh(t *testing.T) {
	for guest := range api.MaxGuest + 1 {
		m, e := fresh.Image(guest)
		want := api.Image{Guest: guest, Root: make([]int, (guest+3)/4), Slots: make([]api.Slot, 1), Refs: make([]int, 1)}
		if !reflect.DeepEqual(m, want) || e != api.OK || tree.Check(m) != api.OK {
			t.Errorf("%d pages: %+v %d", guest, m, e)
		}
	}
	for _, guest := range []int{-1, 17, math.MinInt, math.MaxInt} {
		if m, e := fresh.Image(guest); !reflect.DeepEqual(m, api.Image{}) || e != api.ErrRange {
			t.Errorf("%d pages: %+v %d", guest, m, e)
		}
	}
}
