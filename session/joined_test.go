package session

import (
	"slices"
	"testing"

	"hindsight/api"
)

// TestO2Many: no disk has so many sectors that more events than are looked at would lie on it; so what joins batches is asked.
func TestO2Many(t *testing.T) {
	var many [][]api.Event
	var want []api.Event
	for i := range api.MaxTrace / 2 {
		b := []api.Event{{At: i}, {Value: -i}}
		many, want = append(many, b), append(want, b...)
	}
	if l, e := joined(many); !slices.Equal(l, want) || e != api.OK {
		t.Errorf("%d events, %d", len(l), e)
	}
	if l, e := joined(append(many, nil, []api.Event{{}})); len(l) != 0 || e != api.ErrMany {
		t.Errorf("%d events, %d", len(l), e)
	}
}
