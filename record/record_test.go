package record

import (
	"math"
	"reflect"
	"testing"

	"emender/api"
	"emender/sample"
)

func TestIsClient(t *testing.T) {
	for who, want := range map[int]bool{math.MinInt: false, -1: false, 0: true, 1: true, 3: true, 4: false, math.MaxInt: false} {
		if IsClient(who) != want {
			t.Errorf("IsClient(%d): %v", who, !want)
		}
	}
}

func log() []api.Entry {
	return []api.Entry{
		{Who: 1, Seq: 5, S: sample.Replace(1, 2, "ab")},
		{},
		{Who: 3, Seq: 7, S: sample.Around(0, 1, 2, 3, "(", ")")},
		{Who: 2, Seq: 1, S: api.Step{K: api.SMark, From: 1, To: 2, Mark: api.Em}},
	}
}

func TestClone(t *testing.T) {
	for i, one := range log() {
		got := Clone(one)
		if !reflect.DeepEqual(got, one) {
			t.Errorf("Clone(%v): %v", one, got)
		}
		for j := range got.S.Slice {
			got.S.Slice[j].N = 'q'
		}
		if !reflect.DeepEqual(one, log()[i]) {
			t.Errorf("the clone of %v has its memory", one)
		}
	}
}

func TestCloneAll(t *testing.T) {
	l := log()
	got := CloneAll(l)
	if !reflect.DeepEqual(got, l) {
		t.Errorf("CloneAll(%v): %v", l, got)
	}
	for i := range got {
		got[i].Seq = 99
		for j := range got[i].S.Slice {
			got[i].S.Slice[j].N = 'q'
		}
	}
	if !reflect.DeepEqual(l, log()) {
		t.Errorf("the clones have the memory of %v", l)
	}
	if got := CloneAll(l[:0]); got != nil {
		t.Errorf("CloneAll of none: %v", got)
	}
}
