package tests

import (
	"math"
	"slices"
	"testing"

	"loop.example/g00635/impl"
)

// someChanges are that many, no two alike; what they would do to a Grid is not asked.
func someChanges(size int) []impl.Change {
	var out []impl.Change
	for i := range int64(size) {
		out = append(out, impl.Change{X: i, Y: -i, Old: 1000 + i, New: 5000 - i})
	}
	return out
}

func TestInvertByHand(t *testing.T) {
	for _, c := range []struct {
		name    string
		l, want []impl.Change
	}{
		{"none", nil, nil},
		{"an empty list", []impl.Change{}, nil},
		{"one", []impl.Change{{X: 1, Y: 2, Old: 3, New: 4}}, []impl.Change{{X: 1, Y: 2, Old: 4, New: 3}}},
		{"two", []impl.Change{{X: 1, Y: 2, Old: 3, New: 4}, {X: 5, Y: 6, Old: 7, New: 8}}, []impl.Change{{X: 5, Y: 6, Old: 8, New: 7}, {X: 1, Y: 2, Old: 4, New: 3}}},
		{"one place twice", []impl.Change{{X: 0, Y: 0, Old: 1, New: 2}, {X: 0, Y: 0, Old: 2, New: 3}}, []impl.Change{{X: 0, Y: 0, Old: 3, New: 2}, {X: 0, Y: 0, Old: 2, New: 1}}},
		{"two that are alike", []impl.Change{{X: 1, Y: 0, Old: 5, New: 5}, {X: 1, Y: 0, Old: 5, New: 5}}, []impl.Change{{X: 1, Y: 0, Old: 5, New: 5}, {X: 1, Y: 0, Old: 5, New: 5}}},
		{"no place and no tile", []impl.Change{{X: -1, Y: 99, Old: math.MinInt64, New: math.MaxInt64}}, []impl.Change{{X: -1, Y: 99, Old: math.MaxInt64, New: math.MinInt64}}},
	} {
		if got := impl.Invert(c.l); !slices.Equal(got, c.want) {
			t.Errorf("%s: got %+v, want %+v", c.name, got, c.want)
		}
	}
}

func TestInvertSizes(t *testing.T) {
	for _, size := range []int{0, 1, 2, 3, 63, 64} {
		l := someChanges(size)
		got := impl.Invert(l)
		if len(got) != size {
			t.Fatalf("of %d there are %d", size, len(got))
		}
		for i, c := range l {
			if want := (impl.Change{X: c.X, Y: c.Y, Old: c.New, New: c.Old}); got[size-1-i] != want {
				t.Errorf("of %d, number %d: got %+v, want %+v", size, i, got[size-1-i], want)
			}
		}
		if back := impl.Invert(got); !slices.Equal(back, l) {
			t.Errorf("of %d, inverted twice: got %+v", size, back)
		}
	}
	for _, size := range []int{65, 66, 128, impl.MaxList - 1, impl.MaxList, impl.MaxList + 1, 10 * impl.MaxList} {
		if got := impl.Invert(someChanges(size)); len(got) != 0 {
			t.Errorf("of %d there are %d", size, len(got))
		}
	}
}

func TestInvertIsNewMemory(t *testing.T) {
	for _, size := range []int{1, 2, 64} {
		room := someChanges(size + 10)
		before := slices.Clone(room)
		l := room[5 : 5+size]
		got := impl.Invert(l)
		whole := slices.Clone(got)
		if !slices.Equal(room, before) {
			t.Errorf("of %d: what was handed in is turned", size)
		}
		for i := range got {
			got[i] = impl.Change{X: 77}
		}
		_ = append(got, impl.Change{X: 55})
		if !slices.Equal(room, before) {
			t.Errorf("of %d: the answer shares memory with what was handed in", size)
		}
		again := impl.Invert(l)
		for i := range room {
			room[i] = impl.Change{X: 66}
		}
		if !slices.Equal(again, whole) {
			t.Errorf("of %d: what was handed in shares memory with the answer", size)
		}
	}
}
