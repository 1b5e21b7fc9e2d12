package recent

import "testing"

// has holds which of the keys from 0 on a list has; it looks at the map alone, for to get a value is to use it.
func has(t *testing.T, l *List[int, string], want ...int) {
	t.Helper()
	if len(l.nodes) != len(want) {
		t.Fatalf("the list has %d values, want %v", len(l.nodes), want)
	}
	for _, k := range want {
		if l.nodes[k] == nil {
			t.Fatalf("the list has no %d, want %v", k, want)
		}
	}
}

func TestTheOneThatWasNotUsedForLongestIsLeft(t *testing.T) {
	l := New[int, string](3)
	for i, s := range []string{"a", "b", "c"} {
		l.Add(i, s)
	}
	has(t, l, 0, 1, 2)
	if s, ok := l.Get(0); !ok || s != "a" {
		t.Fatalf("Get(0): %q, %v", s, ok)
	}
	l.Add(3, "d")
	has(t, l, 0, 2, 3)
	if s, ok := l.Get(1); ok || s != "" {
		t.Fatalf("Get(1): %q, %v", s, ok)
	}
	l.Get(2)
	l.Get(2)
	l.Add(4, "e")
	has(t, l, 2, 3, 4)
	l.Add(5, "f")
	has(t, l, 2, 4, 5)
	l.Add(6, "g")
	has(t, l, 4, 5, 6)
}

func TestRoomForFew(t *testing.T) {
	for room := range 4 {
		l := New[int, string](room)
		for i := range 10 {
			l.Add(i, "x")
			if _, ok := l.Get(i); ok != (room > 0) {
				t.Fatalf("room for %d: the last one is there: %v", room, ok)
			}
		}
		if len(l.nodes) != room {
			t.Errorf("room for %d: there are %d", room, len(l.nodes))
		}
	}
}
