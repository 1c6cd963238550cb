package tests

import (
	"fmt"
	"maps"
	"math/rand"
	"slices"
	"testing"

	"loop.example/janitor/impl"
)

// Seeds are fixed, so that a failure comes back in the next run.
const storeRounds = 400

func set(key string, val ...int) impl.StoWrite {
	return impl.StoWrite{Key: key, Val: val}
}

func del(key string) impl.StoWrite {
	return impl.StoWrite{Key: key, Del: true}
}

func item(key string, val ...int) impl.StoItem {
	return impl.StoItem{Key: key, Val: val}
}

func store(items ...impl.StoItem) impl.StoStore {
	return impl.StoStore{Items: items}
}

// fullStore has StoMost items, a10 to a49.
func fullStore() impl.StoStore {
	var s impl.StoStore
	for i := range impl.StoMost {
		s.Items = append(s.Items, item(fmt.Sprintf("a%d", 10+i), i))
	}
	return s
}

func sameItem(a, b impl.StoItem) bool {
	return a.Key == b.Key && slices.Equal(a.Val, b.Val)
}

func sameStore(a, b impl.StoStore) bool {
	return slices.EqualFunc(a.Items, b.Items, sameItem)
}

func sameWrite(a, b impl.StoWrite) bool {
	return a.Key == b.Key && a.Del == b.Del && slices.Equal(a.Val, b.Val)
}

func wantStore(t *testing.T, what string, got, want impl.StoStore) {
	t.Helper()
	if !sameStore(got, want) {
		t.Errorf("%s: got %v, want %v", what, got, want)
	}
}

func copyStore(s impl.StoStore) impl.StoStore {
	var out impl.StoStore
	for _, it := range s.Items {
		out.Items = append(out.Items, item(it.Key, slices.Clone(it.Val)...))
	}
	return out
}

func copyWrites(list []impl.StoWrite) []impl.StoWrite {
	var out []impl.StoWrite
	for _, w := range list {
		w.Val = slices.Clone(w.Val)
		out = append(out, w)
	}
	return out
}

// allKeys lists every valid key: 26 letters with one or two digits.
func allKeys() []string {
	var out []string
	for c := 'a'; c <= 'z'; c++ {
		for n := range 10 {
			out = append(out, fmt.Sprintf("%c%d", c, n))
		}
		for n := range 100 {
			out = append(out, fmt.Sprintf("%c%02d", c, n))
		}
	}
	return out
}

// badKeys lists strings that are no key, among them the bytes next to a to z and 0 to 9.
func badKeys() []string {
	return []string{
		"", "a", "7", "17", "ab", "a1b", "aa1", "a123", "a100", "1a", "A1", "Z9", "`1", "{1",
		"a/", "a:", "a1/", "a1:", "a/1", "a:1", " a1", "a1 ", "a 1", "a-1", "a+1", "a1\n", "a1\x00", "\x001",
		"\xff1", "a\xff", "\u00e91", "\u00e9", "a\u0661",
	}
}

// badNumbers lists what the numbers of an item cannot be.
func badNumbers() [][]int {
	return [][]int{
		nil, {}, {0, 0, 0, 0}, {-1}, {impl.ValTop + 1}, {0, -1}, {0, impl.ValTop + 1},
		{0, 0, -1}, {0, 0, impl.ValTop + 1}, {-1 << 63}, {1<<63 - 1},
	}
}

func randomNumbers(r *rand.Rand) []int {
	out := make([]int, 1+r.Intn(impl.ValMost))
	for i := range out {
		switch r.Intn(4) {
		case 0:
			out[i] = 0
		case 1:
			out[i] = impl.ValTop
		default:
			out[i] = r.Intn(impl.ValTop + 1)
		}
	}
	return out
}

// fewKeys are close to each other, so that random writes often hit the same key; some differ from others by a digit behind them only.
func fewKeys() []string {
	var out []string
	for _, c := range []string{"a", "b", "z"} {
		for _, n := range []string{"0", "1", "2", "9", "00", "01", "10", "11", "19", "20", "90", "99"} {
			out = append(out, c+n)
		}
	}
	return out
}

func randomStore(r *rand.Rand, keys []string, most int) impl.StoStore {
	picked := map[string][]int{}
	for range r.Intn(most + 1) {
		picked[keys[r.Intn(len(keys))]] = randomNumbers(r)
	}
	return storeOf(picked)
}

func randomWrites(r *rand.Rand, keys []string, most int) []impl.StoWrite {
	var out []impl.StoWrite
	for range r.Intn(most + 1) {
		key := keys[r.Intn(len(keys))]
		if r.Intn(3) == 0 {
			out = append(out, del(key))
		} else {
			out = append(out, set(key, randomNumbers(r)...))
		}
	}
	return out
}

// storeOf turns the model, a map, into a store.
func storeOf(m map[string][]int) impl.StoStore {
	var out impl.StoStore
	for _, key := range slices.Sorted(maps.Keys(m)) {
		out.Items = append(out.Items, item(key, m[key]...))
	}
	return out
}

func modelOf(s impl.StoStore) map[string][]int {
	m := map[string][]int{}
	for _, it := range s.Items {
		m[it.Key] = it.Val
	}
	return m
}

// modelDo is StoDo by a map, for valid arguments.
func modelDo(s impl.StoStore, list []impl.StoWrite) impl.StoStore {
	m := modelOf(s)
	for _, w := range list {
		if w.Del {
			delete(m, w.Key)
		} else {
			m[w.Key] = w.Val
		}
		if len(m) > impl.StoMost {
			return impl.StoStore{}
		}
	}
	return storeOf(m)
}
