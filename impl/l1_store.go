package impl

import (
	"slices"
	"strings"
)

// StoMost is how many items a store has at most, ValMost how many numbers an item has at most, ValTop the largest of these numbers.
const (
	StoMost = 40
	ValMost = 3
	ValTop  = 9999
)

// StoItem is an item of a store: its key and its numbers.
type StoItem struct {
	Key string
	Val []int
}

// StoStore is a store: items in ascending order of their keys.
type StoStore struct {
	Items []StoItem
}

// StoWrite is a write: it sets the numbers of the item with that key, or, with Del, removes that item.
type StoWrite struct {
	Key string
	Del bool
	Val []int
}

// keyed is what a sorted slice may hold.
type keyed interface {
	sortKey() string
}

// sorted is in ascending order of the keys, since find depends on that.
type sorted[E keyed] []E

// find returns where the element with a key is, or where it would have to be, and whether it is there.
func (s sorted[E]) find(key string) (int, bool) {
	return slices.BinarySearchFunc(s, key, func(e E, key string) int {
		return strings.Compare(e.sortKey(), key)
	})
}

// ascends compares neighbours strictly, so that no key occurs twice.
func (s sorted[E]) ascends() bool {
	for i := 1; i < len(s); i++ {
		if s[i-1].sortKey() >= s[i].sortKey() {
			return false
		}
	}
	return true
}

// put works in place: only a caller that owns s may use it.
func (s sorted[E]) put(e E) sorted[E] {
	i, found := s.find(e.sortKey())
	if found {
		s[i] = e
		return s
	}
	return slices.Insert(s, i, e)
}

// drop works in place: only a caller that owns s may use it.
func (s sorted[E]) drop(key string) sorted[E] {
	i, found := s.find(key)
	if !found {
		return s
	}
	return slices.Delete(s, i, i+1)
}

func (it StoItem) sortKey() string {
	return it.Key
}

// keyOk looks at bytes, not at runes: the letters and digits of other alphabets are none here.
func keyOk(key string) bool {
	if len(key) < 2 || len(key) > 3 || key[0] < 'a' || key[0] > 'z' {
		return false
	}
	for i := 1; i < len(key); i++ {
		if key[i] < '0' || key[i] > '9' {
			return false
		}
	}
	return true
}

func numbersOk(val []int) bool {
	if len(val) < 1 || len(val) > ValMost {
		return false
	}
	for _, n := range val {
		if n < 0 || n > ValTop {
			return false
		}
	}
	return true
}

// StoOk reports whether a store is valid.
func StoOk(s StoStore) bool {
	if len(s.Items) > StoMost {
		return false
	}
	for _, it := range s.Items {
		if !keyOk(it.Key) || !numbersOk(it.Val) {
			return false
		}
	}
	return sorted[StoItem](s.Items).ascends()
}

// StoGet returns the numbers of an item and true; nil and false if there is no such item or the store is invalid.
func StoGet(s StoStore, key string) ([]int, bool) {
	if !StoOk(s) {
		return nil, false
	}
	i, found := sorted[StoItem](s.Items).find(key)
	if !found {
		return nil, false
	}
	return slices.Clone(s.Items[i].Val), true
}

// WrtOk reports whether a write is valid: it has either numbers or Del.
func WrtOk(w StoWrite) bool {
	if !keyOk(w.Key) {
		return false
	}
	if w.Del {
		return len(w.Val) == 0
	}
	return numbersOk(w.Val)
}

func writesOk(list []StoWrite) bool {
	for _, w := range list {
		if !WrtOk(w) {
			return false
		}
	}
	return true
}

// copyItems copies the numbers too, since a result shares no memory with an argument.
func copyItems(items []StoItem) sorted[StoItem] {
	list := make(sorted[StoItem], 0, len(items))
	for _, it := range items {
		list = append(list, StoItem{Key: it.Key, Val: slices.Clone(it.Val)})
	}
	return list
}

// StoDo applies writes one after the other; it returns the zero value if the store or a write is invalid, or if there is no room after one of the writes.
func StoDo(s StoStore, list []StoWrite) StoStore {
	if !StoOk(s) || !writesOk(list) {
		return StoStore{}
	}
	items := copyItems(s.Items)
	for _, w := range list {
		if w.Del {
			items = items.drop(w.Key)
		} else {
			items = items.put(StoItem{Key: w.Key, Val: slices.Clone(w.Val)})
		}
		if len(items) > StoMost {
			return StoStore{}
		}
	}
	return StoStore{Items: items}
}
