// Package rows has sets of small numbers: rows of bits, in words of 64.
package rows

import (
	"iter"
	"math/bits"
	"slices"
)

// size is how many bits a word has.
const size = 64

// Row is a set of numbers from 0 on, up to that for which it was made.
type Row []uint64

// New makes a row for the numbers below n.
func New(n int) Row { return make(Row, (n+size-1)/size) }

// Several makes that many rows for the numbers below n.
func Several(count, n int) []Row {
	l := make([]Row, count)
	for k := range l {
		l[k] = New(n)
	}
	return l
}

// Clone makes a row that has the same numbers.
func (r Row) Clone() Row { return slices.Clone(r) }

// Has tells whether a number is in the row.
func (r Row) Has(k int) bool { return r[k/size]>>(k%size)&1 == 1 }

// Put puts a number in.
func (r Row) Put(k int) { r[k/size] |= 1 << (k % size) }

// Drop takes a number out.
func (r Row) Drop(k int) { r[k/size] &^= 1 << (k % size) }

// Clear takes all numbers out.
func (r Row) Clear() { clear(r) }

// Fill puts all numbers below n in.
func (r Row) Fill(n int) {
	for k := range n {
		r.Put(k)
	}
}

// Copy makes the row have what another one has.
func (r Row) Copy(o Row) { copy(r, o) }

// Join puts all numbers of another row in, and tells whether one was new.
func (r Row) Join(o Row) bool {
	changed := false
	for k, w := range o {
		changed = changed || w&^r[k] != 0
		r[k] |= w
	}
	return changed
}

// Meet leaves those in that another row has too, and tells whether one was taken out.
func (r Row) Meet(o Row) bool {
	changed := false
	for k, w := range o {
		changed = changed || r[k]&^w != 0
		r[k] &= w
	}
	return changed
}

// Without takes all numbers of another row out.
func (r Row) Without(o Row) {
	for k, w := range o {
		r[k] &^= w
	}
}

// Meets tells whether some number is in both rows.
func (r Row) Meets(o Row) bool {
	for k, w := range o {
		if r[k]&w != 0 {
			return true
		}
	}
	return false
}

// Empty tells whether there is no number in the row.
func (r Row) Empty() bool {
	return !slices.ContainsFunc(r, func(w uint64) bool { return w != 0 })
}

// Count tells how many numbers are in the row.
func (r Row) Count() int {
	n := 0
	for _, w := range r {
		n += bits.OnesCount64(w)
	}
	return n
}

// All tells the numbers of the row, rising.
func (r Row) All() iter.Seq[int] {
	return func(yield func(int) bool) {
		for k, w := range r {
			for ; w != 0; w &= w - 1 {
				if !yield(k*size + bits.TrailingZeros64(w)) {
					return
				}
			}
		}
	}
}
