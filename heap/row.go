package heap

// A row of at most near values has them side by side; of a wider one there are the pages that were written to, so that a thing of any width that there is room for can be made.
const (
	near = 4096
	page = 256
)

// row: so many values, zero at first.
type row[T Ref | uint64] struct {
	size  int
	side  []T
	pages map[int]*[page]T
}

func (r *row[T]) has(k int) bool { return k >= 0 && k < r.size }

func (r *row[T]) get(k int) T {
	if r.side != nil {
		return r.side[k]
	}
	if p := r.pages[k/page]; p != nil {
		return p[k%page]
	}
	return 0
}

func (r *row[T]) set(k int, x T) {
	if r.size > near {
		r.pageOf(k)[k%page] = x
		return
	}
	if r.side == nil {
		r.side = make([]T, r.size)
	}
	r.side[k] = x
}

func (r *row[T]) pageOf(k int) *[page]T {
	p := r.pages[k/page]
	if p != nil {
		return p
	}
	if r.pages == nil {
		r.pages = make(map[int]*[page]T)
	}
	p = new([page]T)
	r.pages[k/page] = p
	return p
}

// turn: each value that is not zero is another from now on.
func (r *row[T]) turn(other func(T) T) {
	turnAll(r.side, other)
	for _, p := range r.pages {
		turnAll(p[:], other)
	}
}

func turnAll[T Ref | uint64](list []T, other func(T) T) {
	for k, x := range list {
		if x != 0 {
			list[k] = other(x)
		}
	}
}
