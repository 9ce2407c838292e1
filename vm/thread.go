package vm

// The states of a thread.
const (
	ready = 0
	ended = 2
	died  = 3
)

// thread: data, that Run alone makes go on.
type thread struct {
	frames []*frame // none, when it is ended or died
	state  int
	why    string // the class of what it died of
}

// last: the frame that runs.
func (t *thread) last() *frame { return t.frames[len(t.frames)-1] }

// leave: the last frame is over.
func (t *thread) leave() {
	last := len(t.frames) - 1
	t.frames[last] = nil
	t.frames = t.frames[:last]
}
