package vm

import (
	"fmt"
	"iter"
	"math/rand"
	"slices"
	"strings"
	"testing"

	"jvmcore/api"
	"jvmcore/pool"
)

// insModel: an instruction, by a word; with a frame of the map ahead of it: 1: of a statement; 2: of what takes things.
type insModel struct {
	op    string
	n     int    // a number, or where it goes
	class string // or a text
	frame int
}

// bodyModel: the code of a method; none of a Native one.
type bodyModel struct {
	list     []insModel
	handlers []handler
	flags    uint16
}

// classModel: a class; its state by the words of the chapter.
type classModel struct {
	name, super string
	isFace      bool
	wrong       string   // what is thrown when it is verified
	own, words  int      // of its things: for its own fields, and for all
	texts       []string // values of static fields
	bodies      map[string]*bodyModel
	state       string // "", by, done, failed
	by          *threadModel
	o           *thingModel // its static field
	lock        lockModel
}

type frameModel struct {
	*bodyModel
	at     int
	locals [2]*thingModel
	stack  []valueModel
	starts *classModel
	lock   *lockModel
	held   *thingModel
}

// threadModel: it runs by methods that call each other, and goes on where what it yields is asked for: true behind a step, false if it cannot.
type threadModel struct {
	*worldModel
	frames []*frameModel
	state  int
	why    string
	self   *thingModel
	waits  *lockModel
	told   bool
	yield  func(bool) bool
	next   func() (bool, bool)
	stop   func()
}

type worldModel struct {
	limit, depth int
	rounds       int // that it is run by
	most         int // threads that are started from outside, if there are not more already
	classes      map[string]*classModel
	texts        map[string]*thingModel
	noRoom       *thingModel
	held         *thingModel
	threads      []*threadModel
	lines        []string
	seen         map[string]int // how often what came up
}

// firstSupers: what is above classes that are there at first.
var firstSupers = strings.Fields("Throwable Object Exception Throwable Error Throwable RuntimeException Exception LinkageError Error VirtualMachineError Error ArithmeticException RuntimeException NullPointerException RuntimeException ClassCastException RuntimeException ArrayIndexOutOfBoundsException IndexOutOfBoundsException IndexOutOfBoundsException RuntimeException NoClassDefFoundError LinkageError VerifyError LinkageError ExceptionInInitializerError LinkageError UnsatisfiedLinkError LinkageError IllegalMonitorStateException RuntimeException IllegalThreadStateException RuntimeException Thread Object OutOfMemoryError VirtualMachineError StackOverflowError VirtualMachineError String Object")

// superOf: of a class; of an array it is java/lang/Object.
func (w *worldModel) superOf(class string) string {
	if c, own := w.classes[class]; own {
		return c.super
	}
	for k := 0; k < len(firstSupers); k += 2 {
		if lang+firstSupers[k] == class {
			return lang + firstSupers[k+1]
		}
	}
	return objectName
}

func (w *worldModel) isBelow(class, other string) bool {
	for class != other && class != objectName {
		class = w.superOf(class)
	}
	return class == other
}

// live: the words of all that can be reached.
func (w *worldModel) live() int {
	l := []*thingModel{w.noRoom, w.held}
	for _, x := range w.texts {
		l = append(l, x)
	}
	for _, c := range w.classes {
		l = append(l, c.o)
	}
	for _, th := range w.threads {
		if th.state < ended {
			l = append(l, th.self)
		}
		for _, f := range th.frames {
			l = append(append(l, f.held), f.locals[:]...)
			for _, v := range f.stack {
				l = append(l, v.thing)
			}
		}
	}
	n, seen := 0, map[*thingModel]bool{nil: true}
	for _, x := range l {
		if !seen[x] {
			n += 2 + len(x.words)
		}
		seen[x] = true
	}
	return n
}

// make: a thing, or none if there is no room.
func (w *worldModel) make(class string, words int) *thingModel {
	if w.live()+2+words > w.limit {
		return nil
	}
	return &thingModel{class: class, words: make([]uint64, words)}
}

// thrown: a thing of a class.
func (w *worldModel) thrown(class string) *thingModel {
	if x := w.make(lang+class, 0); x != nil {
		return x
	}
	w.seen["no room for what is thrown"]++
	return w.noRoom
}

func (w *worldModel) text(s string) *thingModel {
	if w.texts[s] == nil {
		units, _ := pool.Units(s)
		if x := w.make(stringName, len(units)); x != nil {
			w.texts[s] = x
		}
	}
	return w.texts[s]
}

type quit struct{}

// ticks: a step is over; or the thread cannot go on.
func (th *threadModel) ticks(went bool) {
	if !th.yield(went) {
		panic(quit{})
	}
}

func (th *threadModel) push(f *frameModel) { th.frames = append(th.frames, f) }

func (th *threadModel) pop() {
	last := len(th.frames) - 1
	if l := th.frames[last].lock; l != nil {
		l.letGo(th)
	}
	th.frames = th.frames[:last]
}

// main: of a class, from its initialisation on; or, of none, a frame.
func (th *threadModel) main(c *classModel, f *frameModel) iter.Seq[bool] {
	th.push(f)
	return func(yield func(bool) bool) {
		defer func() {
			if x := recover(); x != nil && x != (quit{}) {
				panic(x)
			}
		}()
		th.yield = yield
		if x := th.run(f, th.initialise(c)); x != nil {
			th.seen["died: "+x.class]++
			th.state, th.why = died, x.class
			th.ticks(true)
		}
	}
}

// run: a frame till it is over; what leaves it. Something may be thrown in it at first.
func (th *threadModel) run(f *frameModel, x *thingModel) *thingModel {
	for over := false; !over; {
		if x != nil {
			k := slices.IndexFunc(f.handlers, func(h handler) bool {
				return f.at >= h.first && f.at < h.last && (h.class == "" || th.isBelow(x.class, h.class))
			})
			if k < 0 {
				th.pop()
				return x
			}
			th.seen["taken: "+x.class]++
			f.at, f.stack = f.handlers[k].target, []valueModel{{thing: x}}
			th.ticks(true)
		}
		x, over = th.do(f)
	}
	return nil
}

// initialise: what is thrown.
func (th *threadModel) initialise(c *classModel) *thingModel {
	for c != nil && c.state != "done" && c.by != th {
		switch {
		case c.state == "by":
			th.seen["cannot go on"]++
			th.ticks(false)
			continue
		case c.state == "failed":
			return th.thrown("NoClassDefFoundError")
		case c.wrong != "":
			return th.thrown(c.wrong)
		case len(th.frames) >= th.depth:
			return th.thrown("StackOverflowError")
		}
		for _, s := range c.texts {
			if th.text(s) == nil {
				th.seen["no room for a value"]++
				c.state = "failed"
				return th.noRoom
			}
		}
		c.state, c.by = "by", th
		if x := th.begin(c); x != nil {
			return x
		}
	}
	return nil
}

// begin: the frame of a class, till it is over; what is thrown on from there.
func (th *threadModel) begin(c *classModel) *thingModel {
	f := &frameModel{bodyModel: &bodyModel{list: []insModel{{op: "return"}}}, starts: c}
	if c.bodies["<clinit>"] != nil {
		f.bodyModel = c.bodies["<clinit>"]
	}
	th.push(f)
	th.ticks(true)
	var x *thingModel
	if !c.isFace {
		x = th.initialise(th.classes[c.super])
	}
	if x == nil {
		x = th.run(f, nil)
	} else {
		th.seen["above: "+x.class]++
		th.pop()
	}
	if x == nil {
		return nil
	}
	c.state, c.by = "failed", nil
	if !th.isBelow(x.class, lang+"Error") {
		th.held = x
		x = th.thrown("ExceptionInInitializerError")
		th.held = nil
		th.seen["instead: "+x.class]++
	}
	return x
}

// do: an instruction: what is thrown; is the frame over?
func (th *threadModel) do(f *frameModel) (*thingModel, bool) {
	i := f.list[f.at]
	switch i.op {
	case "return":
		th.pop()
		if c := f.starts; c != nil {
			c.state, c.by = "done", nil
		} else if len(th.frames) == 0 {
			th.state = ended
		}
		th.ticks(true)
		return nil, true
	case "call", "init", "virtual":
		return th.call(f, i), false
	case "wait":
		return th.wait(f), false
	case "goto":
		f.at = i.n - 1
	default:
		if x := th.simple(f, i); x != nil {
			return x, false
		}
	}
	f.at++
	th.ticks(true)
	return nil, false
}

func (th *threadModel) call(f *frameModel, i insModel) *thingModel {
	g := &frameModel{bodyModel: &bodyModel{list: []insModel{{op: "return"}}}}
	c := th.classes[i.class]
	if i.op == "call" {
		if x := th.initialise(c); x != nil {
			return x
		}
		g.bodyModel = c.bodies["m"]
	} else {
		g.locals[0] = f.top(0).thing
		switch {
		case g.locals[0] == nil:
			return th.thrown("NullPointerException")
		case i.op == "virtual":
			c, g.bodyModel = th.selected(g.locals[0].class, "v")
		case c != nil:
			g.bodyModel = c.bodies["<init>"]
		}
	}
	if len(th.frames) >= th.depth {
		return th.thrown("StackOverflowError")
	}
	th.guard(g, c)
	if i.op != "call" {
		f.drop(1)
	}
	th.push(g)
	th.ticks(true)
	x := th.run(g, nil)
	if x == nil {
		f.at++
	}
	return x
}

func (f *frameModel) top(k int) valueModel { return f.stack[len(f.stack)-1-k] }

func (f *frameModel) drop(n int) { f.stack = f.stack[:len(f.stack)-n] }

func (f *frameModel) push(v valueModel) { f.stack = append(f.stack, v) }

// simple: an instruction behind which code goes on: what it throws.
func (th *threadModel) simple(f *frameModel, i insModel) *thingModel {
	switch i.op {
	case "push":
		f.push(valueModel{bits: uint64(i.n)})
	case "null":
		f.push(valueModel{})
	case "pop":
		f.drop(1)
	case "dup":
		f.push(f.top(0))
	case "print":
		th.lines = append(th.lines, fmt.Sprint(f.top(0).bits))
		f.drop(1)
	case "load":
		f.push(valueModel{thing: f.locals[i.n]})
	case "store":
		f.locals[i.n] = f.top(0).thing
		f.drop(1)
	case "divide":
		return th.thrown("ArithmeticException")
	case "throw":
		if f.top(0).thing == nil {
			return th.thrown("NullPointerException")
		}
		return f.top(0).thing
	case "cast":
		if x := f.top(0).thing; x != nil && !th.isBelow(x.class, i.class) {
			return th.thrown("ClassCastException")
		}
	case "element":
		if f.top(1).thing == nil {
			return th.thrown("NullPointerException")
		}
		return th.thrown("ArrayIndexOutOfBoundsException")
	case "none":
		return th.thrown("NoClassDefFoundError")
	case "yield":
	case "enter", "exit", "notify", "notifyAll", "start", "join":
		return th.ofThing(f, i.op)
	default:
		return th.making(f, i)
	}
	return nil
}

// making: an instruction that needs a class, or room.
func (th *threadModel) making(f *frameModel, i insModel) *thingModel {
	var x *thingModel
	c := th.classes[i.class]
	if i.op != "text" && i.op != "array" {
		if x := th.initialise(c); x != nil {
			return x
		}
	}
	switch i.op {
	case "get":
		f.push(valueModel{bits: 5})
		return nil
	case "getThing":
		f.push(valueModel{thing: c.o})
		return nil
	case "putThing":
		c.o = f.top(0).thing
		f.drop(1)
		return nil
	case "text":
		x = th.text(i.class)
	case "array":
		x = th.make("[I", int(f.top(0).bits))
		f.drop(1)
	case "new":
		n := 0
		if c != nil {
			n = c.words
		}
		x = th.make(i.class, n)
	}
	if x == nil {
		return th.noRoom
	}
	f.push(valueModel{thing: x})
	return nil
}

// write: the instruction, for the machine.
func (i insModel) write(c *coder) {
	switch i.op {
	case "push":
		c.ops(16, byte(i.n))
	case "load":
		c.ops(42 + byte(i.n))
	case "store":
		c.ops(75 + byte(i.n))
	case "print":
		c.print("I")
	case "cast":
		c.with(192, c.class(i.class))
	case "wait", "notify", "notifyAll":
		c.virtual(objectName, i.op, "()V")
	case "start", "join":
		c.virtual(threadName, i.op, "()V")
	case "yield":
		c.static(threadName, i.op, "()V")
	case "virtual":
		c.virtual(i.class, "v", "()V")
	case "none":
		c.with(187, c.class("None"))
	case "get":
		c.member(178, i.class, "s", "I")
	case "getThing":
		c.member(178, i.class, "o", anyType)
	case "putThing":
		c.member(179, i.class, "o", anyType)
	case "text":
		c.str(i.class)
	case "array":
		c.ops(188, 10)
	case "new":
		c.with(187, c.class(i.class))
	case "init":
		c.init(i.class)
	case "call":
		c.static(i.class, "m", "()V")
	case "goto":
		c.jump(167, fmt.Sprint(i.n))
	default:
		c.ops(map[string]byte{"null": 1, "pop": 87, "dup": 89, "divide": 108, "throw": 191, "element": 46, "enter": 194, "exit": 195, "return": 177}[i.op])
	}
}

func (b *bodyModel) write(c *coder) {
	for k, i := range b.list {
		switch name := fmt.Sprint(k); i.frame {
		case 1:
			c.mark(name, []api.VType{anyT, obj("[I")})
		case 2:
			c.mark(name, nil, throwableT)
		default:
			c.here(name)
		}
		i.write(c)
	}
	c.here(fmt.Sprint(len(b.list)))
	for _, h := range b.handlers {
		c.guard(fmt.Sprint(h.first), fmt.Sprint(h.last), fmt.Sprint(h.target), h.class)
	}
}

// code: instructions of a text: words with spaces between, each with a number, or a class, behind a colon.
func codeModel(s string) []insModel {
	var l []insModel
	for _, word := range strings.Fields(s) {
		op, rest, _ := strings.Cut(word, ":")
		i := insModel{op: op, class: rest}
		fmt.Sscan(rest, &i.n)
		l = append(l, i)
	}
	return l
}

var (
	modelThings  = strings.Fields("K0 K0 K1 K1 K2 K2 K3 E0 E1 E2 W N")
	modelThrown  = strings.Fields("E0 E1 E2 java/lang/Error java/lang/Exception java/lang/Throwable java/lang/ArithmeticException")
	modelTakes   = strings.Fields("E0 E1 E2 java/lang/IllegalMonitorStateException java/lang/ClassCastException java/lang/Throwable java/lang/Exception java/lang/RuntimeException java/lang/ArithmeticException java/lang/Error java/lang/LinkageError java/lang/NoClassDefFoundError java/lang/ExceptionInInitializerError java/lang/VirtualMachineError java/lang/StackOverflowError java/lang/OutOfMemoryError")
	modelStrings = strings.Fields("a bcd efghijklmnopqrstuvwxyz 0123456789")
)

func pick(r *rand.Rand, l []string) string { return l[r.Intn(len(l))] }

// statement: some instructions behind which the stack is as empty as ahead of them.
func statement(r *rand.Rand) string {
	class := pick(r, modelThings)
	switch r.Intn(9) {
	case 0:
		return fmt.Sprint("push:", r.Intn(100), " print")
	case 1:
		return fmt.Sprint("push:", r.Intn(60)+r.Intn(2)*(20+r.Intn(40)), " array store:1")
	case 2:
		return "new:" + class + " pop"
	case 3:
		return "new:" + class + " dup init:" + class + " store:0"
	case 4:
		return "get:" + pick(r, append(modelThings, "I", "I")) + " pop"
	case 5:
		return "load:" + fmt.Sprint(r.Intn(2)) + " putThing:" + class
	case 6:
		return "getThing:" + class + " store:0"
	case 7:
		return "call:" + class
	}
	return "text:" + pick(r, modelStrings) + " store:0"
}

// throwing: a statement that throws something, as a rule.
func throwing(r *rand.Rand) string {
	switch r.Intn(6) {
	case 0:
		return "push:1 push:0 divide pop"
	case 1:
		class := pick(r, modelThrown)
		return "new:" + class + " dup init:" + class + " throw"
	case 2:
		return "load:0 cast:" + throwable + " throw"
	case 3:
		return "load:1 null store:1 push:100 element pop"
	case 4:
		return "load:0 load:1 null store:0 null store:1 push:1 push:0 divide pop pop pop"
	}
	return []string{"none pop", "null throw", "goto:-1", "goto:-1"}[r.Intn(4)]
}

// taking: what a handler does.
func taking(r *rand.Rand) string {
	say := fmt.Sprint("push:", 100+r.Intn(20), " print ")
	return []string{"pop " + say + "null store:0 null store:1 goto:-1", "throw", say + "throw", "store:0 null store:1 goto:-1", "pop " + say + "return", "pop push:1 push:0 divide return"}[r.Intn(6)]
}

// newBody: of which one in so many statements throws; the last of its handlers takes all, if it is to be so.
func newBody(r *rand.Rand, calm int, all bool) *bodyModel {
	return bodyOf(r, all, "null store:0 null store:1", "return", func() string {
		if r.Intn(calm) == 0 {
			return throwing(r)
		}
		return statement(r)
	})
}

// bodyOf: by how it begins and ends, and what tells a statement.
func bodyOf(r *rand.Rand, all bool, first, last string, tell func() string) *bodyModel {
	b := &bodyModel{list: codeModel(first), flags: api.Static}
	var begins, takes []int
	for range 1 + r.Intn(7) {
		begins = append(begins, len(b.list))
		b.list = append(b.list, codeModel(tell())...)
	}
	begins = append(begins, len(b.list))
	b.list = append(b.list, codeModel(last)...)
	for range r.Intn(4) {
		takes = append(takes, len(b.list))
		b.list = append(b.list, codeModel(taking(r))...)
	}
	for _, k := range begins {
		b.list[k].frame = 1
	}
	for _, k := range takes {
		b.list[k].frame = 2
		first := r.Intn(len(b.list))
		h := handler{first, first + 1 + r.Intn(len(b.list)-first), k, ""}
		if r.Intn(3) > 0 {
			h.class = pick(r, modelTakes)
		}
		b.handlers = append(b.handlers, h)
	}
	if all {
		b.handlers = append(b.handlers, handler{r.Intn(2), len(b.list), len(b.list), ""})
		b.list = append(b.list, codeModel("pop push:99 print null store:0 null store:1 goto:-1")...)
		b.list[b.handlers[len(b.handlers)-1].target].frame = 2
	}
	for k, i := range b.list {
		if i.op == "goto" {
			b.list[k].n = begins[r.Intn(len(begins))]
		}
	}
	return b
}

func (w *worldModel) add(r *rand.Rand, name, super string) *classModel {
	c := &classModel{name: name, super: super, own: r.Intn(3) + r.Intn(4)/3*r.Intn(40), bodies: map[string]*bodyModel{"main": newBody(r, 6, r.Intn(4) > 0), "m": newBody(r, 3, false)}}
	c.bodies["<init>"] = &bodyModel{flags: api.Public, list: codeModel("load:0 init:" + super + " return")}
	if r.Intn(3) > 0 {
		c.bodies["<clinit>"] = newBody(r, 10, r.Intn(3) == 0)
	}
	for range r.Intn(2) {
		c.texts = append(c.texts, pick(r, modelStrings))
	}
	w.classes[name] = c
	w.measure(name)
	return c
}

// measure: the words of things of classes, each behind the one above it.
func (w *worldModel) measure(names ...string) {
	for _, name := range names {
		c := w.classes[name]
		if c.words = c.own; w.classes[c.super] != nil {
			c.words += w.classes[c.super].words
		}
	}
}

func newWorld(r *rand.Rand) *worldModel {
	w := &worldModel{rounds: 300, most: 6, limit: 100 + r.Intn(80), depth: 1 + r.Intn(12), classes: map[string]*classModel{}, texts: map[string]*thingModel{}, noRoom: &thingModel{class: lang + "OutOfMemoryError"}}
	w.add(r, "W", objectName).wrong = "VerifyError"
	w.add(r, "N", objectName).wrong = "NoClassDefFoundError"
	w.add(r, "K0", objectName)
	w.add(r, "K1", pick(r, []string{objectName, "K0"}))
	w.add(r, "K2", pick(r, []string{"K0", "K1"}))
	w.add(r, "K3", pick(r, []string{objectName, "K2", "W", "N"}))
	w.add(r, "E0", lang+"Exception")
	w.add(r, "E1", pick(r, []string{lang + "Error", "E0"}))
	w.add(r, "E2", pick(r, []string{lang + "RuntimeException", "E1"}))
	w.add(r, "I", objectName).isFace = true
	return w
}

// built: the class, for the machine.
func (c *classModel) built(t *testing.T) *built {
	flags := uint16(api.Static)
	b := newBuilt(t, c.name, c.super, open)
	if c.isFace {
		b = newBuilt(t, c.name, c.super, openFace)
		flags |= api.Public | api.Final
	}
	five := b.constant(api.Const{Tag: api.Integer, Bits: 5})
	b.valued(flags, "s", "I", five).field(flags, "o", anyType)
	for k, s := range c.texts {
		b.valued(flags, fmt.Sprint("t", k), textType, b.stringRef(s))
	}
	for name, body := range c.bodies {
		switch {
		case name == "<clinit>" || name == "main" && !c.isFace:
			b.method(api.Static, name, "()V", 8, 2, body.write)
		case c.isFace:
		case body.flags&api.Native != 0:
			b.bare(body.flags, name, "()V")
		default:
			b.method(body.flags, name, "()V", 8, 2, body.write)
		}
	}
	if !c.isFace {
		for k := range c.own {
			b.field(0, fmt.Sprint("f", k, c.name), "I")
		}
	}
	switch c.name {
	case "W":
		b.method(api.Static, "wrong", "()V", 1, 0, func(x *coder) { x.ops(87, 177) })
	case "N":
		b.method(api.Static, "lacks", "()V", 1, 0, func(x *coder) {
			x.here("a").ops(177).mark("b", nil, throwableT).ops(191).guard("a", "b", "b", "Late")
		})
	}
	return b
}

// start: a thread more; what is thrown at once is no step.
func (w *worldModel) start(c *classModel) {
	th := w.more(&threadModel{worldModel: w}, c, &frameModel{bodyModel: c.bodies["main"]})
	switch c.state {
	case "":
		th.next()
	case "failed":
		th.next()
		w.seen[fmt.Sprint("failed at Start: state ", th.state)]++
	case "by":
		w.seen["by another at Start"]++
	}
}

// same: is the machine as the model has it?
func (w *worldModel) same(t *testing.T, what string, v *VM) {
	t.Helper()
	if got, want := strings.Join(v.Out(), " "), strings.Join(w.lines, " "); got != want {
		t.Fatalf("%s: printed %q, want %q", what, got, want)
	}
	if got, want := v.Live(), w.live(); got != want {
		t.Fatalf("%s: %d words, want %d", what, got, want)
	}
	if v.Threads() != len(w.threads) {
		t.Fatalf("%s: %d threads, want %d", what, v.Threads(), len(w.threads))
	}
	for n, th := range w.threads {
		if s, why, _ := v.Thread(n); s != th.state || why != th.why {
			t.Fatalf("%s: thread %d: %d, %q, want %d, %q", what, n, s, why, th.state, th.why)
		}
	}
}

// Random programs, run by several threads that take turns, against a plain model that never collects.
func TestThrowModel(t *testing.T) {
	seen := map[string]int{}
	for seed := range int64(400) {
		r := rand.New(rand.NewSource(seed))
		newWorld(r).check(t, fmt.Sprint("seed ", seed), r, seen)
	}
	cameUp(t, seen, "cannot go on", "no room for a value", "no room for what is thrown", "above: java/lang/StackOverflowError", "above: java/lang/ExceptionInInitializerError", "above: java/lang/NoClassDefFoundError", "instead: java/lang/ExceptionInInitializerError", "taken: E0", "taken: E1", "taken: E2", "taken: java/lang/OutOfMemoryError", "taken: java/lang/VerifyError", "died: java/lang/StackOverflowError", "died: java/lang/NoClassDefFoundError", "failed at Start: state 0", "failed at Start: state 3", "by another at Start")
}

func cameUp(t *testing.T, seen map[string]int, l ...string) {
	t.Helper()
	for _, what := range l {
		if seen[what] == 0 {
			t.Errorf("never came up: %s; what did: %v", what, seen)
		}
	}
}

// callModel: of a machine: Start of a class; or Define of what is late; or Run of a thread by steps, and how many it went.
type callModel struct {
	class               string
	late                bool
	thread, steps, went int
}

// check: the machine goes as the model does; and so does another with more or less room for the young, in which nothing is collected but by itself, and which goes in pieces that are as great as may be.
func (w *worldModel) check(t *testing.T, what string, r *rand.Rand, seen map[string]int) {
	w.seen = seen
	var l []*built
	for _, c := range w.classes {
		l = append(l, c.built(t))
	}
	young := func() int { return 20 + r.Intn(w.limit-19) }
	calls := w.turns(t, what, r, machine(t, Options{w.limit, young(), w.depth}, l...))
	v := machine(t, Options{w.limit, young(), w.depth}, l...)
	for k, c := range calls {
		at := fmt.Sprint(what, ", in one piece, call ", k)
		switch {
		case c.class != "":
			v.Start(c.class)
		case c.late:
			defineLate(t, v)
		default:
			runs(t, at, v, c.thread, c.steps, c.went)
		}
	}
	w.same(t, what+", in pieces", v)
	for _, th := range w.threads {
		th.stop()
	}
}

func defineLate(t *testing.T, v *VM) { v.Define(newBuilt(t, "Late", lang+"Error", open).bytes()) }

// turns: of the threads; the calls that were made.
func (w *worldModel) turns(t *testing.T, what string, r *rand.Rand, v *VM) []callModel {
	n, went := 0, true
	var calls []callModel
	for turn := range w.rounds {
		at := fmt.Sprint(what, ", turn ", turn)
		switch k := r.Intn(40); {
		case turn == 0, k == 0 && len(w.threads) < w.most:
			name := fmt.Sprint("K", r.Intn(3))
			w.start(w.classes[name])
			if got, e := v.Start(name); got != len(w.threads)-1 || e != api.OK {
				t.Fatalf("%s: Start = %d, %d", at, got, e)
			}
			calls = append(calls, callModel{class: name})
		case k == 1:
			defineLate(t, v)
			w.classes["N"].wrong = ""
			calls = append(calls, callModel{late: true})
		case k == 2:
			v.Collect(false)
		case k < 8, !went && k < 36:
			n = r.Intn(len(w.threads))
			for tries := 0; tries < 4 && w.threads[n].state >= ended; tries++ {
				n = r.Intn(len(w.threads))
			}
		}
		went, _ = w.threads[n].next()
		steps := map[bool]int{true: 1}[went]
		if got := v.Run(n, 1); got != steps {
			t.Fatalf("%s: thread %d went %d steps, want %v", at, n, got, went)
		}
		w.same(t, at, v)
		if last := len(calls) - 1; calls[last].steps > 0 && calls[last].thread == n {
			calls[last].steps++
			calls[last].went += steps
		} else {
			calls = append(calls, callModel{thread: n, steps: 1, went: steps})
		}
	}
	return calls
}
