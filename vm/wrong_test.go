package vm

import (
	"math/rand"
	"slices"
	"testing"

	"jvmcore/api"
	classfile "jvmcore/class"
)

// Code that was changed at random ends, dies or is refused, and nothing panics, whenever is collected.
func TestChangedCode(t *testing.T) {
	r := rand.New(rand.NewSource(78))
	single := []byte{1, 2, 3, 4, 9, 14, 26, 27, 28, 42, 43, 44, 46, 50, 59, 60, 61, 63, 75, 76, 77, 79, 83, 87, 88, 89, 90, 91, 92, 93, 94, 95, 96, 108, 116, 133, 190, 191, 194, 195}
	ran := 0
	for seed := range int64(30) {
		a, b := modelClasses(t)
		m := &model{r: rand.New(rand.NewSource(seed)), statics: map[string]valueModel{}, texts: map[string]*thingModel{}}
		a.main(24, 8, func(c *coder) {
			m.coder = c
			m.write(30)
		})
		for range 300 {
			c := a.Class
			c.Methods = slices.Clone(c.Methods)
			for range 1 + r.Intn(2) {
				code := &c.Methods[len(c.Methods)-1].Code // main's
				s, at := []byte(code.Bytes), r.Intn(len(code.Bytes))
				switch r.Intn(3) {
				case 0:
					s[at] = byte(r.Intn(203))
				case 1:
					s[at] += byte(r.Intn(5) - 2)
				default:
					s = slices.Insert(s, at, single[r.Intn(len(single))])
				}
				code.Bytes = string(s)
			}
			s, _ := classfile.Write(c)
			v := machine(t, Options{100 + r.Intn(200), 20, 2 + r.Intn(10)}, b)
			v.Define(s)
			if _, e := v.Start("A"); e != api.OK {
				continue
			}
			ran++
			for range 10 {
				v.Run(0, 1+r.Intn(30))
				v.Collect(r.Intn(2) == 0)
			}
			v.Run(0, 10000)
			if s, why, e := v.Thread(0); s != 2 && s != 3 || (s == 3) != (why != "") || e != api.OK {
				t.Fatalf("the thread: %d, %q, %d", s, why, e)
			}
		}
	}
	if ran < 100 {
		t.Errorf("only %d of them ran", ran)
	}
}

// A frame may tell a long on the stack as Top, of one slot. What is then taken for another thing is of no harm.
func TestTopOnStack(t *testing.T) {
	top := api.VType{}
	others := []*built{
		newBuilt(t, "X", objectName, open).maker().field(0, "a", anyType).field(0, "n", "J").says(api.Private, "p", "()V", 1).says(api.Public, "v", "()V", 2),
		newBuilt(t, "Y", objectName, open).maker(),
		newBuilt(t, "Z", objectName, open).maker().says(api.Public, "run", "()V", 3).says(api.Public|api.Synchronized, "s", "()V", 4),
	}
	// As known to the verifier: below the Top stands a thing that is taken for one of another class.
	for _, c := range []struct {
		as   string
		push func(c *coder)
		use  func(c *coder)
	}{
		{"X", func(c *coder) { c.made("Y") }, func(c *coder) { c.member(180, "X", "a", anyType).ops(87) }},
		{"X", func(c *coder) { c.made("Y") }, func(c *coder) { c.long(1).member(181, "X", "n", "J") }},
		{"X", func(c *coder) { c.made("Y") }, func(c *coder) { c.virtual("X", "v", "()V") }},
		{"X", func(c *coder) { c.ops(3, 188, 10) }, func(c *coder) { c.ops(89).member(181, "X", "a", anyType) }},
		{stringName, func(c *coder) { c.made("X") }, func(c *coder) { c.ops(89).ofText("concat").printText() }},
		{stringName, func(c *coder) { c.made("X") }, func(c *coder) { c.ops(3).ofText("charAt").ops(87) }},
		{"[I", func(c *coder) { c.made("X") }, func(c *coder) { c.ops(4, 46).print("I") }},
		{"[B", func(c *coder) { c.made("X") }, func(c *coder) { c.ops(3, 4, 84) }},
		{"[LX;", func(c *coder) { c.made("X") }, func(c *coder) { c.ops(3, 1, 83) }},
		{"[LX;", func(c *coder) { c.ops(5, 188, 10) }, func(c *coder) { c.ops(89, 3, 95, 3, 50, 83) }},
		{"[[I", func(c *coder) { c.made("Y") }, func(c *coder) { c.ops(190).print("I") }},
		{threadName, func(c *coder) { c.made("Y") }, func(c *coder) { c.start() }},
		{threadName, func(c *coder) { c.made("Z") }, func(c *coder) { c.ops(89).start().ops(89).join() }},
		{threadName, func(c *coder) { c.array(3) }, func(c *coder) { c.start() }},
		{threadName, func(c *coder) { c.str("text") }, func(c *coder) { c.ops(89).join().start() }},
		{"Z", func(c *coder) { c.array(3) }, func(c *coder) { c.virtual("Z", "s", "()V") }},
		{"Z", func(c *coder) { c.made("X") }, func(c *coder) { c.ops(89, 194).virtual("Z", "s", "()V") }},
		{"Z", func(c *coder) { c.made("Y") }, func(c *coder) { c.ops(89, 194).virtual(objectName, "wait", "()V") }},
		{"java/lang/Throwable", func(c *coder) { c.made("Y") }, func(c *coder) { c.ops(89).jump(198, "on").ops(191).mark("on", nil, obj("java/lang/Throwable")).ops(87) }},
	} {
		a := plain(t, 10, 0, func(x *coder) {
			x.made("Y").ops(87, 1).with(192, x.class(c.as))
			c.push(x)
			x.ops(9).jump(167, "on!").mark("on!", nil, obj(c.as), anyT, top).ops(95, 87, 87)
			c.use(x)
		})
		v := started(t, usual, append([]*built{a}, others...)...)
		for k := 0; v.Run(0, 1)+v.Run(1, 1) > 0; k++ {
			v.Collect(k%2 == 0)
		}
		if s, _, _ := v.Thread(0); s != 2 && s != 3 && (s != 1 || c.as != "Z") {
			t.Errorf("as %s: state %d", c.as, s)
		}
	}
}

// spoil: a handler of a method is another, or a byte of its code.
func spoil(r *rand.Rand, c *api.Class) {
	code := &c.Methods[r.Intn(len(c.Methods))].Code
	if code.Bytes == "" {
		return // of a Native one
	}
	if n := len(code.Handlers); n > 0 && r.Intn(4) > 0 {
		code.Handlers = slices.Clone(code.Handlers)
		h, other := &code.Handlers[r.Intn(n)], code.Handlers[r.Intn(n)]
		places := []int{0, len(code.Bytes), other.From, other.To, other.Target, r.Intn(len(code.Bytes))}
		switch r.Intn(4) {
		case 0:
			h.From = places[r.Intn(len(places))]
		case 1:
			h.To = places[r.Intn(len(places))]
		case 2:
			h.Target = other.Target
		default:
			h.Type = uint16(r.Intn(len(c.Pool)))
		}
		return
	}
	s, at := []byte(code.Bytes), r.Intn(len(code.Bytes))
	if s[at] = byte(r.Intn(203)); r.Intn(2) == 0 {
		s[at] = byte(r.Intn(len(c.Pool)))
	}
	code.Bytes = string(s)
}

// So do classes with handlers, with <clinit> and of what is thrown, and of threads and locks, by several threads.
func TestChangedClasses(t *testing.T) {
	r := rand.New(rand.NewSource(79))
	ran := 0
	for k := range 120 {
		w := newWorld(r)
		if k%2 == 1 {
			w = newThreadWorld(r)
		}
		files := map[string]string{}
		for name, c := range w.classes {
			files[name] = c.built(t).bytes()
		}
		for range 20 {
			changed := w.classes[modelThings[r.Intn(len(modelThings))]].built(t)
			c := changed.Class
			c.Methods = slices.Clone(c.Methods)
			for range 1 + r.Intn(2) {
				spoil(r, &c)
			}
			s, _ := classfile.Write(c)
			v := machine(t, Options{100 + r.Intn(100), 20, 1 + r.Intn(10)})
			if _, e := v.Define(s); e != api.OK {
				continue
			}
			for name := range files {
				v.Define(files[name])
			}
			v.Start("K0")
			v.Start(changed.name)
			ran += v.Threads() - 1
			for range 30 {
				v.Run(r.Intn(max(2, v.Threads())), r.Intn(30))
				v.Collect(r.Intn(2) == 0)
			}
			for n := range v.Threads() {
				if s, why, e := v.Thread(n); s < 0 || s > 3 || s == 1 && k%2 == 0 || (s == 3) != (why != "") || e != api.OK {
					t.Fatalf("the thread: %d, %q, %d", s, why, e)
				}
			}
		}
	}
	if ran < 100 {
		t.Errorf("only %d of them ran", ran)
	}
}
