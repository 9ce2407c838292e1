package link

import (
	"slices"
	"strings"
	"testing"

	"jvmcore/api"
	"jvmcore/class"
)

// early: a class that must be there at first. Methods: n: Native, s: Native and Static, else with code.
type early struct {
	name, super string
	flags       uint16
	faces       []string
	methods     string
}

func earlyClasses() []early {
	const made = "<init>()V"
	l := []early{
		{"java/lang/Object", "", 0x21, nil, made + " n:wait()V n:notify()V n:notifyAll()V"},
		{"java/lang/Cloneable", object, 0x601, nil, ""},
		{"java/io/Serializable", object, 0x601, nil, ""},
		{"java/lang/String", object, 0x31, []string{"java/io/Serializable"}, "n:length()I n:charAt(I)C n:concat(Ljava/lang/String;)Ljava/lang/String; n:intern()Ljava/lang/String; n:equals(Ljava/lang/Object;)Z"},
		{"java/lang/Thread", object, 0x21, nil, made + " run()V n:start()V n:join()V s:yield()V"},
		{"jvm/Out", object, 0x31, nil, "s:print(I)V s:print(J)V s:print(F)V s:print(D)V s:print(C)V s:print(Ljava/lang/String;)V"},
		{"java/lang/Throwable", object, 0x21, []string{"java/io/Serializable"}, made},
	}
	for _, pair := range strings.Fields(`
		Exception:Throwable Error:Throwable
		RuntimeException:Exception
		LinkageError:Error VirtualMachineError:Error
		IncompatibleClassChangeError:LinkageError
		IndexOutOfBoundsException:RuntimeException ArithmeticException:RuntimeException ArrayStoreException:RuntimeException ClassCastException:RuntimeException
		IllegalMonitorStateException:RuntimeException IllegalThreadStateException:RuntimeException NegativeArraySizeException:RuntimeException NullPointerException:RuntimeException
		ArrayIndexOutOfBoundsException:IndexOutOfBoundsException StringIndexOutOfBoundsException:IndexOutOfBoundsException
		AbstractMethodError:IncompatibleClassChangeError IllegalAccessError:IncompatibleClassChangeError InstantiationError:IncompatibleClassChangeError
		NoSuchFieldError:IncompatibleClassChangeError NoSuchMethodError:IncompatibleClassChangeError
		UnsatisfiedLinkError:LinkageError ClassCircularityError:LinkageError ExceptionInInitializerError:LinkageError NoClassDefFoundError:LinkageError VerifyError:LinkageError
		OutOfMemoryError:VirtualMachineError StackOverflowError:VirtualMachineError`) {
		name, super, _ := strings.Cut(pair, ":")
		l = append(l, early{"java/lang/" + name, "java/lang/" + super, 0x21, nil, made})
	}
	return l
}

// members: as the world must tell them.
func (c early) members() []api.Member {
	var l []api.Member
	for _, s := range strings.Fields(c.methods) {
		m := api.Member{Class: c.name, Flags: 0x1}
		if rest, native := strings.CutPrefix(s, "n:"); native {
			m.Flags, s = 0x101, rest
		}
		if rest, static := strings.CutPrefix(s, "s:"); static {
			m.Flags, s = 0x109, rest
		}
		k := strings.Index(s, "(")
		m.Name, m.Type = s[:k], s[k:]
		l = append(l, m)
	}
	return l
}

func TestNew(t *testing.T) {
	w, l := New(), earlyClasses()
	if len(w.classes) != len(l) || len(l) != 35 {
		t.Errorf("%d classes, want %d", len(w.classes), len(l))
	}
	for _, c := range l {
		if e := w.Load(c.name); e != api.OK {
			t.Errorf("Load(%q) = %d", c.name, e)
			continue
		}
		x := w.classes[c.name]
		above := c.faces
		if c.super != "" {
			above = slices.Concat([]string{c.super}, c.faces)
		}
		if x.file.Flags != c.flags || !slices.Equal(x.above, above) || x.file.Minor != 0 || x.file.Major != 51 {
			t.Errorf("%s: flags %x, above it %q", c.name, x.file.Flags, x.above)
		}
		if !slices.Equal(x.methods.list, c.members()) || len(x.fields.list) != 0 {
			t.Errorf("%s: methods %v", c.name, x.methods.list)
		}
		if e, part, _, _ := class.Check(x.file); e != api.OK && c.name != object || c.name == object && part != 1 {
			t.Errorf("%s: Check = %d, %d", c.name, e, part)
		}
	}
}

// TestNewCode: methods that are not Native return, and do nothing else.
func TestNewCode(t *testing.T) {
	for name, c := range New().classes {
		for k, m := range c.file.Methods {
			native := c.methods.list[k].Flags&api.Native != 0
			code := m.Code
			if native == m.HasCode || !native && (code.Bytes != "\xb1" || code.MaxLocals != 1) || native && code.Bytes != "" {
				t.Errorf("%s: %s: %v", name, c.methods.list[k].Name, m)
			}
			if code.MaxStack != 0 || code.Map != "" || len(code.Handlers) != 0 {
				t.Errorf("%s: %s: %v", name, c.methods.list[k].Name, m)
			}
		}
	}
}

// TestNewFromOutside: what the calls tell of each class.
func TestNewFromOutside(t *testing.T) {
	l := earlyClasses()
	up := map[string]string{}
	for _, c := range l {
		up[c.name] = c.super
	}
	throwable := func(name string) bool {
		for name != "" && name != "java/lang/Throwable" {
			name = up[name]
		}
		return name != ""
	}
	w := New()
	for _, c := range l {
		for _, d := range l {
			want := d.name == object || d.name == "java/io/Serializable" && (throwable(c.name) || c.name == "java/lang/String")
			for name := c.name; name != ""; name = up[name] {
				want = want || name == d.name
			}
			if is, e := w.Under(c.name, d.name); is != want || e != api.OK {
				t.Errorf("Under(%q, %q) = %v, %d", c.name, d.name, is, e)
			}
		}
		face := c.flags&api.Interface != 0
		for _, want := range c.members() {
			if m, e := w.Method("any/One", c.name, want.Name, want.Type, face); m != want || e != api.OK {
				t.Errorf("Method of %q = %v, %d, want %v", c.name, m, e, want)
			}
		}
		made := strings.Contains(c.methods, "<init>")
		if _, e := w.Method("any/One", c.name, "<init>", "()V", face); made != (e == api.OK) {
			t.Errorf("<init> of %q: %d", c.name, e)
		}
		if fields, e := w.Layout(c.name); len(fields) != 0 || e != api.OK {
			t.Errorf("Layout(%q) = %v, %d", c.name, fields, e)
		}
	}
}

// TestBelowFirst: what may stand below a class that is there at first, from any package.
func TestBelowFirst(t *testing.T) {
	for _, c := range earlyClasses() {
		below, has := api.OK, api.ErrChange
		switch {
		case c.flags&api.Interface != 0:
			below, has = api.ErrChange, api.OK
		case c.flags&api.Final != 0:
			below = api.ErrChange
		}
		w := worldOf(t, newBuilt("p/A", c.name, open), newBuilt("p/B", object, open, c.name))
		if a, b := w.Load("p/A"), w.Load("p/B"); a != below || b != has {
			t.Errorf("below %s: %d, %d", c.name, a, b)
		}
	}
}
