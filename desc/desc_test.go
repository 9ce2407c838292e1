package desc

import (
	"regexp"
	"slices"
	"strings"
	"testing"
)

func TestMember(t *testing.T) {
	for _, c := range []struct {
		s             string
		field, method int
	}{
		{"", 0, 0}, {"a", 1, 1}, {"main", 1, 1}, {"I", 1, 1}, {"(", 1, 1}, {" ", 1, 1}, {"\x00", 1, 1}, {"\xff\xfe", 1, 1},
		{"<init>", 1, 2}, {"<clinit>", 1, 3}, {"<init", 1, 0}, {"init>", 1, 0}, {"<init>a", 1, 0}, {"<<init>>", 1, 0}, {"<INIT>", 1, 0}, {"<", 1, 0}, {">", 1, 0}, {"a<b", 1, 0},
		{"a.b", 0, 0}, {"a;", 0, 0}, {"[a", 0, 0}, {"a/b", 0, 0}, {"/", 0, 0}, {".", 0, 0}, {"<init>/", 0, 0}, {"\xff;", 0, 0},
	} {
		if f, m := Member(c.s, false), Member(c.s, true); f != c.field || m != c.method {
			t.Errorf("Member(%q) = %d, %d, want %d, %d", c.s, f, m, c.field, c.method)
		}
	}
}

func TestClass(t *testing.T) {
	brackets := strings.Repeat("[", 255)
	for s, want := range map[string]bool{
		"java/lang/Object": true, "A": true, "I": true, "V": true, "a/b/c": true, "<init>": true, "\xff/\x00": true, "(I)V": true,
		"[[I": true, "[La/b;": true, brackets + "J": true, brackets + "La;": true,
		"": false, "/": false, "/a": false, "a/": false, "a//b": false, "a.b": false, "a;b": false, "a[": false, "La;": false,
		"[": false, "[V": false, "[a": false, "[II": false, "[[": false, "[L;": false, "[La;b": false, "[" + brackets + "J": false,
	} {
		if got := Class(s); got != want {
			t.Errorf("Class(%.20q) = %v", s, got)
		}
	}
}

func TestFieldAndSlots(t *testing.T) {
	brackets := strings.Repeat("[", 255)
	for s, want := range map[string]bool{
		"B": true, "C": true, "D": true, "F": true, "I": true, "J": true, "S": true, "Z": true,
		"La;": true, "Ljava/lang/String;": true, "[D": true, "[[[La/b;": true, brackets + "I": true, brackets + "La;": true, "LV;": true, "L\xff;": true,
		"": false, "V": false, "L": false, "L;": false, "La": false, "La;;": false, "L/a;": false, "La/;": false, "La.b;": false, "L[I;": false, "La;I": false,
		"[": false, "[V": false, "I[": false, "II": false, "i": false, "A": false, "\xff": false, "()V": false, "[" + brackets + "I": false, brackets: false,
	} {
		if got := Field(s); got != want {
			t.Errorf("Field(%.20q) = %v", s, got)
		}
		slots := 1
		switch s {
		case "J", "D":
			slots = 2
		case "V":
			slots = 0
		}
		if got := Slots(s); got != slots {
			t.Errorf("Slots(%.20q) = %d, want %d", s, got, slots)
		}
	}
}

func TestMethod(t *testing.T) {
	brackets := strings.Repeat("[", 255)
	for _, c := range []struct {
		s     string
		takes []string
		gives string
	}{
		{"()V", nil, "V"}, {"()I", nil, "I"}, {"()[[La/b;", nil, "[[La/b;"},
		{"(IJ[LA;)V", []string{"I", "J", "[LA;"}, "V"},
		{"(BCDFIJSZ)D", []string{"B", "C", "D", "F", "I", "J", "S", "Z"}, "D"},
		{"(La/b;Lc;[[II)Ld;", []string{"La/b;", "Lc;", "[[I", "I"}, "Ld;"},
		{"(L(;L);)L);", []string{"L(;", "L);"}, "L);"},
		{"(" + brackets + "I" + brackets + "J)" + brackets + "D", []string{brackets + "I", brackets + "J"}, brackets + "D"},
	} {
		takes, gives, ok := Method(c.s)
		if !slices.Equal(takes, c.takes) || gives != c.gives || !ok {
			t.Errorf("Method(%.20q) = %.60q, %.20q, %v", c.s, takes, gives, ok)
		}
	}
	for _, s := range []string{
		"", "(", ")", "()", "V", "I", "(V)V", "(I", "(I)", "I)V", "(I)VV", "()II", "((I)V", "(I))V", "(I)V)", " ()V", "()V ", "(L;)V", "(La)V", "(La;b)V", "([)V", "([V)V", "()[V", "()[", "()L", "(I,I)V", "()(I)V",
		"([" + brackets + "I)V", "()[" + brackets + "I",
	} {
		noMethod(t, s)
	}
}

func noMethod(t *testing.T, s string) {
	t.Helper()
	if takes, gives, ok := Method(s); len(takes) != 0 || gives != "" || ok {
		t.Errorf("Method(%.20q) of %d bytes = %.60q, %.20q, %v", s, len(s), takes, gives, ok)
	}
}

func TestSlotsOfMethods(t *testing.T) {
	for _, c := range []struct {
		takes string
		n     int
	}{
		{strings.Repeat("I", 254), 254}, {strings.Repeat("J", 127), 127}, {strings.Repeat("D", 126) + "La;[J", 128}, {strings.Repeat("[D", 254), 254},
	} {
		// What it gives does not count.
		for _, gives := range []string{"V", "I", "J"} {
			if l, g, ok := Method("(" + c.takes + ")" + gives); len(l) != c.n || g != gives || !ok {
				t.Errorf("Method of %d values: %d, %q, %v", c.n, len(l), g, ok)
			}
			for _, more := range []string{"I", "[J", "La;", "J"} {
				noMethod(t, "("+c.takes+more+")"+gives)
			}
		}
	}
	noMethod(t, "("+strings.Repeat("I", 253)+"J)V")
	noMethod(t, "("+strings.Repeat("I", 100000)+")V")
}

func TestListsAreNew(t *testing.T) {
	l, _, _ := Method("(IJ)V")
	l[0] = "wrong"
	if m, _, _ := Method("(IJ)V"); m[0] != "I" {
		t.Errorf("Method(\"(IJ)V\") takes %q", m)
	}
}

// Every text of some signs, against the document's words as regular expressions.
func TestAllShortTexts(t *testing.T) {
	const part, class = `[^.;\[/]+`, `[^.;\[/]+(/[^.;\[/]+)*`
	const value = `\[*([BCDFIJSZ]|L` + class + `;)`
	is := func(s string) *regexp.Regexp { return regexp.MustCompile(`(?s)^(` + s + `)$`) }
	isPart, isMethodPart, isClass, isValue, isMethod := is(part), is(`[^.;\[/<>]+`), is(class+`|\[`+value), is(value), is(`\((`+value+`)*\)(V|`+value+`)`)
	number := func(ok bool) int {
		if ok {
			return 1
		}
		return 0
	}
	var look func(s string, more int)
	look = func(s string, more int) {
		if got := Member(s, false); got != number(isPart.MatchString(s)) {
			t.Errorf("Member(%q, false) = %d", s, got)
		}
		if got := Member(s, true); got != number(isMethodPart.MatchString(s)) {
			t.Errorf("Member(%q, true) = %d", s, got)
		}
		if got := Class(s); got != isClass.MatchString(s) {
			t.Errorf("Class(%q) = %v", s, got)
		}
		if got := Field(s); got != isValue.MatchString(s) {
			t.Errorf("Field(%q) = %v", s, got)
		}
		takes, gives, ok := Method(s)
		if ok != isMethod.MatchString(s) || ok && "("+strings.Join(takes, "")+")"+gives != s {
			t.Errorf("Method(%q) = %q, %q, %v", s, takes, gives, ok)
		}
		for k := range len("()IJVL;[/.<\xff") * number(more > 0) {
			look(s+"()IJVL;[/.<\xff"[k:k+1], more-1)
		}
	}
	look("", 4)
	look("(L", 3)
	look("()L", 3)
	look("(I[L<", 3)
}
