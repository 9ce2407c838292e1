package link

import (
	"strings"

	"jvmcore/api"
)

// outline: a class that is there at first. Its methods are told as name and descriptor in one, with spaces between.
type outline struct {
	name, super           string
	flags                 uint16 // beside Public
	face                  string // the one that it has, if any
	plain, native, static string // methods with code; Native; Native and Static
}

const (
	version   = 51
	lang      = "java/lang/"
	maker     = initName + "()V"
	faceFlags = api.Interface | api.Abstract
)

// outlines: of all that are there at first.
func outlines() []outline {
	l := []outline{
		{name: object, flags: api.SuperFlag, plain: maker, native: "wait()V notify()V notifyAll()V"},
		{name: cloneable, super: object, flags: faceFlags},
		{name: serializable, super: object, flags: faceFlags},
		{name: lang + "String", super: object, flags: api.SuperFlag | api.Final, face: serializable,
			native: "length()I charAt(I)C concat(Ljava/lang/String;)Ljava/lang/String; intern()Ljava/lang/String; equals(Ljava/lang/Object;)Z"},
		{name: lang + "Thread", super: object, flags: api.SuperFlag, plain: maker + " run()V", native: "start()V join()V", static: "yield()V"},
		{name: "jvm/Out", super: object, flags: api.SuperFlag | api.Final,
			static: "print(I)V print(J)V print(F)V print(D)V print(C)V print(Ljava/lang/String;)V"},
		{name: lang + "Throwable", super: object, flags: api.SuperFlag, face: serializable, plain: maker},
	}
	for _, f := range families() {
		for _, name := range strings.Fields(f.below) {
			l = append(l, outline{name: lang + name, super: lang + f.above, flags: api.SuperFlag, plain: maker})
		}
	}
	return l
}

// family: classes of what is thrown, and the one above them, all without java/lang/.
type family struct {
	above, below string
}

func families() []family {
	return []family{
		{"Throwable", "Exception Error"},
		{"Exception", "RuntimeException"},
		{"Error", "LinkageError VirtualMachineError"},
		{"LinkageError", "IncompatibleClassChangeError UnsatisfiedLinkError ClassCircularityError ExceptionInInitializerError NoClassDefFoundError VerifyError"},
		{"VirtualMachineError", "OutOfMemoryError StackOverflowError"},
		{"RuntimeException", "IndexOutOfBoundsException ArithmeticException ArrayStoreException ClassCastException IllegalMonitorStateException IllegalThreadStateException NegativeArraySizeException NullPointerException"},
		{"IndexOutOfBoundsException", "ArrayIndexOutOfBoundsException StringIndexOutOfBoundsException"},
		{"IncompatibleClassChangeError", "AbstractMethodError IllegalAccessError InstantiationError NoSuchFieldError NoSuchMethodError"},
	}
}

// class: as if it were read of a class file.
func (o outline) class() api.Class {
	b := builder{api.Class{Major: version, Flags: api.Public | o.flags, Pool: []api.Const{{}}}}
	b.This = b.class(o.name)
	if o.super != "" {
		b.Super = b.class(o.super)
	}
	if o.face != "" {
		b.Interfaces = append(b.Interfaces, b.class(o.face))
	}
	b.methods(o.plain, api.Public)
	b.methods(o.native, api.Public|api.Native)
	b.methods(o.static, api.Public|api.Native|api.Static)
	return b.Class
}

// builder: puts a class together.
type builder struct {
	api.Class
}

// add: a constant more: its index.
func (b *builder) add(c api.Const) uint16 {
	b.Pool = append(b.Pool, c)
	return uint16(len(b.Pool) - 1)
}

func (b *builder) text(s string) uint16 {
	return b.add(api.Const{Tag: api.Utf8, Text: s})
}

func (b *builder) class(name string) uint16 {
	return b.add(api.Const{Tag: api.ClassRef, A: b.text(name)})
}

// methods: some more, with these flags; unless they are Native, they only return.
func (b *builder) methods(told string, flags uint16) {
	for _, s := range strings.Fields(told) {
		end := strings.IndexByte(s, '(')
		m := api.Method{Flags: flags, Name: b.text(s[:end]), Type: b.text(s[end:])}
		if flags&api.Native == 0 {
			m.HasCode, m.Code = true, api.Code{MaxLocals: 1, Bytes: "\xb1"}
		}
		b.Methods = append(b.Methods, m)
	}
}
