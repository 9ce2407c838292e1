package vm

import "jvmcore/api"

// stop: why code does not just go on behind an instruction. From arithmetic on: what is thrown.
type stop int

const (
	goesOn  stop = iota
	stays        // where it goes on is told already
	blocked      // the thread cannot go on, and nothing was done
	given        // the thing on the stack is thrown
	arithmetic
	arrayIndex
	arrayStore
	classCast
	illegalMonitor
	illegalThreadState
	negativeSize
	nullPointer
	textIndex
	abstractMethod
	classCircularity
	classChange
	illegalAccess
	inInitializer
	instantiation
	noClass
	noField
	noMethod
	outOfMemory
	stackOverflow
	unsatisfiedLink
	wrongClass
)

const lang = "java/lang/"

// thrown: the names of what is thrown, without java/lang/.
var thrown = [...]string{
	arithmetic:         "ArithmeticException",
	arrayIndex:         "ArrayIndexOutOfBoundsException",
	arrayStore:         "ArrayStoreException",
	classCast:          "ClassCastException",
	illegalMonitor:     "IllegalMonitorStateException",
	illegalThreadState: "IllegalThreadStateException",
	negativeSize:       "NegativeArraySizeException",
	nullPointer:        "NullPointerException",
	textIndex:          "StringIndexOutOfBoundsException",
	abstractMethod:     "AbstractMethodError",
	classCircularity:   "ClassCircularityError",
	classChange:        "IncompatibleClassChangeError",
	illegalAccess:      "IllegalAccessError",
	inInitializer:      "ExceptionInInitializerError",
	instantiation:      "InstantiationError",
	noClass:            "NoClassDefFoundError",
	noField:            "NoSuchFieldError",
	noMethod:           "NoSuchMethodError",
	outOfMemory:        "OutOfMemoryError",
	stackOverflow:      "StackOverflowError",
	unsatisfiedLink:    "UnsatisfiedLinkError",
	wrongClass:         "VerifyError",
}

// class: the name of the class of what is thrown.
func (x stop) class() string { return lang + thrown[x] }

// ofLink: what is thrown where classes do not go together.
func ofLink(e api.Errno) stop {
	switch e {
	case api.OK:
		return goesOn
	case api.ErrNoClass:
		return noClass
	case api.ErrCircle:
		return classCircularity
	case api.ErrChange:
		return classChange
	case api.ErrNoField:
		return noField
	case api.ErrNoMethod:
		return noMethod
	case api.ErrAccess:
		return illegalAccess
	case api.ErrAbstract:
		return abstractMethod
	}
	return wrongClass
}
