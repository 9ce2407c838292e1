package num

import (
	"math/big"
	"math/rand"
	"testing"

	"jvmcore/api"
)

// A plain model of numbers with parts: fractions of whole numbers of any length, rounded by hand.
type format struct{ exponent, fraction int }

var (
	floats  = format{8, 23}
	doubles = format{11, 52}
)

type fraction struct{ top, bottom *big.Int }

type value struct {
	none, endless, negative bool
	size                    fraction // at least 0
}

func (f format) sign() uint64    { return 1 << (f.exponent + f.fraction) }
func (f format) endless() uint64 { return (1<<f.exponent - 1) << f.fraction }
func (f format) none() uint64    { return f.endless() | 1<<(f.fraction-1) }
func (f format) bias() int       { return 1<<(f.exponent-1) - 1 }

func shifted(x int64, by int) *big.Int { return new(big.Int).Lsh(big.NewInt(x), uint(by)) }

// scaled: x times 2 to the power.
func scaled(x fraction, power int) fraction {
	if power < 0 {
		return fraction{x.top, new(big.Int).Lsh(x.bottom, uint(-power))}
	}
	return fraction{new(big.Int).Lsh(x.top, uint(power)), x.bottom}
}

func (f format) read(bits uint64) value {
	bits &= f.sign()<<1 - 1
	v := value{negative: bits&f.sign() != 0}
	bits &^= f.sign()
	rest := int64(bits & (1<<f.fraction - 1))
	switch exponent := int(bits >> f.fraction); {
	case bits > f.endless():
		v.none = true
	case bits == f.endless():
		v.endless = true
	case exponent == 0:
		v.size = scaled(fraction{big.NewInt(rest), big.NewInt(1)}, 1-f.bias()-f.fraction)
	default:
		v.size = scaled(fraction{big.NewInt(rest + 1<<f.fraction), big.NewInt(1)}, exponent-f.bias()-f.fraction)
	}
	return v
}

func (f format) write(v value) uint64 {
	if v.none {
		return f.none()
	}
	bits := f.endless()
	if !v.endless {
		bits = f.rounded(v.size)
	}
	if v.negative {
		bits |= f.sign()
	}
	return bits
}

// rounded: how many of the last bit x is, at its power of two, but not below the lowest one.
func (f format) rounded(x fraction) uint64 {
	if x.top.Sign() == 0 {
		return 0
	}
	power := x.top.BitLen() - x.bottom.BitLen()
	if one := scaled(x, -power); one.top.Cmp(one.bottom) < 0 {
		power--
	}
	power = max(power, 1-f.bias())
	in := scaled(x, f.fraction-power)
	count, rest := new(big.Int).QuoRem(in.top, in.bottom, new(big.Int))
	half := rest.Lsh(rest, 1).Cmp(in.bottom)
	if half > 0 || half == 0 && count.Bit(0) == 1 {
		count.Add(count, big.NewInt(1))
	}
	bits := new(big.Int).Add(count, shifted(int64(power+f.bias()-1), f.fraction))
	if bits.Cmp(new(big.Int).SetUint64(f.endless())) >= 0 {
		return f.endless()
	}
	return bits.Uint64()
}

func (v value) isZero() bool { return !v.none && !v.endless && v.size.top.Sign() == 0 }

// signed: as a fraction with its sign.
func (v value) signed() fraction {
	if v.negative {
		return fraction{new(big.Int).Neg(v.size.top), v.size.bottom}
	}
	return v.size
}

func turned(v value) value {
	v.negative = !v.negative
	return v
}

func added(a, b value) value {
	switch {
	case a.none || b.none || a.endless && b.endless && a.negative != b.negative:
		return value{none: true}
	case a.endless:
		return a
	case b.endless:
		return b
	}
	x, y := a.signed(), b.signed()
	top := new(big.Int).Add(new(big.Int).Mul(x.top, y.bottom), new(big.Int).Mul(y.top, x.bottom))
	negative := top.Sign() < 0 || top.Sign() == 0 && a.negative && b.negative
	return value{negative: negative, size: fraction{top.Abs(top), new(big.Int).Mul(x.bottom, y.bottom)}}
}

func multiplied(a, b value) value {
	negative := a.negative != b.negative
	switch {
	case a.none || b.none || a.endless && b.isZero() || a.isZero() && b.endless:
		return value{none: true}
	case a.endless || b.endless:
		return value{endless: true, negative: negative}
	}
	return value{negative: negative, size: fraction{new(big.Int).Mul(a.size.top, b.size.top), new(big.Int).Mul(a.size.bottom, b.size.bottom)}}
}

func divided(a, b value) value {
	negative := a.negative != b.negative
	switch {
	case a.none || b.none || a.endless && b.endless || a.isZero() && b.isZero():
		return value{none: true}
	case a.endless || b.isZero():
		return value{endless: true, negative: negative}
	case b.endless:
		return value{negative: negative, size: fraction{new(big.Int), big.NewInt(1)}}
	}
	return value{negative: negative, size: fraction{new(big.Int).Mul(a.size.top, b.size.bottom), new(big.Int).Mul(a.size.bottom, b.size.top)}}
}

func leftOf(a, b value) value {
	switch {
	case a.none || b.none || a.endless || b.isZero():
		return value{none: true}
	case b.endless:
		return a
	}
	x, y := new(big.Int).Mul(a.size.top, b.size.bottom), new(big.Int).Mul(b.size.top, a.size.bottom)
	return value{negative: a.negative, size: fraction{x.Rem(x, y), new(big.Int).Mul(a.size.bottom, b.size.bottom)}}
}

func ordered(a, b value, none int32) uint64 {
	if a.none || b.none {
		return n(none)
	}
	if a.endless && b.endless && a.negative == b.negative {
		return 0
	}
	if d := added(a, turned(b)); d.isZero() {
		return 0
	} else if d.negative {
		return n(-1)
	}
	return 1
}

// parted: what 96 to 115 and 149 to 152 give.
func parted(op uint8, a, b uint64) uint64 {
	f := floats
	if op%2 == 1 && op < 116 || op > 150 {
		f = doubles
	}
	x, y := f.read(a), f.read(b)
	switch op {
	case 98, 99:
		return f.write(added(x, y))
	case 102, 103:
		return f.write(added(x, turned(y)))
	case 106, 107:
		return f.write(multiplied(x, y))
	case 110, 111:
		return f.write(divided(x, y))
	case 114, 115:
		return f.write(leftOf(x, y))
	case 149, 151:
		return ordered(x, y, -1)
	}
	return ordered(x, y, 1)
}

// edges: bits at which numbers of a format change their kind, and some between, of both signs.
func (f format) edges() []uint64 {
	one := uint64(f.bias()) << f.fraction
	last := uint64(1) << f.fraction
	list := []uint64{0, 1, 2, 3, 5, last/2 - 1, last / 2, last/2 + 1, last - 2, last - 1, last, last + 1, last + 2, last + 3, 2*last - 1, 2 * last, 2*last + 1, 3*last + 3,
		one - 2*last, one - last - 1, one - last, one - last + 1, one - 1, one, one + 1, one + 2, one + 3, one + last/2, one + last/2 + 1, one + last, one + last + last/2, one + 3*last - 1,
		one - uint64(f.fraction)*last, one - uint64(f.fraction+1)*last, one - uint64(f.fraction+1)*last + 1, one + uint64(f.fraction)*last, one + uint64(f.fraction+1)*last,
		one + 30*last, one + 31*last - 1, one + 31*last, one + 31*last + 1, one + 62*last, one + 63*last - 1, one + 63*last, one + 63*last + 1,
		f.endless() - 2*last, f.endless() - last - 1, f.endless() - last, f.endless() - uint64(f.fraction+2)*last, f.endless() - uint64(f.fraction+2)*last - 1, f.endless() - 2, f.endless() - 1,
		f.endless(), f.endless() + 1, f.endless() + last/2, f.endless() + last/2 + 1, f.sign() - 1}
	for _, x := range list[:len(list):len(list)] {
		list = append(list, x|f.sign())
	}
	return list
}

func opsOfParts(f format) []uint8 {
	if f == floats {
		return []uint8{98, 102, 106, 110, 114, 149, 150}
	}
	return []uint8{99, 103, 107, 111, 115, 151, 152}
}

func holdParted(t *testing.T, op uint8, a, b uint64) {
	t.Helper()
	if x, errno := Two(op, a, b); errno != api.OK || x != parted(op, a, b) {
		t.Fatalf("Two(%d, %x, %x) = %x, %d, want %x", op, a, b, x, errno, parted(op, a, b))
	}
}

func TestEdgesOfParts(t *testing.T) {
	for _, f := range []format{floats, doubles} {
		for _, op := range opsOfParts(f) {
			for _, a := range f.edges() {
				for _, b := range f.edges() {
					holdParted(t, op, a, b)
				}
			}
		}
	}
}

// atTheEnd: bits whose product with those of x, or what x is divided by them, lies about the lowest or the highest numbers.
func atTheEnd(r *rand.Rand, f format, x uint64) uint64 {
	power := int(x&^f.sign()&f.endless()>>f.fraction) - f.bias()
	want := 1 - f.bias() - r.Intn(f.fraction+4) + 2
	if r.Intn(4) == 0 {
		want = f.bias() + r.Intn(3) - 1
	}
	other := want - power
	if r.Intn(2) == 0 {
		other = power - want
	}
	return uint64(min(max(other+f.bias(), 0), 2*f.bias()))<<f.fraction | r.Uint64()>>(64-f.fraction)
}

// near: bits that often lie close to those of x, or do so in what they give: little is left, or much is rounded.
func near(r *rand.Rand, f format, x uint64) uint64 {
	switch r.Intn(6) {
	case 0:
		return r.Uint64()
	case 4:
		return r.Uint64() & (4<<f.fraction - 1)
	case 5:
		return atTheEnd(r, f, x)
	case 1:
		return x ^ r.Uint64()>>(64-r.Intn(f.fraction+1))
	case 2:
		return x + uint64(r.Intn(2*f.fraction+8)-f.fraction-4)<<f.fraction ^ uint64(r.Intn(4))
	}
	list := f.edges()
	return list[r.Intn(len(list))]
}

func TestRandomParts(t *testing.T) {
	r := rand.New(rand.NewSource(8))
	for range 60000 {
		for _, f := range []format{floats, doubles} {
			a := near(r, f, r.Uint64())
			b := near(r, f, a)
			for _, op := range opsOfParts(f) {
				if f == floats || op != 115 || r.Intn(8) == 0 {
					holdParted(t, op, a, b)
				}
			}
		}
	}
}
