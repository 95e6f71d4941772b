package obj

import (
	"encoding/binary"
	"encoding/hex"
	"math"
	"math/big"
	"reflect"
	"strings"
	"testing"

	"turnout/api"
)

// The chapter's words by other means than the program's: objects are gone through by the names of their parts.

// samples yields numbers without a pattern, always the same ones.
type samples uint64

func newSamples() *samples {
	x := samples(88172645463325252)
	return &x
}

func (x *samples) next() uint64 {
	*x ^= *x << 13
	*x ^= *x >> 7
	*x ^= *x << 17
	return uint64(*x)
}

// below yields a number from 0 to n - 1.
func (x *samples) below(n int) int {
	return int(x.next() >> 33 % uint64(n))
}

func (x *samples) text(n int) string {
	b := make([]byte, n)
	for i := range b {
		b[i] = byte(x.next() >> 32)
	}
	return string(b)
}

// unhex is the string of hexadecimal digits, which may have spaces between them.
func unhex(t *testing.T, digits string) string {
	t.Helper()
	b, err := hex.DecodeString(strings.ReplaceAll(digits, " ", ""))
	if err != nil {
		t.Fatal(err)
	}
	return string(b)
}

// kind is a kind of objects with its calls; an object is passed in a reflect.Value.
type kind struct {
	name string
	of   reflect.Type
	may  func(reflect.Value) bool
	same func(a, b reflect.Value) bool
	put  func(reflect.Value) (string, api.Errno)
	get  func(string) (reflect.Value, api.Errno)
}

func kindOf[T any](may func(T) bool, same func(a, b T) bool, put func(T) (string, api.Errno), get func(string) (T, api.Errno)) kind {
	of := reflect.TypeFor[T]()
	return kind{
		name: of.Name(),
		of:   of,
		may:  func(v reflect.Value) bool { return may(v.Interface().(T)) },
		same: func(a, b reflect.Value) bool { return same(a.Interface().(T), b.Interface().(T)) },
		put:  func(v reflect.Value) (string, api.Errno) { return put(v.Interface().(T)) },
		get: func(s string) (reflect.Value, api.Errno) {
			x, e := get(s)
			return reflect.ValueOf(&x).Elem(), e
		},
	}
}

func kinds() []kind {
	return []kind{
		kindOf(MayNode, SameNode, PutNode, Node),
		kindOf(MayField, SameField, PutField, Field),
		kindOf(MayTable, SameTable, PutTable, Table),
		kindOf(MayEntry, SameEntry, PutEntry, Entry),
		kindOf(MayBlock, SameBlock, PutBlock, Block),
		kindOf(MayGroup, SameGroup, PutGroup, Group),
		kindOf(MayMeter, SameMeter, PutMeter, Meter),
		kindOf(MayRegs, SameRegs, PutRegs, Regs),
	}
}

// rows is the chapter's table: the parts of each object, whose types count from 1 on.
var rows = map[string]string{
	"Node":   "ID Size LenOff LenWidth LenUnit SelOff SelWidth Other Arms",
	"Field":  "ID Base Node Off Width",
	"Table":  "ID Kind Keys Cap Miss",
	"Entry":  "Table Key Other Len Prio Block Args Idle Hard Cookie Tell",
	"Block":  "ID Code",
	"Group":  "ID Kind Field Buckets",
	"Meter":  "ID Rate Burst",
	"Regs":   "ID Size",
	"Arm":    "Value Next",
	"Instr":  "Op To A.Kind A.N B.Kind B.N N",
	"Bucket": "Weight Block",
}

// mostItems is how many items a list may have, by the type of its items.
var mostItems = map[string]int{"Arm": 32, "int": 4, "uint64": 4, "Instr": 32, "Bucket": 16}

// parts are the parts of an object, by their types from 1 on.
func parts(v reflect.Value) []reflect.Value {
	var out []reflect.Value
	for _, path := range strings.Fields(rows[v.Type().Name()]) {
		p := v
		for _, name := range strings.Split(path, ".") {
			p = p.FieldByName(name)
		}
		out = append(out, p)
	}
	return out
}

// leaves are the numbers, texts and truths of which v consists, also those in lists.
func leaves(v reflect.Value) []reflect.Value {
	var out []reflect.Value
	switch v.Kind() {
	case reflect.Struct:
		for _, p := range parts(v) {
			out = append(out, leaves(p)...)
		}
	case reflect.Slice:
		for i := range v.Len() {
			out = append(out, leaves(v.Index(i))...)
		}
	default:
		out = append(out, v)
	}
	return out
}

// listsOf are the lists that are parts of an object.
func listsOf(v reflect.Value) []reflect.Value {
	var out []reflect.Value
	for _, p := range parts(v) {
		if p.Kind() == reflect.Slice {
			out = append(out, p)
		}
	}
	return out
}

// isNumber tells whether v is a number.
func isNumber(v reflect.Value) bool { return v.CanInt() || v.CanUint() }

// greatest is the greatest number that a type allows.
func greatest(of reflect.Type) uint64 {
	switch of.Kind() {
	case reflect.Int:
		return 1<<31 - 1
	case reflect.Int64:
		return 1<<63 - 1
	}
	return 1<<of.Bits() - 1
}

// setNumber sets a number, which its type has to allow.
func setNumber(v reflect.Value, n uint64) {
	if v.CanInt() {
		v.SetInt(int64(n))
	} else {
		v.SetUint(n)
	}
}

// bigBytes are the bytes of a number, by means of the library.
func bigBytes(n uint64) string {
	return string(new(big.Int).SetUint64(n).Bytes())
}

// aboveBytes are the bytes of the number that is one greater.
func aboveBytes(n uint64) string {
	b := new(big.Int).SetUint64(n)
	return string(b.Add(b, big.NewInt(1)).Bytes())
}

// attr is an attribute as bytes, item an item of a list.
func attr(number int, value string) string { return string([]byte{byte(number)}) + item(value) }

func item(value string) string {
	return string(binary.BigEndian.AppendUint16(nil, uint16(len(value)))) + value
}

// odd is a part that is to be encoded as these bytes, whatever it is.
type odd struct {
	at reflect.Value
	as string
}

func (o odd) is(v reflect.Value) bool {
	return o.at.IsValid() && o.at.Type() == v.Type() && o.at.Addr().Pointer() == v.Addr().Pointer()
}

// encoded is the encoding of v, but for the odd part, even if v is not encodable.
func (o odd) encoded(v reflect.Value) string {
	var out strings.Builder
	switch {
	case o.is(v):
		return o.as
	case v.Kind() == reflect.Struct:
		for i, p := range parts(v) {
			if s := o.encoded(p); s != "" {
				out.WriteString(attr(i+1, s))
			}
		}
	case v.Kind() == reflect.Slice:
		for i := range v.Len() {
			out.WriteString(item(o.encoded(v.Index(i))))
		}
	case v.Kind() == reflect.String:
		return v.String()
	case v.Kind() == reflect.Bool && v.Bool():
		return "\x01"
	case v.CanInt():
		return bigBytes(uint64(v.Int()))
	case v.CanUint():
		return bigBytes(v.Uint())
	}
	return out.String()
}

// decoded makes v, which is zero, what s is the encoding of.
func decoded(s string, v reflect.Value) api.Errno {
	switch v.Kind() {
	case reflect.Struct:
		return decodedObject(s, v)
	case reflect.Slice:
		for s != "" {
			n := -1
			if len(s) >= 2 {
				n = int(binary.BigEndian.Uint16([]byte(s)))
			}
			if n < 0 || len(s) < 2+n || v.Len() == mostItems[v.Type().Elem().Name()] {
				return api.ErrForm
			}
			x := reflect.New(v.Type().Elem()).Elem()
			if decoded(s[2:2+n], x) != api.OK {
				return api.ErrForm
			}
			v.Set(reflect.Append(v, x))
			s = s[2+n:]
		}
		return api.OK
	case reflect.String:
		if len(s) > 32 {
			return api.ErrForm
		}
		v.SetString(s)
		return api.OK
	}
	n := new(big.Int).SetBytes([]byte(s))
	most := uint64(1)
	if isNumber(v) {
		most = greatest(v.Type())
	}
	if string(n.Bytes()) != s || n.Cmp(new(big.Int).SetUint64(most)) > 0 {
		return api.ErrForm
	}
	if v.Kind() == reflect.Bool {
		v.SetBool(s == "\x01")
	} else {
		setNumber(v, n.Uint64())
	}
	return api.OK
}

// decodedObject decodes attributes: first all of them are looked for, then each is looked at.
func decodedObject(s string, v reflect.Value) api.Errno {
	values := map[int]string{}
	last := 0
	for s != "" {
		if len(s) < 3 {
			return api.ErrShort
		}
		n := int(binary.BigEndian.Uint16([]byte(s[1:])))
		if int(s[0]) <= last || n == 0 {
			return api.ErrForm
		}
		if len(s) < 3+n {
			return api.ErrShort
		}
		last = int(s[0])
		values[last] = s[3 : 3+n]
		s = s[3+n:]
	}
	for i, p := range parts(v) {
		if decoded(values[i+1], p) != api.OK {
			return api.ErrForm
		}
		delete(values, i+1)
	}
	if len(values) > 0 {
		return api.ErrForm
	}
	return api.OK
}

// equal tells whether a and b are equal in all parts; a list that is nil is one of no items.
func equal(a, b reflect.Value) bool {
	switch a.Kind() {
	case reflect.Struct:
		for i := range a.NumField() {
			if !equal(a.Field(i), b.Field(i)) {
				return false
			}
		}
		return true
	case reflect.Slice:
		if a.Len() != b.Len() {
			return false
		}
		for i := range a.Len() {
			if !equal(a.Index(i), b.Index(i)) {
				return false
			}
		}
		return true
	}
	return a.Equal(b)
}

// zero is an object whose parts are all 0.
func (k kind) zero() reflect.Value { return reflect.New(k.of).Elem() }

// isZero tells whether v is the object whose parts are all 0.
func (k kind) isZero(v reflect.Value) bool { return equal(v, k.zero()) }

// filled is an object whose lists have n items, or as many as they may; no other part is 0.
func (k kind) filled(n int) reflect.Value {
	v := k.zero()
	for _, l := range listsOf(v) {
		m := min(n, mostItems[l.Type().Elem().Name()])
		l.Set(reflect.MakeSlice(l.Type(), m, m))
	}
	for i, leaf := range leaves(v) {
		switch {
		case isNumber(leaf):
			setNumber(leaf, uint64(1+i%100))
		case leaf.Kind() == reflect.Bool:
			leaf.SetBool(true)
		default:
			leaf.SetString("text" + string(rune('a'+i)))
		}
	}
	return v
}

// random is an encodable object; many of its parts are at an edge, or 0.
func (k kind) random(x *samples) reflect.Value {
	v := k.zero()
	for _, l := range listsOf(v) {
		most := mostItems[l.Type().Elem().Name()]
		m := []int{0, 1, 2, most, x.below(most + 1)}[x.below(5)]
		l.Set(reflect.MakeSlice(l.Type(), m, m))
	}
	for _, leaf := range leaves(v) {
		switch {
		case isNumber(leaf):
			most := greatest(leaf.Type())
			setNumber(leaf, []uint64{0, 0, 1, most, most - 1, x.next() & most, x.next() & most >> x.below(60), uint64(x.below(256))}[x.below(8)])
		case leaf.Kind() == reflect.Bool:
			leaf.SetBool(x.below(2) == 1)
		default:
			leaf.SetString(x.text([]int{0, 1, 2, 31, 32}[x.below(5)]))
		}
	}
	return v
}

// wrongNumbers are numbers that are not encodable, though the type has them.
func wrongNumbers(of reflect.Type) []int64 {
	switch of.Kind() {
	case reflect.Int:
		return []int64{-1, -2, math.MinInt32, math.MinInt64, 1 << 31, 1<<31 + 1, 1 << 32, math.MaxInt64}
	case reflect.Int64:
		return []int64{-1, -2, math.MinInt32, math.MinInt64}
	}
	return nil
}
