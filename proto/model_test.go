package proto

import (
	"encoding/binary"
	"encoding/hex"
	"math"
	"math/big"
	"reflect"
	"slices"
	"strings"
	"testing"

	"turnout/api"
	"turnout/obj"
)

// The document's words by other means than the program's: messages are gone through by the names of their parts.

// rows is the document's table of messages (S2): the kinds, from 1 on, and what each has.
var rows = strings.Split(strings.TrimSpace(`
Hello
HelloTell N
Echo Data
EchoTell Data
Begin
Done Index N
Commit
Abort
Failed Index Code
Error Code
NodePut Node
NodeDel ID
FieldPut Field
FieldDel ID
TablePut Table
TableDel ID
EntryPut Entry
EntryDel Entry
BlockPut Block
BlockDel ID
GroupPut Group
GroupDel ID
MeterPut Meter
MeterDel ID
RegsPut Regs
RegsDel ID
CounterPut ID
CounterDel ID
CounterGet ID
CounterTell ID N M
RegsGet ID Index N
RegsTell ID Index Words
RegsSet ID Index Words
MeterGet ID
MeterTell ID N
DropsGet
DropsTell Words
PortGet Port
PortTell Port Index N
PacketOut Port Data
PacketIn Port Tag Data
Expired Entry Tag
BoundGet
BoundTell N
TableGet ID
TableTell ID N
`), "\n")

// names are the names of the attributes, by their types from 1 on.
var names = strings.Fields("ID Index Code Port Tag N M Data Words Node Field Table Entry Block Group Meter Regs")

const mostWords = 128

// allKinds are all kinds of messages.
func allKinds() []uint8 {
	var out []uint8
	for i := range rows {
		out = append(out, uint8(i+1))
	}
	return out
}

// nameOf is the name of a kind.
func nameOf(kind uint8) string { return strings.Fields(rows[kind-1])[0] }

// partsOf are the names of what a kind has.
func partsOf(kind uint8) []string {
	if kind == 0 || int(kind) > len(rows) {
		return nil
	}
	return strings.Fields(rows[kind-1])[1:]
}

// typesOf are the types of what a kind has, ascending.
func typesOf(kind uint8) []uint8 {
	var out []uint8
	for _, name := range partsOf(kind) {
		out = append(out, typeOf(name))
	}
	slices.Sort(out)
	return out
}

func typeOf(name string) uint8 { return uint8(slices.Index(names, name) + 1) }

// part is the part of m that has that name.
func part(m *api.Msg, name string) reflect.Value { return reflect.ValueOf(m).Elem().FieldByName(name) }

// coder are the calls of one type of objects; an object is passed in a reflect.Value.
type coder struct {
	put func(reflect.Value) (string, api.Errno)
	get func(string) (reflect.Value, api.Errno)
}

func coderOf[T any](put func(T) (string, api.Errno), get func(string) (T, api.Errno)) coder {
	return coder{
		put: func(v reflect.Value) (string, api.Errno) { return put(v.Interface().(T)) },
		get: func(s string) (reflect.Value, api.Errno) {
			x, e := get(s)
			return reflect.ValueOf(x), e
		},
	}
}

var coders = map[string]coder{
	"Node":  coderOf(obj.PutNode, obj.Node),
	"Field": coderOf(obj.PutField, obj.Field),
	"Table": coderOf(obj.PutTable, obj.Table),
	"Entry": coderOf(obj.PutEntry, obj.Entry),
	"Block": coderOf(obj.PutBlock, obj.Block),
	"Group": coderOf(obj.PutGroup, obj.Group),
	"Meter": coderOf(obj.PutMeter, obj.Meter),
	"Regs":  coderOf(obj.PutRegs, obj.Regs),
}

// bigBytes are the bytes of a number, by means of the library.
func bigBytes(n uint64) string { return string(new(big.Int).SetUint64(n).Bytes()) }

// attr is an attribute as bytes, item an item of a list.
func attr(number uint8, value string) string { return string([]byte{number}) + item(value) }

func item(value string) string {
	return string(binary.BigEndian.AppendUint16(nil, uint16(len(value)))) + value
}

// front is the kind and the number of a message as bytes.
func front(kind uint8, xid uint32) string {
	return string(binary.BigEndian.AppendUint32([]byte{kind}, xid))
}

// valueOf is the value of an attribute: the part is encodable, or one of too many or too great numbers.
func valueOf(t *testing.T, v reflect.Value) string {
	t.Helper()
	switch v.Kind() {
	case reflect.Int:
		return bigBytes(uint64(v.Int()))
	case reflect.Uint64:
		return bigBytes(v.Uint())
	case reflect.String:
		return v.String()
	case reflect.Slice:
		var out strings.Builder
		for i := range v.Len() {
			out.WriteString(item(bigBytes(v.Index(i).Uint())))
		}
		return out.String()
	}
	s, e := coders[v.Type().Name()].put(v)
	if e != api.OK {
		t.Fatalf("%+v: error %d", v, e)
	}
	return s
}

// attrsOf are the attributes of m, each as bytes.
func attrsOf(t *testing.T, m api.Msg) []string {
	t.Helper()
	var out []string
	for _, number := range typesOf(m.Kind) {
		if s := valueOf(t, part(&m, names[number-1])); s != "" {
			out = append(out, attr(number, s))
		}
	}
	return out
}

// bodyOf is the body of m.
func bodyOf(t *testing.T, m api.Msg) string {
	t.Helper()
	return front(m.Kind, m.Xid) + strings.Join(attrsOf(t, m), "")
}

// decoded is the message whose body is given: first all attributes are looked for, then each is looked at.
func decoded(body string) (api.Msg, api.Errno) {
	switch {
	case len(body) < 5:
		return api.Msg{}, api.ErrShort
	case len(body) > 16384:
		return api.Msg{}, api.ErrLong
	case body[0] == 0 || int(body[0]) > len(rows):
		return api.Msg{}, api.ErrKind
	}
	m := api.Msg{Kind: body[0], Xid: binary.BigEndian.Uint32([]byte(body[1:]))}
	values := map[uint8]string{}
	last := uint8(0)
	for s := body[5:]; s != ""; {
		if len(s) < 3 {
			return api.Msg{}, api.ErrShort
		}
		n := int(binary.BigEndian.Uint16([]byte(s[1:])))
		if s[0] <= last || n == 0 {
			return api.Msg{}, api.ErrForm
		}
		if len(s) < 3+n {
			return api.Msg{}, api.ErrShort
		}
		last = s[0]
		values[last] = s[3 : 3+n]
		s = s[3+n:]
	}
	for number, value := range values {
		if !slices.Contains(typesOf(m.Kind), number) || !decodedPart(value, part(&m, names[number-1])) {
			return api.Msg{}, api.ErrForm
		}
	}
	return m, api.OK
}

// decodedPart makes v what s is the encoding of, if it is one.
func decodedPart(s string, v reflect.Value) bool {
	switch v.Kind() {
	case reflect.Int:
		n, ok := decodedNumber(s, math.MaxInt32)
		v.SetInt(int64(n))
		return ok
	case reflect.Uint64:
		n, ok := decodedNumber(s, math.MaxUint64)
		v.SetUint(n)
		return ok
	case reflect.String:
		v.SetString(s)
		return true
	case reflect.Slice:
		for s != "" {
			if len(s) < 2 || len(s) < 2+int(binary.BigEndian.Uint16([]byte(s))) || v.Len() == mostWords {
				return false
			}
			end := 2 + int(binary.BigEndian.Uint16([]byte(s)))
			n, ok := decodedNumber(s[2:end], math.MaxUint64)
			if !ok {
				return false
			}
			v.Set(reflect.Append(v, reflect.ValueOf(n)))
			s = s[end:]
		}
		return true
	}
	x, e := coders[v.Type().Name()].get(s)
	v.Set(x)
	return e == api.OK
}

func decodedNumber(s string, most uint64) (uint64, bool) {
	n := new(big.Int).SetBytes([]byte(s))
	if string(n.Bytes()) != s || n.Cmp(new(big.Int).SetUint64(most)) > 0 {
		return 0, false
	}
	return n.Uint64(), true
}

// equal tells whether a and b are equal in all parts; a list that is nil is one of no items.
func equal(a, b reflect.Value) bool {
	switch a.Kind() {
	case reflect.Struct:
		for i := range a.NumField() {
			if !equal(a.Field(i), b.Field(i)) {
				return false
			}
		}
		return true
	case reflect.Slice:
		if a.Len() != b.Len() {
			return false
		}
		for i := range a.Len() {
			if !equal(a.Index(i), b.Index(i)) {
				return false
			}
		}
		return true
	}
	return a.Equal(b)
}

func equalMsgs(a, b api.Msg) bool { return equal(reflect.ValueOf(a), reflect.ValueOf(b)) }

// leaves are the numbers, texts and truths of which v consists, also those in lists.
func leaves(v reflect.Value) []reflect.Value {
	var out []reflect.Value
	switch v.Kind() {
	case reflect.Struct:
		for i := range v.NumField() {
			out = append(out, leaves(v.Field(i))...)
		}
	case reflect.Slice:
		for i := range v.Len() {
			out = append(out, leaves(v.Index(i))...)
		}
	default:
		out = append(out, v)
	}
	return out
}

// listsOf are the lists within v.
func listsOf(v reflect.Value) []reflect.Value {
	var out []reflect.Value
	switch v.Kind() {
	case reflect.Struct:
		for i := range v.NumField() {
			out = append(out, listsOf(v.Field(i))...)
		}
	case reflect.Slice:
		out = append(out, v)
	}
	return out
}

// setNumber sets a number, which its type has to allow.
func setNumber(v reflect.Value, n uint64) {
	if v.CanInt() {
		v.SetInt(int64(n))
	} else {
		v.SetUint(n)
	}
}

// fill makes everything of which v consists something that is not 0, and gives each list n items.
func fill(v reflect.Value, n int) {
	for _, l := range listsOf(v) {
		l.Set(reflect.MakeSlice(l.Type(), n, n))
	}
	for i, leaf := range leaves(v) {
		switch {
		case leaf.CanInt() || leaf.CanUint():
			setNumber(leaf, uint64(1+i%100))
		case leaf.Kind() == reflect.Bool:
			leaf.SetBool(true)
		default:
			leaf.SetString("text" + string(rune('a'+i%26)))
		}
	}
}

// filled is a message of a kind with all its parts, whose lists have n items.
func filled(kind uint8, n int) api.Msg {
	m := api.Msg{Kind: kind, Xid: 0x01020304}
	for _, name := range partsOf(kind) {
		fill(part(&m, name), n)
	}
	return m
}

// samples yields numbers without a pattern, always the same ones.
type samples uint64

func newSamples() *samples {
	x := samples(88172645463325252)
	return &x
}

func (x *samples) next() uint64 {
	*x ^= *x << 13
	*x ^= *x >> 7
	*x ^= *x << 17
	return uint64(*x)
}

// below yields a number from 0 to n - 1.
func (x *samples) below(n int) int { return int(x.next() >> 33 % uint64(n)) }

func (x *samples) text(n int) string {
	b := make([]byte, n)
	for i := range b {
		b[i] = byte(x.next() >> 32)
	}
	return string(b)
}

// most is how many items the lists within objects have at most, by the type of the items.
var most = map[string]int{"Arm": 32, "int": 4, "uint64": 4, "Instr": 32, "Bucket": 16}

// random makes v something that is encodable; many of its parts are at an edge, or 0.
func (x *samples) random(v reflect.Value) {
	for _, l := range listsOf(v) {
		n := most[l.Type().Elem().Name()]
		if v.Kind() == reflect.Slice {
			n = mostWords
		}
		n = []int{0, 1, 2, n, x.below(n + 1)}[x.below(5)]
		l.Set(reflect.MakeSlice(l.Type(), n, n))
	}
	for _, leaf := range leaves(v) {
		switch leaf.Kind() {
		case reflect.Bool:
			leaf.SetBool(x.below(2) == 1)
		case reflect.String:
			leaf.SetString(x.text([]int{0, 1, 2, 31, 32}[x.below(5)]))
		default:
			top := greatest(leaf.Type())
			setNumber(leaf, []uint64{0, 0, 1, top, top - 1, x.next() & top, x.next() & top >> x.below(60), uint64(x.below(256))}[x.below(8)])
		}
	}
}

// greatest is the greatest number that a type allows.
func greatest(of reflect.Type) uint64 {
	switch of.Kind() {
	case reflect.Int:
		return 1<<31 - 1
	case reflect.Int64:
		return 1<<63 - 1
	}
	return 1<<of.Bits() - 1
}

// randomMsg is an encodable message of a kind, some of whose parts are 0.
func (x *samples) randomMsg(kind uint8) api.Msg {
	m := api.Msg{Kind: kind, Xid: []uint32{0, 1, math.MaxUint32, uint32(x.next())}[x.below(4)]}
	for _, name := range partsOf(kind) {
		switch {
		case x.below(4) == 0:
		case name == "Data":
			m.Data = x.text([]int{0, 1, 100, x.below(300)}[x.below(4)])
		default:
			x.random(part(&m, name))
		}
	}
	return m
}

// unhex is the string of hexadecimal digits, which may have spaces between them.
func unhex(t *testing.T, digits string) string {
	t.Helper()
	b, err := hex.DecodeString(strings.ReplaceAll(digits, " ", ""))
	if err != nil {
		t.Fatal(err)
	}
	return string(b)
}
