package chunk

import (
	"encoding/binary"
	"math"
	"slices"
	"strings"
	"testing"
	"unsafe"

	"turnout/api"
)

// samples yields numbers without a pattern, always the same ones.
type samples uint64

func newSamples() *samples {
	x := samples(88172645463325252)
	return &x
}

func (x *samples) next() uint64 {
	*x ^= *x << 13
	*x ^= *x >> 7
	*x ^= *x << 17
	return uint64(*x)
}

// below yields a number from 0 to n - 1.
func (x *samples) below(n int) int {
	return int(x.next() >> 33 % uint64(n))
}

func (x *samples) text(n int) string {
	b := make([]byte, n)
	for i := range b {
		b[i] = byte(x.next() >> 32)
	}
	return string(b)
}

// lengthOf is the four bytes of a length, by means of the library.
func lengthOf(n uint32) string {
	return string(binary.BigEndian.AppendUint32(nil, n))
}

// framed is the frame of a body, of whatever length.
func framed(body string) string {
	return lengthOf(uint32(len(body))) + body
}

// framesOf are the frames of the bodies, one behind another.
func framesOf(bodies []string) string {
	var parts []string
	for _, b := range bodies {
		parts = append(parts, framed(b))
	}
	return strings.Join(parts, "")
}

// brief is a text for a message: of a long one the beginning, and how many bytes it has.
func brief(s string) (string, int) {
	return s[:min(len(s), 40)], len(s)
}

// whole is what the chapter says of all bytes that have arrived: the bodies, how many bytes wait, and whether the stream is closed.
func whole(s string) (bodies []string, waits int, closed bool) {
	for len(s) >= 4 {
		n := uint64(binary.BigEndian.Uint32([]byte(s)))
		if n < 5 || n > 16384 {
			return bodies, 0, true
		}
		if uint64(len(s)) < 4+n {
			break
		}
		bodies = append(bodies, s[4:4+n])
		s = s[4+n:]
	}
	return bodies, len(s), false
}

// is holds what a stream tells of itself against what it must tell.
func is(t *testing.T, s *Stream, waits int, closed bool) {
	t.Helper()
	if s.Waits() != waits || s.Closed() != closed {
		t.Fatalf("Waits %d, Closed %t, not %d, %t", s.Waits(), s.Closed(), waits, closed)
	}
}

// feeds feeds data and holds the answer against the bodies and the error.
func feeds(t *testing.T, s *Stream, data string, want api.Errno, bodies ...string) {
	t.Helper()
	got, e := s.Feed(data)
	if !slices.Equal(got, bodies) || e != want {
		d, n := brief(data)
		t.Fatalf("Feed of %x (%d bytes): %d bodies, error %d, not %d bodies, error %d", d, n, len(got), e, len(bodies), want)
	}
}

// runs feeds the chunks to s, which has received nothing, and holds each answer against what whole says of the bytes before and behind the chunk.
func runs(t *testing.T, s *Stream, chunks []string) {
	t.Helper()
	all := ""
	var before []string
	shut := false
	for _, c := range chunks {
		all += c
		bodies, waits, closed := whole(all)
		want := api.OK
		switch {
		case shut:
			want = api.ErrClosed
		case closed:
			want = api.ErrLong
		}
		feeds(t, s, c, want, bodies[len(before):]...)
		is(t, s, waits, closed)
		before, shut = bodies, closed
	}
}

// cut is s cut at the places, which ascend.
func cut(s string, places ...int) []string {
	var out []string
	from := 0
	for _, at := range places {
		out = append(out, s[from:at])
		from = at
	}
	return append(out, s[from:])
}

// single are the bytes of s, each a chunk of its own.
func single(s string) []string {
	out := make([]string, len(s))
	for i := range out {
		out[i] = s[i : i+1]
	}
	return out
}

// pieces cuts s into chunks of up to most bytes, some of none.
func pieces(x *samples, s string, most int) []string {
	var out []string
	for s != "" {
		k := min(x.below(most+1), len(s))
		out = append(out, s[:k])
		s = s[k:]
	}
	return append(out, "")
}

// bodyLists are bodies of frames: none, of the fewest and the most bytes, and many of few.
func bodyLists() [][]string {
	x := newSamples()
	out := [][]string{nil, {"hello"}, {"first", "second"}, {"\x00\x00\x00\x00\x00"}, {"\xff\xff\xff\xff\xff", "\x00\x00\x00\x05\x00"}, {framed("hello"), framed(framed("world"))}, {lengthOf(4) + "a"}, {lengthOf(0) + lengthOf(0), "again"}}
	for _, n := range []int{5, 6, 7, 8, 255, 256, 257, 1000, 16383, 16384} {
		out = append(out, []string{x.text(n)}, []string{"before", x.text(n), "behind"})
	}
	out = append(out, []string{x.text(16384), x.text(16384), x.text(5), x.text(16384)})
	for i := range 60 {
		var l []string
		for range i % 6 {
			l = append(l, x.text(5+x.below(12)))
		}
		out = append(out, l)
	}
	return out
}

// wrong are lengths that are invalid.
func wrong() []uint32 {
	out := []uint32{0, 1, 2, 3, 4, api.MaxBody + 1, api.MaxBody + 2, 2 * api.MaxBody, 65535, 65536, 65541, 1 << 24, 1<<24 + 5, 5 << 24, 1<<31 - 1, 1 << 31, 1<<31 + 5, math.MaxUint32 - 5, math.MaxUint32 - 1, math.MaxUint32}
	for bit := range 32 {
		if n := uint32(1) << bit; n > api.MaxBody {
			out = append(out, n, n+5, n+api.MaxBody)
		}
	}
	return out
}

// streams are the bytes of streams: complete ones, those that end within a frame, those with an invalid length, and any bytes.
func streams() []string {
	x := newSamples()
	var out []string
	for _, l := range bodyLists() {
		s := framesOf(l)
		out = append(out, s, s+framed("incomplete")[:1+x.below(12)])
		if len(s) < 1000 {
			bad := wrong()
			out = append(out, s+lengthOf(bad[x.below(len(bad))])+framesOf(l)+"abc")
		}
	}
	for _, n := range wrong() {
		out = append(out, lengthOf(n), lengthOf(n)+"hello", framed("hello")+lengthOf(n)+framed("world"))
	}
	for n := range 40 {
		out = append(out, x.text(n), framed("hello")+x.text(n), "\x00\x00\x00"+x.text(n), "\x00\x00"+x.text(n))
	}
	return out
}

// short are the streams of few bytes.
func short() []string {
	var out []string
	for _, s := range streams() {
		if len(s) < 80 {
			out = append(out, s)
		}
	}
	return out
}

func TestNewP7_1(t *testing.T) {
	s := New()
	if s == nil {
		t.Fatal("New: nil")
	}
	is(t, s, 0, false)
	feeds(t, s, "", api.OK)
	is(t, s, 0, false)
	feeds(t, s, framed("hello"), api.OK, "hello")
	is(t, s, 0, false)
	is(t, New(), 0, false)
}

func TestFeedP7_1(t *testing.T) {
	for _, s := range streams() {
		runs(t, New(), []string{s})
		runs(t, New(), []string{"", s, ""})
		runs(t, New(), []string{s, "more", framed("hello")})
	}
}

func TestExamplesP7_1(t *testing.T) {
	feeds(t, New(), "\x00\x00\x00\x05hello", api.OK, "hello")

	s := New()
	feeds(t, s, "\x00\x00", api.OK)
	is(t, s, 2, false)
	feeds(t, s, "\x00\x05hello", api.OK, "hello")
	is(t, s, 0, false)
	feeds(t, s, "", api.OK)

	s = New()
	feeds(t, s, "\x00\x00\x00\x04", api.ErrLong)
	is(t, s, 0, true)
	feeds(t, s, "anything", api.ErrClosed)
	feeds(t, s, "\x00\x00\x00\x05hello", api.ErrClosed)

	feeds(t, New(), "\x00\x00\x40\x01", api.ErrLong)
	s = New()
	feeds(t, s, "\x00\x00\x40", api.OK)
	is(t, s, 3, false)
	feeds(t, s, "\x01", api.ErrLong)
	is(t, s, 0, true)
}

// Lengths at the edges of those that are valid, alone and with the bytes of their bodies.
func TestLengthsP7_1(t *testing.T) {
	x := newSamples()
	for _, n := range []int{5, 6, 255, 256, 16383, 16384} {
		body := x.text(n)
		s := New()
		feeds(t, s, lengthOf(uint32(n)), api.OK)
		is(t, s, 4, false)
		feeds(t, s, body[:n-1], api.OK)
		is(t, s, n+3, false)
		feeds(t, s, body[n-1:], api.OK, body)
		is(t, s, 0, false)
		feeds(t, New(), framed(body), api.OK, body)
	}
	for _, n := range []int{0, 4, 16385, 16386} {
		feeds(t, New(), framed(x.text(n)), api.ErrLong)
	}
	for n := range uint32(1 << 17) {
		want := api.OK
		if n < 5 || n > 16384 {
			want = api.ErrLong
		}
		s := New()
		feeds(t, s, lengthOf(n), want)
		is(t, s, map[api.Errno]int{api.OK: 4}[want], want != api.OK)
	}
}

func TestZeroP7_1(t *testing.T) {
	var zero Stream
	is(t, &zero, 0, false)
	feeds(t, &zero, "", api.OK)
	feeds(t, &zero, "\x00", api.OK)
	is(t, &zero, 1, false)
	for _, s := range short() {
		runs(t, &Stream{}, []string{s, "more"})
		runs(t, new(Stream), append(single(s), "", "more"))
	}
}

func TestNilP7_1(t *testing.T) {
	var none *Stream
	for _, data := range []string{"", "a", framed("hello"), lengthOf(4)} {
		feeds(t, none, data, api.ErrNil)
		is(t, none, 0, false)
	}
}

// The errors in their order: none but that of nil where there is no stream, ErrLong once, with the bodies before it, then ErrClosed.
func TestErrorsP7_1(t *testing.T) {
	s := New()
	feeds(t, s, framed("first")+framed("second")+lengthOf(4)+framed("third"), api.ErrLong, "first", "second")
	is(t, s, 0, true)
	for _, data := range []string{"", lengthOf(4), framed("third"), lengthOf(api.MaxBody + 1), "a"} {
		feeds(t, s, data, api.ErrClosed)
		is(t, s, 0, true)
	}
	s = New()
	feeds(t, s, framed("first")+"\x00\x00", api.OK, "first")
	feeds(t, s, "\x00\x06second\xff", api.OK, "second")
	is(t, s, 1, false)
	feeds(t, s, "\xff\xff\xff", api.ErrLong)
	feeds(t, s, "", api.ErrClosed)
}

// What has been passed may become something else later: neither a stream nor an answer has any of it.
func TestOwnMemoryP7_1(t *testing.T) {
	within := func(part, s string) bool {
		p, from := uintptr(unsafe.Pointer(unsafe.StringData(part))), uintptr(unsafe.Pointer(unsafe.StringData(s)))
		return from <= p && p < from+uintptr(len(s))
	}
	data := []byte(framed("first") + framed("second") + framed("third")[:6])
	passed := unsafe.String(&data[0], len(data))
	s := New()
	l, e := s.Feed(passed)
	if e != api.OK || len(l) != 2 {
		t.Fatal(l, e)
	}
	if within(l[0], passed) || within(l[1], passed) || within(l[1], l[0]) {
		t.Error("an answer shares memory")
	}
	clear(data)
	if l[0] != "first" || l[1] != "second" {
		t.Errorf("the bodies have become %q", l)
	}
	feeds(t, s, "ird"+framed("fourth"), api.OK, "third", "fourth")
	l[0] = "other"
	feeds(t, s, framed("fifth"), api.OK, "fifth")
}

// Streams have nothing in common.
func TestApartP7_1(t *testing.T) {
	a, b, c := New(), New(), &Stream{}
	feeds(t, a, framed("hello")[:6], api.OK)
	feeds(t, b, framed("world")[:7], api.OK)
	feeds(t, c, lengthOf(4), api.ErrLong)
	is(t, a, 6, false)
	is(t, b, 7, false)
	is(t, c, 0, true)
	feeds(t, a, "llo", api.OK, "hello")
	is(t, b, 7, false)
	feeds(t, b, "ld", api.OK, "world")
}

func TestFrameP7_2(t *testing.T) {
	long := newSamples().text(1 << 17)
	for n := range 1<<14 + 100 {
		testFrame(t, long[:n])
	}
	for _, n := range []int{65535, 65536, 65541, 1 << 17} {
		testFrame(t, long[:n])
	}
	for _, body := range []string{"", "hi", "hell", "hello", "\x00\x00\x00\x00", "\x00\x00\x00\x00\x00", "\xff\xff\xff\xff\xff", strings.Repeat("\x00", api.MaxBody), strings.Repeat("\x00", api.MaxBody+1)} {
		testFrame(t, body)
	}
	if s, e := Frame("hello"); s != "\x00\x00\x00\x05hello" || e != api.OK {
		t.Errorf("Frame of hello: %x, error %d", s, e)
	}
	if s, e := Frame("hi"); s != "" || e != api.ErrShort {
		t.Errorf("Frame of hi: %x, error %d", s, e)
	}
	if s, e := Frame(long[:16384]); s != "\x00\x00\x40\x00"+long[:16384] || e != api.OK {
		t.Errorf("Frame of 16384 bytes: %d bytes, error %d", len(s), e)
	}
}

// testFrame frames a body: the error depends on how many bytes it has.
func testFrame(t *testing.T, body string) {
	t.Helper()
	want, e := framed(body), api.OK
	switch {
	case len(body) <= 4:
		want, e = "", api.ErrShort
	case len(body) >= 16385:
		want, e = "", api.ErrLong
	}
	if got, f := Frame(body); got != want || f != e {
		g, n := brief(got)
		t.Fatalf("Frame of %d bytes: %x (%d bytes), error %d, not error %d", len(body), g, n, f, e)
	}
}

// outcome is what a stream has answered to all chunks, and what it is behind them.
type outcome struct {
	bodies []string
	waits  int
	closed bool
	longs  int // how many times ErrLong was answered
}

func outcomeOf(chunks []string) outcome {
	var o outcome
	s := New()
	for _, c := range chunks {
		l, e := s.Feed(c)
		o.bodies = append(o.bodies, l...)
		if e == api.ErrLong {
			o.longs++
		}
	}
	o.waits, o.closed = s.Waits(), s.Closed()
	return o
}

func sameOutcome(t *testing.T, chunks []string, want outcome) {
	t.Helper()
	o := outcomeOf(chunks)
	if !slices.Equal(o.bodies, want.bodies) || o.waits != want.waits || o.closed != want.closed || o.longs != want.longs {
		s, n := brief(strings.Join(chunks, ""))
		t.Fatalf("%x (%d bytes) in %d chunks: %d bodies, Waits %d, Closed %t, ErrLong %d times, not %d, %d, %t, %d", s, n, len(chunks), len(o.bodies), o.waits, o.closed, o.longs, len(want.bodies), want.waits, want.closed, want.longs)
	}
}

func TestTwoAndThreeChunksP7_3(t *testing.T) {
	for _, s := range short() {
		want := outcomeOf([]string{s})
		for i := range len(s) + 1 {
			runs(t, New(), cut(s, i))
			for j := i; j <= len(s); j++ {
				sameOutcome(t, cut(s, i, j), want)
			}
		}
	}
}

func TestManyChunksP7_3(t *testing.T) {
	x := newSamples()
	for _, s := range streams() {
		want := outcomeOf([]string{s})
		sameOutcome(t, single(s), want)
		for _, most := range []int{1, 2, 3, 4, 5, 7, 16, 100, 5000} {
			chunks := pieces(x, s, most)
			sameOutcome(t, chunks, want)
			if len(s) < 3000 {
				runs(t, New(), chunks)
			}
		}
	}
}

func TestFramesP7_4(t *testing.T) {
	x := newSamples()
	for _, l := range bodyLists() {
		var all []string
		for _, body := range l {
			f, e := Frame(body)
			if e != api.OK {
				t.Fatalf("Frame of %d bytes: error %d", len(body), e)
			}
			all = append(all, f)
		}
		s := New()
		feeds(t, s, strings.Join(all, ""), api.OK, l...)
		is(t, s, 0, false)
		for i, f := range all {
			feeds(t, s, f, api.OK, l[i])
			is(t, s, 0, false)
		}
		sameOutcome(t, pieces(x, strings.Join(all, ""), 1000), outcome{bodies: l})
	}
}

func TestWaitingP7_5(t *testing.T) {
	x := newSamples()
	for _, all := range streams() {
		s := New()
		var bodies []string
		fed := ""
		for _, c := range pieces(x, all, 1+len(all)/20) {
			l, _ := s.Feed(c)
			bodies = append(bodies, l...)
			fed += c
			if s.Closed() {
				break
			}
			testWaiting(t, s, fed, bodies)
		}
	}
	s := New()
	fed := ""
	for range 40000 {
		c := x.text(1)
		if s.Waits() < 4 { // so that lengths are valid
			c = lengthOf(uint32(5 + x.below(30)))[s.Waits() : s.Waits()+1]
		}
		l, _ := s.Feed(c)
		fed += c
		if len(l) == 1 {
			testWaiting(t, s, fed, l)
			fed = ""
		} else {
			testWaiting(t, s, fed, nil)
		}
	}
}

// testWaiting holds what has arrived at an open stream against the bodies' frames and what waits.
func testWaiting(t *testing.T, s *Stream, fed string, bodies []string) {
	t.Helper()
	left, ok := strings.CutPrefix(fed, framesOf(bodies))
	if !ok || len(left) != s.Waits() {
		t.Fatalf("%d bytes: %d bodies, and %d bytes wait", len(fed), len(bodies), s.Waits())
	}
	if len(left) >= 4 && len(left) >= 4+int(binary.BigEndian.Uint32([]byte(left))) {
		t.Fatalf("%d bytes wait: a complete frame", len(left))
	}
}

// An invalid length closes a stream with its fourth byte, not before; whatever arrives then is ignored.
func TestClosedP7_6(t *testing.T) {
	x := newSamples()
	for _, n := range wrong() {
		for _, l := range [][]string{nil, {"hello"}, {"hello", x.text(300)}} {
			before, length := framesOf(l), lengthOf(n)
			for k := range 4 {
				s := New()
				feeds(t, s, before+length[:k], api.OK, l...)
				is(t, s, k, false)
				feeds(t, s, length[k:]+framed("world"), api.ErrLong)
				testStaysClosed(t, x, s)
			}
			s := New()
			feeds(t, s, before+length, api.ErrLong, l...)
			testStaysClosed(t, x, s)
			s = New()
			feeds(t, s, before+length+framed("world"), api.ErrLong, l...)
			testStaysClosed(t, x, s)
		}
	}
}

func testStaysClosed(t *testing.T, x *samples, s *Stream) {
	t.Helper()
	is(t, s, 0, true)
	for _, data := range []string{"", "a", framed("world"), lengthOf(5), "hello", lengthOf(4), x.text(50), x.text(api.MaxBody + 100)} {
		feeds(t, s, data, api.ErrClosed)
		is(t, s, 0, true)
	}
}

func TestIncompleteLengthP7_6(t *testing.T) {
	for _, n := range wrong() {
		s := New()
		for k, c := range single(lengthOf(n)[:3]) {
			feeds(t, s, c, api.OK)
			feeds(t, s, "", api.OK)
			is(t, s, k+1, false)
		}
	}
	for a := range 256 {
		for b := range 256 {
			s := New()
			feeds(t, s, string([]byte{byte(a), byte(b), 0xff}), api.OK)
			is(t, s, 3, false)
		}
	}
}
