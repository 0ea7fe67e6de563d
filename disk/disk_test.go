package disk_test

import (
	"bytes"
	"fmt"
	"math"
	"math/rand"
	"slices"
	"testing"

	"palimpsest/api"
	"palimpsest/disk"
)

// told answers what a failure tells of bytes: not all of them.
func told(b []byte) string {
	const most = 24
	if len(b) > most {
		return fmt.Sprintf("%x... (%d bytes)", b[:most], len(b))
	}
	return fmt.Sprintf("%x", b)
}

// filled answers n bytes, all alike.
func filled(c byte, n int) []byte { return bytes.Repeat([]byte{c}, n) }

// noise answers n bytes without order, the same ones each time.
func noise(n int) []byte {
	b := make([]byte, n)
	rand.New(rand.NewSource(int64(n))).Read(b)
	return b
}

// both is a device, and what it is by the chapter's words.
type both struct {
	*testing.T
	d *disk.Device
	w *words
}

// loaded answers a device of an image.
func loaded(t *testing.T, image []byte, lower int) both {
	t.Helper()
	d, e := disk.Load(image, lower)
	if d == nil || e != api.OK {
		t.Fatalf("Load of %d bytes, %d lower answers %d", len(image), lower, e)
	}
	return both{t, d, &words{image: bytes.Clone(image), lower: lower}}
}

// some answers a device of n sectors without order, lower of them only read.
func some(t *testing.T, n, lower int) both {
	t.Helper()
	return loaded(t, noise(256*n), lower)
}

func (x both) is() { x.Helper(); x.w.is(x.T, x.d) }

func (x both) holds(what string, e, want api.Errno) {
	x.Helper()
	if e != want {
		x.Fatalf("%s answers %d instead of %d", what, e, want)
	}
}

func (x both) write(at int, b []byte) api.Errno {
	x.Helper()
	e := x.d.Write(at, b)
	x.holds(fmt.Sprintf("Write of %d bytes to %d", len(b), at), e, x.w.write(at, b))
	return e
}

// put writes bytes c to a sector.
func (x both) put(at int, c byte) api.Errno { x.Helper(); return x.write(at, filled(c, 256)) }

func (x both) flush() api.Errno {
	x.Helper()
	e := x.d.Flush()
	x.holds("Flush", e, x.w.flush())
	return e
}

func (x both) arm(n int)         { x.d.Arm(n); x.w.arm(n) }
func (x both) crash(keep ...int) { x.d.Crash(keep); x.w.crash(keep) }
func (x both) start()            { x.d.Start(); x.w.start() }

// all holds each of the answers to be OK.
func all(t *testing.T, l ...api.Errno) {
	t.Helper()
	for i, e := range l {
		if e != api.OK {
			t.Fatalf("call %d answers %d", i, e)
		}
	}
}

// refused holds an answer of New or Load to be none.
func refused(t *testing.T, what string, d *disk.Device, e api.Errno) {
	t.Helper()
	if d != nil || e != api.ErrArg {
		t.Errorf("%s answers %v, %d", what, d != nil, e)
	}
}

// P9.1: Load and Size

func TestLoad(t *testing.T) {
	for _, n := range []int{1, 2, 3, 7, 255, 256, 257, 4095, 4096} {
		image := noise(256 * n)
		for _, lower := range []int{0, 1, n / 2, n - 1, n} {
			x := loaded(t, image, lower)
			if sectors, low := x.d.Size(); sectors != n || low != lower {
				t.Fatalf("Size of %d, %d lower answers %d, %d", n, lower, sectors, low)
			}
			for at := range n {
				x.w.isRead(t, x.d, at)
			}
			if !bytes.Equal(x.d.Image(), image) || len(x.d.Cached()) != 0 || x.d.Writes() != 0 {
				t.Fatalf("%d, %d lower: %v, %d", n, lower, x.d.Cached(), x.d.Writes())
			}
		}
	}
}

func TestLoadOfNoImage(t *testing.T) {
	for _, n := range []int{0, 1, 128, 255, 257, 300, 511, 513, 256*4096 - 1, 256*4096 + 1, 256 * 4097, 256 * 8192} {
		image := noise(n)
		for _, lower := range []int{0, 1, n / 256} {
			d, e := disk.Load(image, lower)
			refused(t, fmt.Sprintf("Load of %d bytes, %d lower", n, lower), d, e)
		}
	}
	d, e := disk.Load(nil, 0)
	refused(t, "Load of nothing", d, e)
}

func TestLoadWithTooManyOrTooFewLower(t *testing.T) {
	for _, n := range []int{1, 2, 5, 4096} {
		for _, lower := range []int{n + 1, n + 2, 2*n + 1, 256 * n, 4097, math.MaxInt, -1, -2, -n, math.MinInt} {
			d, e := disk.Load(noise(256*n), lower)
			refused(t, fmt.Sprintf("Load of %d sectors, %d lower", n, lower), d, e)
		}
	}
}

// P9.1: New

func TestNew(t *testing.T) {
	for _, n := range []int{0, 1, 2, 3, 100, 4080} {
		for _, bytesBelow := range []int{0, 1, 2, 128, 255, 256, 257, 511, 512, 513, 1000, 4095, 4096} {
			lower := noise(bytesBelow)
			below := (bytesBelow + 255) / 256
			d, e := disk.New(n, lower)
			if n+below == 0 {
				refused(t, "New of nothing", d, e)
				continue
			}
			if d == nil || e != api.OK {
				t.Fatalf("New of %d, %d bytes answers %d", n, bytesBelow, e)
			}
			image := append(bytes.Clone(lower), make([]byte, 256*(below+n)-bytesBelow)...)
			both{t, d, &words{image: image, lower: below}}.is()
		}
	}
}

func TestNewIsLoadOfWholeSectors(t *testing.T) {
	for _, c := range [][2]int{{1, 0}, {0, 1}, {3, 600}, {4096, 0}, {4095, 1}, {4095, 256}, {4094, 257}, {1, 256 * 4095}, {0, 256 * 4096}, {0, 256*4096 - 255}} {
		lower := noise(c[1])
		below := (c[1] + 255) / 256
		d, e := disk.New(c[0], lower)
		if d == nil || e != api.OK {
			t.Fatalf("New of %d, %d bytes answers %d", c[0], c[1], e)
		}
		image := make([]byte, 256*(below+c[0]))
		copy(image, lower)
		x := loaded(t, image, below)
		if n, low := d.Size(); n != below+c[0] || low != below {
			t.Errorf("New of %d, %d bytes: Size answers %d, %d", c[0], c[1], n, low)
		}
		if !bytes.Equal(d.Image(), x.d.Image()) {
			t.Errorf("New of %d, %d bytes: another image", c[0], c[1])
		}
	}
}

func TestNewOfTooManyOrTooFew(t *testing.T) {
	for _, c := range [][2]int{
		{-1, 0}, {-1, 1}, {-1, 256}, {-1, 512}, {-2, 1024}, {math.MinInt, 0}, {math.MinInt, 256}, {-1, 256 * 4096}, {-1, 256 * 4097},
		{0, 0}, {4097, 0}, {4096, 1}, {4096, 256}, {4095, 257}, {1, 256 * 4096}, {0, 256*4096 + 1}, {0, 256 * 4097}, {1, 256*4095 + 1},
		{math.MaxInt, 0}, {math.MaxInt, 1}, {math.MaxInt, 256 * 4096}, {math.MaxInt/256 + 1, 256}, {1 << 56, 256}, {1<<56 - 1, 256}, {1 << 32, 256},
	} {
		d, e := disk.New(c[0], noise(c[1]))
		refused(t, fmt.Sprintf("New of %d, %d bytes", c[0], c[1]), d, e)
	}
}

func TestANewDeviceHasPower(t *testing.T) {
	d, _ := disk.New(2, noise(300))
	x := both{t, d, &words{image: append(noise(300), make([]byte, 512-300+512)...), lower: 2}}
	all(t, x.put(2, 1), x.put(3, 2), x.flush())
	x.is()
}

// P9.1: what neither gave

// isNone holds all answers of a device that there is not.
func isNone(t *testing.T, d *disk.Device) {
	t.Helper()
	for _, at := range []int{0, 1, -1, math.MaxInt, math.MinInt} {
		if b, e := d.Read(at); len(b) != 0 || e != api.ErrNil {
			t.Errorf("Read answers %s, %d", told(b), e)
		}
		for _, n := range []int{0, 255, 256, 257} {
			if e := d.Write(at, noise(n)); e != api.ErrNil {
				t.Errorf("Write answers %d", e)
			}
		}
	}
	if e := d.Flush(); e != api.ErrNil {
		t.Errorf("Flush answers %d", e)
	}
	n, lower := d.Size()
	if n != 0 || lower != 0 || len(d.Cached()) != 0 || len(d.Image()) != 0 || d.Writes() != 0 {
		t.Errorf("none answers %d, %d, %v, %s, %d", n, lower, d.Cached(), told(d.Image()), d.Writes())
	}
}

func TestWhatNeitherGave(t *testing.T) {
	var zero disk.Device
	for _, d := range []*disk.Device{nil, new(disk.Device), {}, &zero} {
		isNone(t, d)
		for _, change := range []func(){d.Start, func() { d.Arm(0) }, func() { d.Arm(3) }, func() { d.Arm(-1) }, d.Start, func() { d.Crash(nil) }, func() { d.Crash([]int{0, 1, -1, 4096}) }, d.Start} {
			change()
			isNone(t, d)
		}
	}
	if one := new(disk.Device); fmt.Sprint(zero) != fmt.Sprint(*one) {
		t.Error("a zero value is changed")
	}
}

// P9.2: Write and Read

func TestWriteAndRead(t *testing.T) {
	x := some(t, 6, 2)
	all(t, x.put(3, 1), x.put(5, 2), x.put(2, 3))
	x.is()
	if l := x.d.Cached(); !slices.Equal(l, []int{2, 3, 5}) {
		t.Error(l)
	}
	if b, e := x.d.Read(5); e != api.OK || !bytes.Equal(b, filled(2, 256)) {
		t.Error(told(b), e)
	}
	if !bytes.Equal(x.d.Image(), noise(256*6)) {
		t.Error("what is in the cache alone is in the image")
	}
}

func TestWhatTheCacheHadBeforeIsGone(t *testing.T) {
	x := some(t, 4, 1)
	for i := range 10 {
		all(t, x.put(2, byte(i)), x.put(3, byte(100+i)))
		x.is()
	}
	if x.d.Writes() != 20 {
		t.Error(x.d.Writes())
	}
	all(t, x.flush())
	if b := x.d.Image(); !bytes.Equal(b[512:768], filled(9, 256)) || !bytes.Equal(b[768:], filled(109, 256)) {
		t.Error(told(b[512:]))
	}
	x.is()
}

func TestWriteOfWhatTheSectorHas(t *testing.T) {
	x := some(t, 3, 0)
	b, _ := x.d.Read(1)
	all(t, x.write(1, b))
	x.is()
	if l := x.d.Cached(); !slices.Equal(l, []int{1}) {
		t.Error("the cache has not what was written:", l)
	}
}

// Each sector, and each byte of it, stands for itself.
func TestEachSector(t *testing.T) {
	for _, lower := range []int{0, 1, 100} {
		x := some(t, 300, lower)
		for at := 299; at >= lower; at-- {
			all(t, x.write(at, noise(256 + at)[at:]))
		}
		x.is()
		all(t, x.flush())
		x.is()
	}
}

func TestWhyAWriteIsRefused(t *testing.T) {
	for _, lower := range []int{0, 1, 3, 5} {
		x := some(t, 5, lower)
		for _, at := range []int{-1, 0, 1, 2, 3, 4, 5, 6, 4096, -256, math.MaxInt, math.MinInt} {
			for _, n := range []int{0, 1, 255, 257, 512, 1280, 256} {
				want := api.OK
				switch {
				case at < 0 || at > 4:
					want = api.ErrSector
				case at < lower:
					want = api.ErrLower
				case n != 256:
					want = api.ErrArg
				}
				if e := x.write(at, noise(n)); e != want {
					t.Errorf("%d lower: Write of %d bytes to %d answers %d instead of %d", lower, n, at, e, want)
				}
			}
			x.is()
		}
	}
}

func TestNothingGoesWithoutPower(t *testing.T) {
	x := some(t, 5, 2)
	all(t, x.put(3, 1), x.flush(), x.put(4, 2))
	x.crash()
	for _, at := range []int{-1, 0, 1, 2, 3, 4, 5, math.MaxInt, math.MinInt} {
		for _, n := range []int{0, 255, 256, 257} {
			if e := x.write(at, noise(n)); e != api.ErrDead {
				t.Errorf("Write of %d bytes to %d answers %d", n, at, e)
			}
		}
		if b, e := x.d.Read(at); len(b) != 0 || e != api.ErrDead {
			t.Errorf("Read of %d answers %s, %d", at, told(b), e)
		}
	}
	if e := x.flush(); e != api.ErrDead {
		t.Error(e)
	}
	x.is()
	if n, lower := x.d.Size(); n != 5 || lower != 2 || x.d.Writes() != 3 {
		t.Error(n, lower, x.d.Writes())
	}
}

func TestALowerSectorIsNeverChanged(t *testing.T) {
	x := some(t, 4, 2)
	for _, step := range []func(){func() { x.flush() }, func() { x.crash(0, 1, 2, 3) }, x.start, func() { x.flush() }} {
		for at := range 4 {
			x.put(at, 7)
		}
		step()
		if !bytes.Equal(x.d.Image()[:512], noise(1024)[:512]) {
			t.Fatal("a lower sector is another one")
		}
	}
	x.is()
}

// P9.2: Flush and Writes

func TestFlush(t *testing.T) {
	x := some(t, 5, 1)
	all(t, x.flush(), x.put(4, 1), x.put(1, 2))
	before := x.d.Image()
	all(t, x.flush())
	if len(x.d.Cached()) != 0 || x.d.Writes() != 4 {
		t.Error(x.d.Cached(), x.d.Writes())
	}
	want := slices.Concat(before[:256], filled(2, 256), before[512:1024], filled(1, 256))
	if !bytes.Equal(x.d.Image(), want) {
		t.Error(told(x.d.Image()))
	}
	x.is()
	all(t, x.flush(), x.flush())
	x.is()
}

func TestAFlushWritesNothingTwice(t *testing.T) {
	x := some(t, 3, 0)
	all(t, x.put(1, 1), x.flush(), x.put(2, 2))
	x.crash(0, 1)
	x.start()
	all(t, x.flush())
	x.is()
	if b := x.d.Image(); !bytes.Equal(b[256:512], filled(1, 256)) || !bytes.Equal(b[512:], noise(768)[512:]) {
		t.Error(told(b[256:]))
	}
}

func TestWritesAreThoseThatWereOK(t *testing.T) {
	x := some(t, 4, 1)
	wrong := func() {
		x.put(0, 1)
		x.put(4, 1)
		x.put(-1, 1)
		x.write(2, noise(255))
		x.d.Read(2)
		x.d.Read(9)
		x.d.Cached()
		x.d.Image()
		x.d.Size()
	}
	for i := range 5 {
		if wrong(); x.d.Writes() != 2*i {
			t.Fatalf("%d instead of %d", x.d.Writes(), 2*i)
		}
		if all(t, x.put(2, 1)); x.d.Writes() != 2*i+1 {
			t.Fatalf("%d instead of %d", x.d.Writes(), 2*i+1)
		}
		all(t, x.flush())
		x.is()
	}
	x.arm(0)
	x.put(2, 2)
	x.flush()
	x.crash(1, 2)
	x.put(2, 3)
	x.flush()
	x.start()
	if x.d.Writes() != 10 {
		t.Error("what was not done is counted, or what was is not:", x.d.Writes())
	}
	x.is()
}

// P9.3: Arm

// step writes or flushes, every third time the one.
func (x both) step(i int) api.Errno {
	x.Helper()
	if i%3 == 2 {
		return x.flush()
	}
	return x.put(1+i%4, byte(i))
}

func TestArm(t *testing.T) {
	for n := range 12 {
		x := some(t, 5, 1)
		all(t, x.put(1, 200), x.put(2, 201))
		x.arm(n)
		for i := range n {
			all(t, x.step(i))
			x.is()
		}
		cached, image := x.d.Cached(), x.d.Image()
		if e := x.step(n); e != api.ErrDead {
			t.Fatalf("%d behind Arm answers %d", n, e)
		}
		if !slices.Equal(x.d.Cached(), cached) || !bytes.Equal(x.d.Image(), image) || x.d.Writes() != n+2 {
			t.Fatalf("%d behind Arm is done", n)
		}
		if _, e := x.d.Read(0); e != api.ErrDead {
			t.Fatalf("%d behind Arm: there is power", n)
		}
		for i := range 5 {
			if e := x.step(i); e != api.ErrDead {
				t.Fatalf("%d behind Arm, %d answers %d", n, i, e)
			}
		}
		x.is()
	}
}

// What is refused is none of those that Arm counts, nor is a Read.
func TestArmCountsWhatWouldBeOK(t *testing.T) {
	x := some(t, 4, 1)
	wrong := func() {
		for range 4 {
			for _, at := range []int{-1, 0, 4} {
				if e := x.put(at, 1); e == api.OK || e == api.ErrDead {
					t.Fatalf("Write to %d answers %d", at, e)
				}
			}
			if e := x.write(2, noise(257)); e != api.ErrArg {
				t.Fatal(e)
			}
			x.is()
		}
	}
	x.arm(2)
	wrong()
	all(t, x.put(1, 1))
	wrong()
	all(t, x.flush())
	wrong()
	if e := x.put(2, 1); e != api.ErrDead {
		t.Error(e)
	}
	x.is()
}

func TestArmBelowNought(t *testing.T) {
	for _, n := range []int{-1, -2, -3, -256, math.MinInt, math.MinInt + 1} {
		for _, before := range []int{-1, 0, 1, 2, 5, math.MaxInt} {
			x := some(t, 5, 0)
			x.arm(before)
			x.arm(n)
			for i := range 10 {
				all(t, x.step(i))
			}
			x.is()
		}
	}
}

func TestArmFarAhead(t *testing.T) {
	for _, n := range []int{math.MaxInt, math.MaxInt - 1, math.MaxInt32, math.MaxUint32, 1000} {
		x := some(t, 5, 0)
		all(t, x.put(1, 1))
		x.arm(n)
		for i := range 999 {
			all(t, x.step(i))
		}
		x.is()
	}
}

// A later Arm stands in the place of the one before.
func TestArmAnew(t *testing.T) {
	for first := range 5 {
		for passed := range first + 1 {
			for second := range 5 {
				x := some(t, 5, 0)
				x.arm(first)
				for i := range passed {
					all(t, x.step(i))
				}
				x.arm(second)
				for i := range second {
					all(t, x.step(i))
				}
				if e := x.step(second); e != api.ErrDead {
					t.Fatalf("Arm of %d, %d passed, Arm of %d: answers %d", first, passed, second, e)
				}
				x.is()
			}
		}
	}
}

func TestArmGivesNoPower(t *testing.T) {
	for _, n := range []int{-1, 0, 3, math.MaxInt, math.MinInt} {
		x := some(t, 3, 0)
		x.arm(0)
		x.flush()
		x.arm(n)
		if e := x.put(1, 1); e != api.ErrDead {
			t.Errorf("behind Arm of %d without power Write answers %d", n, e)
		}
		x.is()
		x.crash()
		x.arm(n)
		if e := x.flush(); e != api.ErrDead {
			t.Errorf("behind Arm of %d without power Flush answers %d", n, e)
		}
		x.start()
		all(t, x.put(1, 1), x.put(1, 2), x.flush(), x.flush(), x.flush())
		x.is()
	}
}

// P9.3: Crash and Start

func TestExample(t *testing.T) {
	d, e := disk.New(4, nil)
	if e != api.OK {
		t.Fatal(e)
	}
	all(t, d.Write(1, filled(1, 256)), d.Write(2, filled(2, 256)))
	d.Crash([]int{2})
	d.Start()
	one, e := d.Read(1)
	two, f := d.Read(2)
	all(t, e, f)
	if !bytes.Equal(one, make([]byte, 256)) || !bytes.Equal(two, filled(2, 256)) {
		t.Error(told(one), told(two))
	}
}

// Whatever is left of the cache is left whole, and nothing else is changed.
func TestEachThatMayBeLeft(t *testing.T) {
	for set := range 1 << 5 {
		x := some(t, 6, 1)
		all(t, x.put(1, 1), x.put(2, 2), x.put(3, 3), x.flush(), x.put(5, 4), x.put(2, 5), x.put(3, 6), x.put(2, 7))
		before := x.d.Image()
		now := map[int]byte{5: 4, 2: 7, 3: 6}
		var keep []int
		for at := 1; at < 6; at++ {
			if set>>(at-1)&1 == 1 {
				keep = append(keep, at)
			}
		}
		x.crash(keep...)
		if len(x.d.Cached()) != 0 {
			t.Fatalf("Crash of %v: the cache has %v", keep, x.d.Cached())
		}
		for at := range 6 {
			want := before[256*at:][:256]
			if c, ok := now[at]; ok && slices.Contains(keep, at) {
				want = filled(c, 256)
			}
			if b := x.d.Image()[256*at:][:256]; !bytes.Equal(b, want) {
				t.Fatalf("Crash of %v: %d is %s instead of %s", keep, at, told(b), told(want))
			}
		}
		x.is()
		x.start()
		x.is()
	}
}

func TestKeepOfAnything(t *testing.T) {
	for _, keep := range [][]int{
		nil, {}, {-1}, {0}, {0, 1}, {6}, {math.MaxInt, math.MinInt, -256, 4096}, {3, 3, 3}, {5, 2}, {5, 4, 3, 2, 1, 0, -1}, {2, 9, 2, -9, 5, 2}, {258, 261, 5 + 1<<32},
	} {
		x := some(t, 6, 2)
		all(t, x.put(3, 1), x.flush(), x.put(2, 2), x.put(5, 3), x.put(2, 4))
		x.crash(keep...)
		x.is()
		x.start()
		x.is()
		all(t, x.put(4, 5), x.flush())
		x.is()
	}
}

func TestACrashOfNothing(t *testing.T) {
	x := some(t, 3, 1)
	x.crash(0, 1, 2)
	x.is()
	x.crash(0, 1, 2)
	x.start()
	x.is()
	all(t, x.put(1, 1), x.flush())
	x.crash(1)
	x.is()
}

// When Arm takes the power the cache has what it had: it is for Crash to say what is left.
func TestACrashBehindAnArmedWrite(t *testing.T) {
	for _, flush := range []bool{false, true} {
		for _, keep := range [][]int{nil, {1}, {2}, {1, 2}, {3}, {1, 2, 3}} {
			x := some(t, 4, 0)
			all(t, x.put(1, 1), x.put(2, 2))
			x.arm(0)
			e := api.OK
			if flush {
				e = x.flush()
			} else {
				e = x.put(3, 3)
			}
			if e != api.ErrDead || !slices.Equal(x.d.Cached(), []int{1, 2}) {
				t.Fatal(e, x.d.Cached())
			}
			x.is()
			x.crash(keep...)
			x.is()
			x.start()
			x.is()
			all(t, x.put(3, 4), x.flush())
			x.is()
		}
	}
}

// Start gives power alone: without a Crash the cache has what it had.
func TestStartWithoutACrash(t *testing.T) {
	x := some(t, 4, 0)
	all(t, x.put(1, 1))
	x.start()
	x.is()
	x.arm(0)
	x.put(1, 2)
	x.start()
	if !slices.Equal(x.d.Cached(), []int{1}) {
		t.Error(x.d.Cached())
	}
	x.is()
	all(t, x.flush())
	x.is()
}

func TestArmIsForgotten(t *testing.T) {
	for _, n := range []int{0, 1, 2, 5} {
		for passed := range n + 1 {
			x := some(t, 5, 0)
			x.arm(n)
			for i := range passed {
				all(t, x.step(i))
			}
			x.start()
			for i := range 10 {
				all(t, x.step(i))
			}
			x.arm(n)
			x.crash(2)
			x.start()
			for i := range 10 {
				all(t, x.step(i))
			}
			x.is()
		}
	}
}

// P9.4

// sequence does what chance has it do, and answers to which sector it wrote, -1 to none, and whether it flushed.
func (x both) sequence(chance *rand.Rand) (int, bool) {
	x.Helper()
	n := x.w.size()
	switch chance.Intn(12) {
	case 0, 1:
		return -1, x.flush() == api.OK
	case 2:
		x.arm(chance.Intn(12) - 2)
	case 3:
		var keep []int
		for range chance.Intn(n + 3) {
			keep = append(keep, chance.Intn(n+4)-2)
		}
		x.crash(keep...)
	case 4, 5:
		x.start()
	case 6:
		x.write(chance.Intn(n), noise(chance.Intn(600)))
	default:
		at := chance.Intn(n+2) - 1
		if x.write(at, noise(256 + chance.Intn(1000))[:256]) == api.OK {
			return at, false
		}
	}
	return -1, false
}

func TestWhatWasFlushedStays(t *testing.T) {
	for seed := range int64(300) {
		chance := rand.New(rand.NewSource(seed))
		n := 1 + chance.Intn(9)
		x := some(t, n, chance.Intn(n+1))
		safe := x.d.Image()
		again := map[int]bool{}
		for range 150 {
			at, flushed := x.sequence(chance)
			if flushed {
				safe = x.d.Image()
				clear(again)
			} else if at >= 0 {
				again[at] = true
			}
			for i := range n {
				if b := x.d.Image()[256*i:][:256]; !again[i] && !bytes.Equal(b, safe[256*i:][:256]) {
					t.Fatalf("seed %d: sector %d was flushed as %s, and is %s", seed, i, told(safe[256*i:]), told(b))
				}
			}
			x.is()
		}
	}
}

// Rules that hold everywhere

func TestWhatIsHandedInIsNeitherKeptNorChanged(t *testing.T) {
	image := noise(1024)
	x := loaded(t, image, 1)
	if !bytes.Equal(image, noise(1024)) {
		t.Error("Load changes the image")
	}
	clear(image)
	x.is()

	lower := noise(300)
	d, e := disk.New(1, lower)
	if e != api.OK || !bytes.Equal(lower, noise(300)) {
		t.Error("New changes what is lower")
	}
	clear(lower)
	if b := d.Image(); !bytes.Equal(b[:300], noise(300)) {
		t.Error("New keeps what is lower")
	}

	b := noise(256)
	all(t, x.write(2, b))
	if !bytes.Equal(b, noise(256)) {
		t.Error("Write changes the bytes")
	}
	clear(b)
	x.is()
	all(t, x.flush())
	b[0] = 1
	x.is()

	all(t, x.put(3, 1), x.put(1, 2))
	keep := []int{3, 1, 3, 9}
	x.crash(keep...)
	if !slices.Equal(keep, []int{3, 1, 3, 9}) {
		t.Error("Crash changes what is to be left")
	}
	clear(keep)
	x.is()
}

func TestRoomBehindTheEndIsNobodys(t *testing.T) {
	room := filled(7, 2048)
	d, e := disk.New(1, room[:300])
	all(t, e)
	if b := d.Image(); !bytes.Equal(b[300:], make([]byte, 768-300)) {
		t.Error("New fills up with what is behind the end")
	}
	x := loaded(t, room[:512], 0)
	x.is()
	if e := x.write(0, room[:255]); e != api.ErrArg {
		t.Error(e)
	}
	all(t, x.write(0, room[:256]))
	x.crash([]int{0, 1, 0}[:0]...)
	x.is()
	if !bytes.Equal(room, filled(7, 2048)) {
		t.Error("what is behind the end is changed")
	}
}

// spoil overwrites an answer and the room behind it.
func spoil[T any](l []T, with T) {
	l = l[:cap(l)]
	for i := range l {
		l[i] = with
	}
}

func TestAnswersAreNewMemory(t *testing.T) {
	x := some(t, 4, 1)
	all(t, x.put(2, 1), x.put(3, 2))
	for range 3 {
		for at := range 4 {
			b, e := x.d.Read(at)
			all(t, e)
			spoil(b, 99)
			x.is()
		}
		spoil(x.d.Image(), 99)
		x.is()
		spoil(x.d.Cached(), 0)
		x.is()
		a, _ := x.d.Read(3)
		b, _ := x.d.Read(3)
		spoil(a, 98)
		if !bytes.Equal(b, filled(2, 256)) {
			t.Error("two answers share memory")
		}
		all(t, x.flush(), x.put(3, 2))
	}
}

// An answer is as it was, whatever the device does behind it.
func TestAnswersStay(t *testing.T) {
	x := some(t, 3, 0)
	all(t, x.put(1, 1))
	cached, image := x.d.Cached(), x.d.Image()
	fromCache, _ := x.d.Read(1)
	fromSector, _ := x.d.Read(0)
	all(t, x.put(0, 2), x.put(1, 3), x.flush(), x.put(0, 4), x.put(2, 4))
	x.crash(2)
	if !slices.Equal(cached, []int{1}) || !bytes.Equal(image, noise(768)) {
		t.Error(cached, told(image))
	}
	if !bytes.Equal(fromCache, filled(1, 256)) || !bytes.Equal(fromSector, noise(768)[:256]) {
		t.Error(told(fromCache), told(fromSector))
	}
}

func TestDevicesKnowNothingOfOneAnother(t *testing.T) {
	image := noise(1536)
	var l []both
	for range 5 {
		l = append(l, loaded(t, image, 2))
	}
	chance := rand.New(rand.NewSource(1))
	for range 500 {
		l[chance.Intn(len(l)-1)].sequence(chance)
		for _, x := range l {
			x.is()
		}
	}
	untouched := l[len(l)-1].d
	if !bytes.Equal(untouched.Image(), image) || untouched.Writes() != 0 || len(untouched.Cached()) != 0 {
		t.Error("a device is changed that no call was for")
	}
}

func TestTheSameCallsAnswerTheSame(t *testing.T) {
	for seed := range int64(20) {
		a, b := some(t, 6, 1), some(t, 6, 1)
		one, two := rand.New(rand.NewSource(seed)), rand.New(rand.NewSource(seed))
		for range 100 {
			a.sequence(one)
			b.sequence(two)
			if !slices.Equal(a.d.Cached(), b.d.Cached()) || !bytes.Equal(a.d.Image(), b.d.Image()) || a.d.Writes() != b.d.Writes() {
				t.Fatalf("seed %d: the same calls, other answers", seed)
			}
		}
	}
}

// A device of the greatest size, all of it in the cache.
func TestTheGreatestDevice(t *testing.T) {
	d, e := disk.New(4000, noise(256*96))
	all(t, e)
	for at := 4095; at >= 96; at-- {
		all(t, d.Write(at, noise(at + 256)[at:]))
	}
	if l := d.Cached(); len(l) != 4000 || !slices.IsSorted(l) || l[0] != 96 || l[3999] != 4095 {
		t.Error("the cache has not all that was written, rising")
	}
	if !bytes.Equal(d.Image(), append(noise(256*96), make([]byte, 256*4000)...)) {
		t.Error("a sector is changed ahead of the flush")
	}
	all(t, d.Flush())
	b := d.Image()
	for at := 96; at < 4096; at++ {
		if !bytes.Equal(b[256*at:][:256], noise(at + 256)[at:]) {
			t.Fatalf("sector %d is not what was written", at)
		}
	}
	if d.Writes() != 4001 || len(d.Cached()) != 0 {
		t.Error(d.Writes(), len(d.Cached()))
	}
}
