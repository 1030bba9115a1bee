package disk_test

import (
	"math"
	"math/rand"
	"slices"
	"strings"
	"testing"

	"hindsight/api"
	"hindsight/disk"
)

// sector of one byte, all over.
func sector(b byte) string { return strings.Repeat(string([]byte{b}), api.SectorSize) }

// sectors of these bytes.
func sectors(bytes ...byte) []string {
	var l []string
	for _, b := range bytes {
		l = append(l, sector(b))
	}
	return l
}

func written(n int, b byte) api.Written { return api.Written{Sector: n, Bytes: sector(b)} }

// example: of its four sectors one was written once, one twice, with another one between.
func example() api.Disk {
	return api.Disk{Kept: sectors(10, 11, 12, 13), Written: []api.Written{written(1, 1), written(3, 2), written(1, 3)}}
}

func expectDisk(t *testing.T, what string, d api.Disk, e api.Errno, kept []string, l ...api.Written) {
	t.Helper()
	if e != api.OK || !slices.Equal(d.Kept, kept) || !slices.Equal(d.Written, l) {
		t.Errorf("%s: %#v %d, not %q %#v", what, d, e, kept, l)
	}
}

// expectErrors: what a disk is, as all calls tell it.
func expectErrors(t *testing.T, what string, d api.Disk, why api.Errno) {
	t.Helper()
	if e := disk.Check(d); e != why {
		t.Errorf("Check of %s: %d, not %d", what, e, why)
	}
	if why == api.OK {
		return
	}
	for _, n := range []int{-1, 0, math.MaxInt} {
		if s, e := disk.Read(d, n); s != "" || e != why {
			t.Errorf("Read of %s: %q %d, not %d", what, s, e, why)
		}
		for _, s := range []string{"", sector(1)} {
			x, e := disk.Write(d, n, s)
			expectNone(t, "Write of "+what, x, e, why)
		}
	}
	x, e := disk.Flush(d)
	expectNone(t, "Flush of "+what, x, e, why)
	x, e = disk.Crash(d, []bool{true})
	expectNone(t, "Crash of "+what, x, e, why)
}

func expectNone(t *testing.T, what string, d api.Disk, e, why api.Errno) {
	t.Helper()
	if e != why || len(d.Kept)+len(d.Written) > 0 {
		t.Errorf("%s: %#v %d, not %d", what, d, e, why)
	}
}

func TestH1New(t *testing.T) {
	for _, n := range []int{1, 2, 17, api.MaxSectors} {
		d, e := disk.New(n)
		expectDisk(t, "New", d, e, slices.Repeat(sectors(0), n))
		expectErrors(t, "a new disk", d, api.OK)
	}
	for _, n := range []int{0, -1, math.MinInt, api.MaxSectors + 1, math.MaxInt} {
		d, e := disk.New(n)
		expectNone(t, "New", d, e, api.ErrRange)
	}
}

func TestH1Check(t *testing.T) {
	all := slices.Repeat(sectors(4), api.MaxSectors)
	full := slices.Repeat([]api.Written{written(api.MaxSectors-1, 5)}, api.MaxSectors)
	for _, row := range []struct {
		what string
		d    api.Disk
		why  api.Errno
	}{
		{"one with nothing written", api.Disk{Kept: sectors(0)}, api.OK},
		{"one with something written", example(), api.OK},
		{"the greatest one", api.Disk{Kept: all, Written: full}, api.OK},
		{"none", api.Disk{}, api.ErrRange},
		{"none, written", api.Disk{Written: make([]api.Written, api.MaxSectors+1)}, api.ErrRange},
		{"too many sectors", api.Disk{Kept: append(slices.Clone(all), sector(4))}, api.ErrRange},
		{"too many sectors of no form", api.Disk{Kept: make([]string, api.MaxSectors+1)}, api.ErrRange},
		{"a short sector", api.Disk{Kept: []string{sector(1), sector(2)[1:]}}, api.ErrForm},
		{"a long sector", api.Disk{Kept: []string{sector(1) + "x", sector(2)}}, api.ErrForm},
		{"an empty sector", api.Disk{Kept: []string{""}, Written: make([]api.Written, api.MaxSectors+1)}, api.ErrForm},
		{"too many written", api.Disk{Kept: all, Written: append(slices.Clone(full), full[0])}, api.ErrMany},
		{"too many written, of no form", api.Disk{Kept: all, Written: make([]api.Written, api.MaxSectors+1)}, api.ErrMany},
		{"too many written, to none", api.Disk{Kept: sectors(1), Written: append(slices.Clone(full), full[0])}, api.ErrMany},
		{"one written behind the last sector", api.Disk{Kept: sectors(1, 2), Written: []api.Written{written(1, 1), written(2, 1)}}, api.ErrNone},
		{"one written ahead of the first sector", api.Disk{Kept: sectors(1, 2), Written: []api.Written{written(-1, 1)}}, api.ErrNone},
		{"short bytes written to none", api.Disk{Kept: sectors(1, 2), Written: []api.Written{{Sector: math.MaxInt, Bytes: "x"}}}, api.ErrNone},
		{"short bytes written", api.Disk{Kept: sectors(1, 2), Written: []api.Written{written(0, 1), {Sector: 1, Bytes: sector(1)[1:]}}}, api.ErrForm},
		{"long bytes written", api.Disk{Kept: sectors(1, 2), Written: []api.Written{{Sector: 1, Bytes: sector(1) + "x"}}}, api.ErrForm},
		{"short bytes written, then one to none", api.Disk{Kept: sectors(1, 2), Written: []api.Written{{Sector: 1}, written(2, 1)}}, api.ErrForm},
		{"one written to none, then short bytes", api.Disk{Kept: sectors(1, 2), Written: []api.Written{written(2, 1), {Sector: 1}}}, api.ErrNone},
	} {
		expectErrors(t, row.what, row.d, row.why)
	}
}

func TestH2Read(t *testing.T) {
	for n, b := range []byte{10, 3, 12, 2} {
		if s, e := disk.Read(example(), n); s != sector(b) || e != api.OK {
			t.Errorf("Read %d: %q %d, not %d", n, s, e, b)
		}
	}
	for _, n := range []int{-1, math.MinInt, 4, math.MaxInt} {
		if s, e := disk.Read(example(), n); s != "" || e != api.ErrNone {
			t.Errorf("Read %d: %q %d", n, s, e)
		}
	}
}

func TestH2Write(t *testing.T) {
	d := example()
	for i, w := range []api.Written{written(0, 7), written(3, 8), written(0, 7), written(3, 9)} {
		x, e := disk.Write(d, w.Sector, w.Bytes)
		expectDisk(t, "Write", x, e, sectors(10, 11, 12, 13), append(slices.Clone(d.Written), w)...)
		if len(d.Written) != i+3 {
			t.Errorf("%d were written", len(d.Written))
		}
		d = x
	}
	for _, row := range []struct {
		sector int
		bytes  string
		why    api.Errno
	}{
		{-1, sector(1), api.ErrNone}, {4, sector(1), api.ErrNone}, {math.MaxInt, "", api.ErrNone}, {-1, sector(1) + "x", api.ErrNone},
		{0, "", api.ErrForm}, {3, sector(1)[1:], api.ErrForm}, {3, sector(1) + "x", api.ErrForm},
	} {
		x, e := disk.Write(d, row.sector, row.bytes)
		expectNone(t, "Write", x, e, row.why)
	}
}

// TestH2Full: MaxSectors may be written; what is wrong with one more is told ahead of that it is one more.
func TestH2Full(t *testing.T) {
	d, _ := disk.New(2)
	for i := range api.MaxSectors {
		x, e := disk.Write(d, i%2, sector(byte(i)))
		if e != api.OK || len(x.Written) != i+1 {
			t.Fatalf("Write %d: %d written, %d", i, len(x.Written), e)
		}
		d = x
	}
	for _, row := range []struct {
		sector int
		bytes  string
		why    api.Errno
	}{
		{2, "", api.ErrNone}, {2, sector(1), api.ErrNone}, {1, "x", api.ErrForm}, {1, sector(1), api.ErrMany},
	} {
		x, e := disk.Write(d, row.sector, row.bytes)
		expectNone(t, "Write", x, e, row.why)
	}
	const last = api.MaxSectors - 1
	d, e := disk.Flush(d)
	expectDisk(t, "Flush", d, e, sectors(byte((last-1)%256), byte(last%256)))
	d, e = disk.Write(d, 0, sector(1))
	expectDisk(t, "Write", d, e, sectors(byte((last-1)%256), byte(last%256)), written(0, 1))
}

func TestH2Flush(t *testing.T) {
	d, e := disk.Flush(example())
	expectDisk(t, "Flush", d, e, sectors(10, 3, 12, 2))
	d, e = disk.Flush(d)
	expectDisk(t, "Flush", d, e, sectors(10, 3, 12, 2))
}

func TestH2Crash(t *testing.T) {
	for _, row := range []struct {
		keep []bool
		kept []string
	}{
		{nil, sectors(10, 11, 12, 13)},
		{[]bool{}, sectors(10, 11, 12, 13)},
		{[]bool{false, false, false}, sectors(10, 11, 12, 13)},
		{[]bool{true}, sectors(10, 1, 12, 13)},
		{[]bool{true, false, true}, sectors(10, 3, 12, 13)},
		{[]bool{true, true}, sectors(10, 1, 12, 2)},
		{[]bool{false, true}, sectors(10, 11, 12, 2)},
		{[]bool{false, false, true}, sectors(10, 3, 12, 13)},
		{[]bool{true, true, true}, sectors(10, 3, 12, 2)},
		{[]bool{false, true, false, true, true, true}, sectors(10, 11, 12, 2)},
	} {
		d, e := disk.Crash(example(), row.keep)
		expectDisk(t, "Crash", d, e, row.kept)
	}
	d, e := disk.Crash(api.Disk{Kept: sectors(1, 2)}, []bool{true, true})
	expectDisk(t, "Crash", d, e, sectors(1, 2))
}

// model of a disk: what is kept of each sector, and what could be read.
type model struct {
	kept, now []byte
	since     []api.Written
}

func (m *model) keep(is func(i int) bool) {
	for i, w := range m.since {
		if is(i) {
			m.kept[w.Sector] = w.Bytes[0]
		}
	}
	m.now, m.since = slices.Clone(m.kept), nil
}

// TestH3: whatever is done to a disk, what was flushed stays, and what is read is what was written last.
func TestH3(t *testing.T) {
	r := rand.New(rand.NewSource(1))
	for range 200 {
		n := 1 + r.Intn(5)
		d, _ := disk.New(n)
		m := model{kept: make([]byte, n), now: make([]byte, n)}
		for range 40 {
			var e api.Errno
			switch r.Intn(8) {
			case 0:
				d, e = disk.Flush(d)
				m.keep(func(int) bool { return true })
			case 1:
				keep := make([]bool, r.Intn(len(m.since)+3))
				for i := range keep {
					keep[i] = r.Intn(2) == 0
				}
				d, e = disk.Crash(d, keep)
				m.keep(func(i int) bool { return i < len(keep) && keep[i] })
			default:
				w := written(r.Intn(n), byte(r.Intn(256)))
				d, e = disk.Write(d, w.Sector, w.Bytes)
				m.since = append(m.since, w)
				m.now[w.Sector] = w.Bytes[0]
			}
			expectDisk(t, "what was done", d, e, sectors(m.kept...), m.since...)
			for i, b := range m.now {
				if s, e := disk.Read(d, i); s != sector(b) || e != api.OK {
					t.Fatalf("Read %d of %#v: %q %d, not %d", i, d, s, e, b)
				}
			}
		}
	}
}

// TestH3Whole: bytes of all kinds are kept as they are.
func TestH3Whole(t *testing.T) {
	d, _ := disk.New(256 / api.SectorSize)
	all := ""
	for b := range 256 {
		all += string([]byte{byte(b)})
	}
	for i := range d.Kept {
		d, _ = disk.Write(d, i, all[i*api.SectorSize:(i+1)*api.SectorSize])
	}
	flushed, _ := disk.Flush(d)
	if s := strings.Join(flushed.Kept, ""); s != all {
		t.Errorf("%q", s)
	}
}
