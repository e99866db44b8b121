package disk_test

import (
	"math"
	"math/rand"
	"slices"
	"strings"
	"testing"

	"hallmoot/api"
	"hallmoot/disk"
)

func sector(c string) string { return strings.Repeat(c, api.Sector) }

var zero = sector("\x00")

// P22.1
func TestNew(t *testing.T) {
	for _, n := range []int{0, 1, 5, api.MaxSector} {
		d, err := disk.New(n)
		if err != api.OK || len(d.Sectors) != n || len(d.Was) != 0 || !disk.Right(d) {
			t.Error(n, err)
		}
		for _, s := range d.Sectors {
			if s != zero {
				t.Error("not zero")
			}
		}
	}
	for _, n := range []int{-1, api.MaxSector + 1, math.MaxInt, math.MinInt} {
		if d, err := disk.New(n); err != api.ErrArg || !disk.Same(d, api.Disk{}) {
			t.Error(n, err)
		}
	}
}

func TestRightAndSame(t *testing.T) {
	a, b := sector("a"), sector("b")
	good := []api.Disk{{}, {Sectors: []string{a}}, {Sectors: []string{a, b}}, {Sectors: []string{a, b}, Was: []api.Was{{Sector: 1, Bytes: a}}}, {Sectors: []string{a, b}, Was: []api.Was{{Sector: 0, Bytes: a}}},
		{Sectors: []string{a, b}, Was: []api.Was{{Sector: 1, Bytes: b}}}, {Sectors: []string{a, b}, Was: []api.Was{{Sector: 1, Bytes: a}, {Sector: 1, Bytes: a}}}}
	bad := []api.Disk{{Sectors: []string{a[1:]}}, {Sectors: []string{a, a + "x"}}, {Sectors: make([]string, 1)}, {Sectors: slices.Repeat([]string{a}, api.MaxSector+1)}, {Sectors: []string{a}, Was: []api.Was{{Sector: 1, Bytes: a}}}, {Sectors: []string{a}, Was: []api.Was{{Sector: -1, Bytes: a}}},
		{Sectors: []string{a}, Was: []api.Was{{Bytes: a}, {Bytes: a[1:]}}}, {Was: []api.Was{{Bytes: a}}}}
	for i, d := range good {
		if !disk.Right(d) {
			t.Error("good", i)
		}
	}
	for i, d := range bad {
		if disk.Right(d) {
			t.Error("bad", i)
		}
	}
	all := append(good, bad...)
	for i := range all {
		for k := range all {
			if disk.Same(all[i], all[k]) != (i == k) {
				t.Error("Same", i, k)
			}
		}
	}
}

// P22.2
func TestReadWrite(t *testing.T) {
	d, _ := disk.New(2)
	a, b := sector("a"), sector("b")
	one, err := disk.Write(d, 1, a)
	if err != api.OK || !disk.Same(one, api.Disk{Sectors: []string{zero, a}, Was: []api.Was{{Sector: 1, Bytes: zero}}}) {
		t.Error(one, err)
	}
	two, err := disk.Write(one, 1, b)
	if err != api.OK || !disk.Same(two, api.Disk{Sectors: []string{zero, b}, Was: []api.Was{{Sector: 1, Bytes: zero}, {Sector: 1, Bytes: a}}}) {
		t.Error(two, err)
	}
	other, _ := disk.Write(one, 0, b)
	if !disk.Same(other, api.Disk{Sectors: []string{b, a}, Was: []api.Was{{Sector: 1, Bytes: zero}, {Sector: 0, Bytes: zero}}}) || two.Was[1].Sector != 1 || d.Sectors[1] != zero {
		t.Error("devices share memory visibly")
	}
	for at, want := range map[int]string{0: zero, 1: b} {
		if got, err := disk.Read(two, at); err != api.OK || got != want {
			t.Error(at, err)
		}
	}
	for _, at := range []int{-1, 2, math.MaxInt} {
		if got, err := disk.Read(two, at); err != api.ErrAddress || got != "" {
			t.Error(at, err)
		}
		if got, err := disk.Write(two, at, a); err != api.ErrAddress || !disk.Same(got, two) {
			t.Error(at, err)
		}
		if _, err := disk.Write(two, at, "short"); err != api.ErrAddress {
			t.Error(at, err)
		}
	}
	for _, bytes := range []string{"", "short", a + "x"} {
		if got, err := disk.Write(two, 0, bytes); err != api.ErrArg || !disk.Same(got, two) {
			t.Error(bytes, err)
		}
	}
}

// P22.3
func TestSyncAndCrash(t *testing.T) {
	d, _ := disk.New(2)
	d, _ = disk.Write(d, 0, sector("a"))
	if got := disk.Sync(d); !disk.Same(got, api.Disk{Sectors: d.Sectors}) {
		t.Error(got)
	}
	mixed := func(parts ...any) string {
		out := ""
		for i := 0; i < len(parts); i += 2 {
			out += strings.Repeat(parts[i].(string), parts[i+1].(int))
		}
		return out
	}
	for _, x := range []struct {
		cuts []int
		want string
	}{{nil, sector("a")}, {[]int{2}, mixed("a", 2, "\x00", 30)}, {[]int{0}, zero}, {[]int{32}, sector("a")}, {[]int{33}, zero}, {[]int{35}, mixed("a", 2, "\x00", 30)}, {[]int{-1}, sector("a")}, {[]int{-31}, mixed("a", 2, "\x00", 30)}, {[]int{5, 6, 7}, mixed("a", 5, "\x00", 27)}} {
		if got := disk.Crash(d, x.cuts); !disk.Same(got, api.Disk{Sectors: []string{x.want, zero}}) {
			t.Error(x.cuts, got)
		}
	}
	d = disk.Sync(d)
	d, _ = disk.Write(d, 0, sector("b"))
	d, _ = disk.Write(d, 1, sector("c"))
	d, _ = disk.Write(d, 0, sector("d"))
	for _, x := range []struct {
		cuts []int
		want []string
	}{
		{nil, []string{sector("d"), sector("c")}}, {[]int{0, 0, 0}, []string{sector("a"), zero}}, {[]int{4, 5, 2}, []string{mixed("d", 2, "b", 2, "a", 28), mixed("c", 5, "\x00", 27)}},
		{[]int{2, 5, 4}, []string{mixed("d", 4, "a", 28), mixed("c", 5, "\x00", 27)}}, {[]int{9}, []string{sector("d"), sector("c")}}, {[]int{9, 3}, []string{sector("d"), mixed("c", 3, "\x00", 29)}},
	} {
		if got := disk.Crash(d, x.cuts); !disk.Same(got, api.Disk{Sectors: x.want}) {
			t.Error(x.cuts, got)
		}
	}
	if len(d.Was) != 3 {
		t.Error("the argument was modified")
	}
}

// P22.4
func TestConsequences(t *testing.T) {
	r := rand.New(rand.NewSource(1))
	for range 500 {
		d, _ := disk.New(4)
		synced := d
		var written [4][]string
		for range r.Intn(15) {
			at := r.Intn(3)
			b := sector(string(rune('a' + r.Intn(26))))
			d, _ = disk.Write(d, at, b)
			written[at] = append(written[at], b)
			if r.Intn(5) == 0 {
				d = disk.Sync(d)
				synced, written = d, [4][]string{}
			}
			if !disk.Right(d) {
				t.Fatal("not valid")
			}
		}
		var cuts []int
		for range r.Intn(15) {
			cuts = append(cuts, r.Intn(200)-100)
		}
		crashed := disk.Crash(d, cuts)
		for k, s := range crashed.Sectors {
			if len(written[k]) == 0 && s != synced.Sectors[k] {
				t.Fatal("synced contents are lost")
			}
			for i := range s {
				found := s[i] == synced.Sectors[k][i]
				for _, w := range written[k] {
					found = found || s[i] == w[i]
				}
				if !found {
					t.Fatal("a byte of no write")
				}
			}
		}
		if !disk.Same(disk.Crash(d, nil), disk.Sync(d)) || !disk.Same(disk.Crash(crashed, cuts), crashed) {
			t.Fatal("a crash without cuts, or a second crash")
		}
	}
}
