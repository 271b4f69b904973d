package access_test

import (
	"bytes"
	"encoding/binary"
	"math"
	"testing"

	"septum/access"
	"septum/api"
)

// meantRecord is what the chapter says of the record of a right access, put part by part.
func meantRecord(a api.Access) []byte {
	flags := map[int]byte{1: 0, 2: 2, 4: 4}[a.Size]
	if a.Write {
		flags++
	}
	b := []byte{byte(a.World), flags, 0, 0}
	b = binary.LittleEndian.AppendUint32(b, a.Addr)
	return binary.LittleEndian.AppendUint32(b, a.Data)
}

// meantAccess is the right access whose record b is, by what may stand in each byte.
func meantAccess(b []byte) (api.Access, api.Errno) {
	if len(b) > 12 {
		return api.Access{}, api.ErrLong
	}
	if len(b) < 12 || b[0] > 7 || b[1] > 5 || b[2] != 0 || b[3] != 0 {
		return api.Access{}, api.ErrShape
	}
	a := api.Access{World: int(b[0]), Write: b[1]%2 == 1, Size: []int{1, 2, 4}[b[1]/2], Addr: binary.LittleEndian.Uint32(b[4:]), Data: binary.LittleEndian.Uint32(b[8:])}
	if !meantRight(a) {
		return api.Access{}, api.ErrShape
	}
	return a, api.OK
}

func checkDecode(t *testing.T, b []byte) {
	t.Helper()
	was := bytes.Clone(b)
	want, wantErr := meantAccess(b)
	got, err := access.Decode(b)
	if got != want || err != wantErr {
		t.Errorf("Decode(% x) is %+v, %d, not %+v, %d", was, got, err, want, wantErr)
	}
	if !bytes.Equal(b, was) { // R3
		t.Errorf("Decode(% x) changed it to % x", was, b)
	}
}

// records are right ones, each with another flag, the ends of what may be among them.
func records() [][]byte {
	return [][]byte{
		{3, 3, 0, 0, 0, 1, 0, 0, 0x34, 0x12, 0, 0},
		{0, 0, 0, 0, 0, 0, 0, 0, 0, 0, 0, 0},
		{7, 1, 0, 0, 0xff, 0xff, 0xff, 0xff, 0xff, 0, 0, 0},
		{7, 2, 0, 0, 0xfe, 0xff, 0xff, 0xff, 0, 0, 0, 0},
		{1, 4, 0, 0, 0x78, 0x56, 0x34, 0x12, 0, 0, 0, 0},
		{6, 5, 0, 0, 0xfc, 0xff, 0xff, 0xff, 0xff, 0xff, 0xff, 0xff},
	}
}

func TestEncode(t *testing.T) { // P4.2
	for _, c := range []struct {
		a    api.Access
		want []byte
	}{
		{write(3, 0x100, 2, 0x1234), records()[0]},
		{read(0, 0, 1), records()[1]},
		{write(7, last, 1, 0xff), records()[2]},
		{read(7, last-1, 2), records()[3]},
		{read(1, 0x12345678, 4), records()[4]},
		{write(6, last-3, 4, last), records()[5]},
		{write(0, 0x89abcdef, 1, 0), []byte{0, 1, 0, 0, 0xef, 0xcd, 0xab, 0x89, 0, 0, 0, 0}},
		{write(2, 0x01020304, 4, 0x05060708), []byte{2, 5, 0, 0, 4, 3, 2, 1, 8, 7, 6, 5}},
	} {
		if got, err := access.Encode(c.a); !bytes.Equal(got, c.want) || err != api.OK {
			t.Errorf("Encode(%+v) is % x, %d, not % x", c.a, got, err, c.want)
		}
		if got, err := access.Decode(c.want); got != c.a || err != api.OK {
			t.Errorf("Decode(% x) is %+v, %d, not %+v", c.want, got, err, c.a)
		}
	}
}

func TestEncodeNone(t *testing.T) { // P4.2: nothing beside the error, where but one thing is wrong
	l := []api.Access{{}, {World: 1, Addr: 16, Size: 4, Data: 1}, {World: 1, Addr: 16, Size: 1, Data: 1}, read(1, 18, 4), write(1, 17, 2, 3), write(1, last, 2, 3), write(1, 16, 1, 0x100), write(1, 16, 2, 0x10000), write(1, 16, 2, last)}
	for _, world := range noWorlds {
		l = append(l, read(world, 16, 4), write(world, 16, 1, 3))
	}
	for _, size := range noSizes {
		l = append(l, read(1, 0, size), write(1, 1<<31, size, 0))
	}
	for _, a := range l {
		if got, err := access.Encode(a); len(got) != 0 || err != api.ErrArg {
			t.Errorf("Encode(%+v) is % x, %d", a, got, err)
		}
	}
}

func TestDecodeLengths(t *testing.T) { // P4.2
	if got, err := access.Decode(nil); got != (api.Access{}) || err != api.ErrShape {
		t.Errorf("Decode(nil) is %+v, %d", got, err)
	}
	for _, b := range records() {
		for n := range len(b) {
			for _, short := range [][]byte{b[:n], b[:n:n], b[12-n:]} {
				if got, err := access.Decode(short); got != (api.Access{}) || err != api.ErrShape {
					t.Errorf("Decode(% x) is %+v, %d", short, got, err)
				}
			}
		}
		for _, n := range []int{1, 2, 12, 244, 1 << 16} {
			for _, filler := range []byte{0, 0xff} {
				long := append(bytes.Clone(b), bytes.Repeat([]byte{filler}, n)...)
				if got, err := access.Decode(long); got != (api.Access{}) || err != api.ErrLong {
					t.Errorf("Decode of % x and %d more is %+v, %d", b, n, got, err)
				}
			}
		}
	}
	wrong := bytes.Repeat([]byte{0xff}, 13)
	if got, err := access.Decode(wrong); got != (api.Access{}) || err != api.ErrLong { // ErrLong ahead of ErrShape
		t.Errorf("Decode(% x) is %+v, %d", wrong, got, err)
	}
}

func TestDecodeHangsOnBytesAlone(t *testing.T) { // P4.2: neither on what lies behind them nor on their room
	for _, b := range records() {
		long := append(bytes.Clone(b), 1, 2, 3)
		for _, part := range [][]byte{long[:0], long[:11], long[:12], long[:12:12], long[:13], long[1:13], long[3:]} {
			checkDecode(t, part)
		}
	}
}

func TestDecodeEachByte(t *testing.T) { // P4.2: each byte, at each place of a right record
	for _, b := range records() {
		for at := range b {
			was := b[at]
			for c := range 256 {
				b[at] = byte(c)
				checkDecode(t, b)
			}
			b[at] = was
		}
	}
}

func TestDecodeNone(t *testing.T) { // P4.2: what no right access has
	for _, b := range [][]byte{
		{8, 0, 0, 0, 0, 0, 0, 0, 0, 0, 0, 0}, {0xff, 0, 0, 0, 0, 0, 0, 0, 0, 0, 0, 0}, {0, 6, 0, 0, 0, 0, 0, 0, 0, 0, 0, 0}, {0, 7, 0, 0, 0, 0, 0, 0, 0, 0, 0, 0}, {0, 8, 0, 0, 0, 0, 0, 0, 0, 0, 0, 0}, {0, 0x81, 0, 0, 0, 0, 0, 0, 0, 0, 0, 0},
		{0, 0, 1, 0, 0, 0, 0, 0, 0, 0, 0, 0}, {0, 0, 0, 1, 0, 0, 0, 0, 0, 0, 0, 0}, {0, 0, 0x80, 0, 0, 0, 0, 0, 0, 0, 0, 0}, {0, 0, 0, 0xff, 0, 0, 0, 0, 0, 0, 0, 0},
		{0, 2, 0, 0, 1, 0, 0, 0, 0, 0, 0, 0}, {0, 4, 0, 0, 2, 0, 0, 0, 0, 0, 0, 0}, {0, 3, 0, 0, 0xff, 0xff, 0xff, 0xff, 0, 0, 0, 0}, {0, 5, 0, 0, 0xfe, 0xff, 0xff, 0xff, 0, 0, 0, 0},
		{0, 0, 0, 0, 0, 0, 0, 0, 1, 0, 0, 0}, {0, 2, 0, 0, 0, 0, 0, 0, 0, 1, 0, 0}, {0, 4, 0, 0, 0, 0, 0, 0, 0, 0, 0, 0x80},
		{0, 1, 0, 0, 0, 0, 0, 0, 0, 1, 0, 0}, {0, 1, 0, 0, 0, 0, 0, 0, 0, 0, 0, 1}, {0, 3, 0, 0, 0, 0, 0, 0, 0, 0, 1, 0}, {0, 3, 0, 0, 0, 0, 0, 0, 0, 0, 0, 0x80},
	} {
		if got, err := access.Decode(b); got != (api.Access{}) || err != api.ErrShape {
			t.Errorf("Decode(% x) is %+v, %d", b, got, err)
		}
	}
}

func TestDecodeFlags(t *testing.T) { // P4.2: each byte of flags, at places and with Data of each size
	for flags := range 256 {
		for _, addr := range addrs() {
			for _, data := range datas {
				b := binary.LittleEndian.AppendUint32([]byte{5, byte(flags), 0, 0}, addr)
				checkDecode(t, binary.LittleEndian.AppendUint32(b, data))
			}
		}
	}
}

func TestRecordsAreNew(t *testing.T) { // P4.2, R3
	a := write(3, 0x100, 2, 0x1234)
	one, _ := access.Encode(a)
	other, _ := access.Encode(a)
	got, err := access.Decode(one)
	for i := range one {
		one[i] = math.MaxUint8
	}
	if again, _ := access.Encode(a); !bytes.Equal(other, records()[0]) || !bytes.Equal(again, records()[0]) {
		t.Errorf("records are shared: % x, % x", other, again)
	}
	if got != a || err != api.OK {
		t.Errorf("what was decoded is %+v, %d, when the record is changed", got, err)
	}
	_ = append(other[:4], 9, 9, 9, 9)
	if again, _ := access.Encode(a); !bytes.Equal(again, records()[0]) {
		t.Errorf("records share their room: % x", again)
	}
}

func TestWhatFollows(t *testing.T) { // P4.4
	whose := map[string]api.Access{}
	for _, a := range all() {
		b, err := access.Encode(a)
		if (err == api.OK) != access.Right(a) {
			t.Fatalf("Encode(%+v) is % x, %d", a, b, err)
		}
		if err != api.OK {
			continue
		}
		if want := meantRecord(a); !bytes.Equal(b, want) {
			t.Fatalf("Encode(%+v) is % x, not % x", a, b, want)
		}
		if got, err := access.Decode(b); got != a || err != api.OK {
			t.Fatalf("%+v is encoded as % x, decoded as %+v, %d", a, b, got, err)
		}
		if other, is := whose[string(b)]; is && other != a {
			t.Fatalf("% x is the record of %+v and of %+v", b, a, other)
		}
		whose[string(b)] = a
	}
}

func FuzzDecode(f *testing.F) { // P4.2, P4.4
	for _, b := range records() {
		f.Add(b)
		f.Add(b[:11])
		f.Add(append(b, 0))
	}
	f.Fuzz(func(t *testing.T, b []byte) {
		checkDecode(t, b)
		a, err := access.Decode(b)
		if err != api.OK {
			return
		}
		if again, err := access.Encode(a); !bytes.Equal(again, b) || err != api.OK {
			t.Errorf("% x is decoded as %+v, encoded as % x, %d", b, a, again, err)
		}
	})
}
