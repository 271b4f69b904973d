package access

import (
	"septum/api"
	"septum/lane"
	"septum/word"
)

// Where the parts of a record begin, and where it ends.
const (
	worldAt     = 0
	flagsAt     = 1
	addrAt      = 4
	dataAt      = 8
	recordBytes = 12
)

const wordBytes = 4

// The flags of a record; of size 1 there is none.
const (
	flagWrite byte = 1 << iota
	flagTwo
	flagFour
)

// record is an access at work, right or not.
type record struct{ api.Access }

// recordOf is what the parts of twelve bytes tell; whether it is right, and what stands beside the parts, is not asked here.
func recordOf(b []byte) (record, bool) {
	if len(b) != recordBytes {
		return record{}, false
	}
	flags := b[flagsAt]
	// Both are four bytes, of which there is always a number.
	addr, _ := word.Of(b[addrAt:dataAt])
	data, _ := word.Of(b[dataAt:recordBytes])
	return record{api.Access{
		World: int(b[worldAt]),
		Write: flags&flagWrite != 0,
		Addr:  addr,
		Size:  sizeOf(flags),
		Data:  data,
	}}, true
}

// sizeOf is 0, which is no size, where the flags tell none.
func sizeOf(flags byte) int {
	switch flags &^ flagWrite {
	case 0:
		return 1
	case flagTwo:
		return 2
	case flagFour:
		return 4
	}
	return 0
}

func (r record) right() bool {
	for _, holds := range []func() bool{r.ofWorld, r.aligned, r.fits, r.silent} {
		if !holds() {
			return false
		}
	}
	return true
}

func (r record) ofWorld() bool { return 0 <= r.World && r.World < api.MaxWorlds }

func (r record) aligned() bool { return lane.Aligned(r.Addr, r.Size) }

func (r record) fits() bool {
	low, is := word.Low(r.Data, r.Size)
	return is && low == r.Data
}

// silent says that a read tells no Data.
func (r record) silent() bool { return r.Write || r.Data == 0 }

func (r record) flags() byte {
	flags := byte(0)
	if r.Write {
		flags |= flagWrite
	}
	switch r.Size {
	case 2:
		flags |= flagTwo
	case 4:
		flags |= flagFour
	}
	return flags
}

// bytes asks for a record that is right: of others the world may be cut.
func (r record) bytes() []byte {
	b := make(row, 0, recordBytes)
	b.put(byte(r.World), r.flags(), 0, 0)
	b.put(word.Bytes(r.Addr, wordBytes)...)
	b.put(word.Bytes(r.Data, wordBytes)...)
	return b
}

// row is bytes that have been put, one behind another.
type row []byte

func (b *row) put(more ...byte) { *b = append(*b, more...) }
