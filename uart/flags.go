package uart

import "septum/fifo"

// flag is a bit that says that something was lost; it stands where a register tells it, above how many came and go.
type flag uint32

const (
	lostIn flag = 1 << (iota + 16)
	lostOut
)

// calls is the bit of Ctrl.
const calls = 1

// flags are those of a uart.
type flags struct {
	lost flag
	ctrl uint32
}

func (f *flags) has(lost flag) bool { return f.lost&lost != 0 }

// put puts a byte behind those of a row; where there is no room, the flag of that side says so from then on.
func (f *flags) put(row *fifo.Fifo[byte], b byte, lost flag) bool {
	is := row.Put(b)
	if !is {
		f.lost |= lost
	}
	return is
}
