package mailbox

import (
	"math"

	"septum/fifo"
)

const (
	room  = 4              // so many words there may be
	most  = math.MaxUint32 // so many lost ones may be told
	calls = 1              // is the bit of Ctrl
)

// mail is what a mailbox has.
type mail struct {
	*fifo.Fifo[uint32]
	ctrl, lost uint32
}

func fresh() mail { return mail{Fifo: fifo.New[uint32](room)} }

// aside puts a word behind the others; where there is no room, one more was lost.
func (m *mail) aside(v uint32) {
	if !m.Put(v) && m.lost < most {
		m.lost++
	}
}

func (m *mail) line() bool { return m.ctrl == calls && m.Len() > 0 }

func (m *mail) state() State {
	s := State{Ctrl: m.ctrl, Lost: m.lost}
	for _, v := range m.All() {
		s.Words = append(s.Words, v)
	}
	return s
}

// apart is the same, with a row of its own.
func (m *mail) apart() mail { return mail{Fifo: m.Copy(), ctrl: m.ctrl, lost: m.lost} }
