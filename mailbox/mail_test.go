package mailbox

import (
	"math"
	"testing"
)

const top = math.MaxUint32

// full is a mailbox without room, of which so many words were lost; by writes alone it would take too long to come there.
func full(lost uint32) *Box {
	b := New()
	for v := range uint32(room) {
		b.Write(wordReg, v+1)
	}
	b.mail.lost = lost
	return b
}

func checkLost(t *testing.T, b *Box, want uint32) {
	t.Helper()
	if v, s := b.Read(lostReg), b.State(); v != want || s.Lost != want {
		t.Fatalf("%#x, %#x were lost, not %#x", v, s.Lost, want)
	}
	if n := b.Read(countReg); n != room {
		t.Fatalf("there are %d words", n)
	}
}

func TestAsManyLostAsMayBeTold(t *testing.T) { // P12.1: up to the greatest number, one more, and not from 0 on again
	for _, lost := range []uint32{0, 1, 0xff, 0xffff, 0x7ffffffe, 0x7fffffff, 0x80000000, top - 3, top - 2, top - 1, top} {
		b := full(lost)
		for n := range uint32(5) {
			checkLost(t, b, lost+min(n, top-lost))
			b.Write(wordReg, n)
		}
		checkLost(t, b, lost+min(5, top-lost))
	}
}

func TestAsManyLostAreForgotten(t *testing.T) { // P12.1: and counted again
	b := full(top)
	for want := range uint32(3) {
		b.Write(lostReg, top)
		checkLost(t, b, 0)
		for range want {
			b.Write(wordReg, 9)
		}
		checkLost(t, b, want)
	}
}

func TestAsManyLostStayTold(t *testing.T) { // P12.1: when there is room again, and when a word is put there
	b := full(top)
	for want := range uint32(3) {
		if v := b.Read(wordReg); v != want+1 {
			t.Errorf("the first word is %d, not %d", v, want+1)
		}
		b.Write(wordReg, 9)
		b.Write(ctrlReg, want)
		b.Write(countReg, want)
		checkLost(t, b, top)
	}
}

func TestCopyOfAsManyLost(t *testing.T) { // P12.2
	b := full(top - 1)
	c := b.Copy()
	b.Write(wordReg, 1)
	checkLost(t, c, top-1)
	checkLost(t, b, top)
	c.Write(lostReg, 0)
	checkLost(t, b, top)
	checkLost(t, c, 0)
	checkLost(t, b.Copy(), top)
}
