package dma

import "septum/api"

const size = 4 // bytes of a word that is moved

// asks is a read, or a write of a word, somewhere: what is read, and whether the answer is OK.
type asks func(write bool, addr, word uint32) (uint32, bool)

// asker asks for a world. An ask that panics has not answered OK.
func (e *Engine) asker(world int, ask func(api.Access) api.Reply) asks {
	return func(write bool, addr, word uint32) (v uint32, is bool) {
		e.asking = true
		defer func() {
			e.asking = false
			_ = recover()
		}()
		r := ask(api.Access{World: world, Write: write, Addr: addr, Size: size, Data: word})
		return r.Value, r.Err == api.OK
	}
}

// step is one of an engine that is busy. Nothing is changed ahead of the answer: who is asked may look at the engine.
func (e *Engine) step(ask asks) {
	var v uint32
	var is bool
	writes := e.has
	if writes {
		goto write
	}
	v, is = ask(false, e.from, 0)
	goto answered
write:
	_, is = ask(true, e.to, e.holds)
answered:
	if !e.busy { // it was stopped while it asked
		return
	}
	if !is {
		goto denied
	}
	if writes {
		goto written
	}
	e.hold(v)
	e.from += size
	return
written:
	e.drop()
	e.to += size
	e.left--
	if e.left > 0 {
		return
	}
	e.stop()
	e.done = true
	return
denied:
	e.stop()
	e.denied = true
}
