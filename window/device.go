package window

import (
	"septum/api"
	"septum/reach"
)

// All windows begin and end at multiples of a word's bytes.
const wordBytes = 4

// none is the Owner of a device that nobody has, and the Line of one that calls on none.
const none = -1

// sizes are the least and the greatest Size of a Kind.
type sizes struct{ least, most int }

// sizesOf has the six Kinds, and no other one.
func sizesOf() map[api.Kind]sizes {
	registers := sizes{api.Window, api.Window}
	return map[api.Kind]sizes{
		api.Ram:   {wordBytes, api.MaxRam},
		api.Timer: registers,
		api.Uart:  registers,
		api.Mail:  registers,
		api.Rotor: registers,
		api.Dma:   registers,
	}
}

// device is one at work, right or not.
type device struct{ api.Device }

func (d device) right() bool {
	for _, holds := range []func() bool{d.sized, d.whole, d.ends, d.owned, d.lined} {
		if !holds() {
			return false
		}
	}
	return true
}

// sized says, too, that its Kind is one.
func (d device) sized() bool {
	s, is := sizesOf()[d.Kind]
	return is && s.least <= d.Size && d.Size <= s.most
}

// whole says that it has words from its begin to its end.
func (d device) whole() bool { return d.Base%wordBytes == 0 && d.Size%wordBytes == 0 }

func (d device) ends() bool {
	_, is := d.window()
	return is
}

func (d device) owned() bool { return none <= d.Owner && d.Owner < api.MaxWorlds }

func (d device) lined() bool { return none <= d.Line && d.Line < api.Lines }

// window asks nothing but whether there are so many addresses.
func (d device) window() (api.Reach, bool) { return reach.Of(d.Base, d.Size) }
