package chip

import (
	"incunable/bits"
	"incunable/geom"
)

// The status that a poll returns, and what is added to it.
const (
	statusBusy       = 0x80
	statusBackground = 0xc0
	statusReady      = 0xe0
	statusFail       = 0x01
	statusPrevious   = 0x02
)

// program is a row, and the raw page to program it with.
type program struct {
	row int
	raw []byte
}

// background is the program in the background, if there is one, and for how
// many polls it still waits.
type background struct {
	program
	there bool
	polls int
}

// work is what is pending: a read, programs, or erases; or nothing.
type work struct {
	// reads says whether the row is to be read.
	reads    bool
	row      int
	programs []program
	// blocks are those to be erased.
	blocks []int
}

// any reports whether there is any work.
func (w work) any() bool {
	return w.reads || len(w.programs) > 0 || len(w.blocks) > 0
}

// engaged reports whether the chip is busy, or work is pending.
func (c *Chip) engaged() bool {
	return c.busy > 0 || c.pending.any()
}

// reset interrupts the work, and forgets all but the register and the column.
func (c *Chip) reset() {
	c.interrupt()
	c.leave()
	c.rung = 0
	c.fail, c.previous = false, false
	c.busy = c.teller.Busy()
}

// start starts work, and discards what is queued.
func (c *Chip) start(w work) {
	c.discard()
	c.begin(w)
}

// begin starts work, and keeps what is queued.
func (c *Chip) begin(w work) {
	c.fail = false
	if !c.background.there {
		c.previous = false
	}
	c.pending = w
	c.busy = c.teller.Busy()
	c.enter(status)
}

// putBehind performs the program in the background, and puts another one
// there.
func (c *Chip) putBehind(p program) {
	if !c.background.there {
		// What starts now finds p there, and leaves previous fail as it is.
		c.previous = false
	}
	c.performBehind()
	c.background = background{program: p, there: true, polls: c.teller.Busy()}
}

// poll returns the status, and performs what has been waited for.
func (c *Chip) poll() byte {
	if c.busy > 0 {
		c.busy--
		return statusBusy
	}
	c.perform()
	if c.background.polls > 0 {
		c.background.polls--
		return statusBackground + c.previousBit()
	}
	c.performBehind()
	return statusReady + c.failBit() + c.previousBit()
}

// failBit returns what fail adds to the status.
func (c *Chip) failBit() byte {
	if c.fail {
		return statusFail
	}
	return 0
}

// previousBit returns what previous fail adds to the status.
func (c *Chip) previousBit() byte {
	if c.previous {
		return statusPrevious
	}
	return 0
}

// perform performs the pending work, if there is any.
func (c *Chip) perform() {
	w := c.pending
	if !w.any() {
		return
	}
	c.pending = work{}
	c.performBehind()
	if w.reads {
		c.register = bits.Flip(c.array.Raw(w.row), c.teller.Turns(w.row, c.rung)...)
	}
	for _, p := range w.programs {
		if !c.tryProgram(p) {
			c.fail = true
		}
	}
	for _, block := range w.blocks {
		if !c.tryErase(block) {
			c.fail = true
		}
	}
}

// performBehind performs the program in the background, if there is one.
func (c *Chip) performBehind() {
	if !c.background.there {
		return
	}
	c.previous = !c.tryProgram(c.background.program)
	c.background = background{}
}

// tryProgram programs a row; false if that fails, and the row is torn.
func (c *Chip) tryProgram(p program) bool {
	if c.teller.Fails() {
		c.array.Tear(p.row, c.torn())
		return false
	}
	c.array.Program(p.row, p.raw)
	return true
}

// tryErase erases a block; false if that fails, and the block is torn.
func (c *Chip) tryErase(block int) bool {
	if c.teller.Fails() {
		c.array.TearBlock(block, c.torn())
		return false
	}
	c.array.Erase(block)
	return true
}

// interrupt tears what is worked on, which is no longer pending then.
func (c *Chip) interrupt() {
	if c.background.there {
		c.tearPair(c.background.row)
	}
	for _, p := range c.pending.programs {
		c.tearPair(p.row)
	}
	for _, block := range c.pending.blocks {
		c.array.TearBlock(block, c.torn())
	}
	c.pending = work{}
	c.background = background{}
}

// tearPair tears a row, and before it, if its page is an upper one, the lower
// page of its pair.
func (c *Chip) tearPair(row int) {
	block, at, _ := geom.Split(c.geom, row)
	if lower := geom.Lower(at); lower != at {
		below, _ := geom.Row(c.geom, block, lower)
		c.array.Tear(below, c.torn())
	}
	c.array.Tear(row, c.torn())
}

// torn returns the raw page of what is torn.
func (c *Chip) torn() []byte {
	return c.teller.Torn(geom.Raw(c.geom))
}
