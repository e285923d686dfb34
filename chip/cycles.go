package chip

import (
	"bytes"

	"incunable/api"
	"incunable/geom"
	"incunable/page"
)

// state determines the cycles that a chip accepts.
type state int

// The states of a chip.
const (
	idle state = iota
	status
	id
	told
	parameters
	feature
	fetch
	out
	move
	load
	erase
)

// The commands that a chip accepts in any state.
const (
	commandReset  = 0xff
	commandStatus = 0x70
)

// The commands that enter a state, if the chip is not engaged.
const (
	commandID         = 0x90
	commandParameters = 0xec
	commandFeature    = 0xef
	commandFetch      = 0x00
	commandMove       = 0x05
	commandErase      = 0x60
	commandLoad       = 0x80
)

// The commands that end what was entered by another one.
const (
	commandRead       = 0x30
	commandOut        = 0xe0
	commandProgram    = 0x10
	commandQueueRow   = 0x11
	commandBackground = 0x15
	commandEraseAll   = 0xd0
	commandQueueBlock = 0xd1
)

// addressFirst is the address of the identification and of the parameters, and
// addressRung that of the rung.
const (
	addressFirst = 0x00
	addressRung  = 0x89
)

// sizeAddress is how many bytes the address of a row has, and that of a
// column; sizeBoth is how many both of them have.
const (
	sizeAddress = 2
	sizeBoth    = 2 * sizeAddress
)

// sizeFeature is how many bytes are given with a feature: its address, and
// four Writes.
const sizeFeature = 5

// execute executes a cycle, and returns the byte of a Read.
func (c *Chip) execute(x api.Cycle) byte {
	switch {
	case x.Kind == api.Command && x.B == commandReset:
		c.reset()
	case x.Kind == api.Command && x.B == commandStatus:
		c.enter(status)
	case x.Kind == api.Read:
		return c.read()
	case !c.engaged() && !c.accepts(x):
		c.leave()
	}
	return 0
}

// accepts does what a cycle that is no Read does; false if it may not come in
// this state, and nothing is done.
func (c *Chip) accepts(x api.Cycle) bool {
	switch x.Kind {
	case api.Command:
		return c.open(x.B) || c.end(x.B)
	case api.Address:
		return c.address(x.B)
	}
	return c.write(x.B)
}

// enter makes the state another one, in which nothing is listed yet.
func (c *Chip) enter(next state) {
	c.state = next
	c.listed = nil
	c.said = 0
}

// leave does what a cycle does that may not come.
func (c *Chip) leave() {
	c.enter(idle)
	c.discard()
}

// discard discards what is queued.
func (c *Chip) discard() {
	c.queued = nil
	c.queuedBlocks = nil
}

// opened returns the state that a command enters; false if it enters none.
func opened(b byte) (state, bool) {
	switch b {
	case commandID:
		return id, true
	case commandParameters:
		return parameters, true
	case commandFeature:
		return feature, true
	case commandFetch:
		return fetch, true
	case commandMove:
		return move, true
	case commandErase:
		return erase, true
	case commandLoad:
		return load, true
	}
	return idle, false
}

// open does what a command does that enters a state; false if it enters none.
func (c *Chip) open(b byte) bool {
	next, ok := opened(b)
	if !ok {
		return false
	}
	if next == load {
		c.register = page.Erased(c.geom)
	} else {
		c.queued = nil
	}
	if next != erase {
		c.queuedBlocks = nil
	}
	c.enter(next)
	return true
}

// end does what a command does that ends what was entered before; false if it
// may not come.
func (c *Chip) end(b byte) bool {
	switch {
	case c.state == fetch && len(c.listed) == sizeBoth:
		return c.endFetch(b)
	case c.state == move && len(c.listed) == sizeAddress:
		return c.endMove(b)
	case c.state == load && len(c.listed) == sizeBoth:
		return c.endLoad(b)
	case c.state == erase && len(c.listed) == sizeAddress:
		return c.endErase(b)
	}
	return false
}

// endFetch starts a read.
func (c *Chip) endFetch(b byte) bool {
	row, ok := c.row()
	if b != commandRead || !ok {
		return false
	}
	c.column = c.listedColumn()
	c.start(work{reads: true, row: row})
	return true
}

// endMove moves the column.
func (c *Chip) endMove(b byte) bool {
	if b != commandOut {
		return false
	}
	c.column = c.listedColumn()
	c.enter(out)
	return true
}

// endLoad programs the listed row with the register, at once, later or in the
// background.
func (c *Chip) endLoad(b byte) bool {
	row, ok := c.row()
	if !ok {
		return false
	}
	// The register goes on to be written, so that the program has its own copy.
	p := program{row: row, raw: bytes.Clone(c.register)}
	switch b {
	case commandProgram:
		c.start(work{programs: append(c.queued, p)})
	case commandQueueRow:
		if len(c.queued) < c.geom.Planes {
			c.queued = append(c.queued, p)
		}
		c.begin(work{})
	case commandBackground:
		c.putBehind(p)
		c.start(work{})
	default:
		return false
	}
	return true
}

// endErase erases the block of the listed row, at once or later.
func (c *Chip) endErase(b byte) bool {
	row, ok := c.row()
	if !ok {
		return false
	}
	block, _, _ := geom.Split(c.geom, row)
	switch b {
	case commandEraseAll:
		c.start(work{blocks: append(c.queuedBlocks, block)})
	case commandQueueBlock:
		if len(c.queuedBlocks) < c.geom.Planes {
			c.queuedBlocks = append(c.queuedBlocks, block)
		}
		c.begin(work{})
	default:
		return false
	}
	return true
}

// row returns the row whose address was listed last; false if there is no such
// row.
func (c *Chip) row() (int, bool) {
	row, _ := geom.Number(c.listed[len(c.listed)-sizeAddress:])
	_, _, ok := geom.Split(c.geom, row)
	return row, ok
}

// listedColumn returns the column whose address was listed first.
func (c *Chip) listedColumn() int {
	column, _ := geom.Number(c.listed[:sizeAddress])
	return column
}

// address does what an address does; false if it may not come.
func (c *Chip) address(b byte) bool {
	if !c.lists(b) {
		return false
	}
	c.listed = append(c.listed, b)
	switch {
	case c.state == id:
		c.enter(told)
	case c.state == parameters:
		c.register = c.parameters()
		c.column = 0
		c.start(work{})
	case c.state == load && len(c.listed) == sizeBoth:
		c.column = c.listedColumn()
	}
	return true
}

// lists reports whether an address may be listed.
func (c *Chip) lists(b byte) bool {
	switch c.state {
	case id, parameters:
		return b == addressFirst
	case feature:
		return b == addressRung && len(c.listed) == 0
	case fetch, load:
		return len(c.listed) < sizeBoth
	case move, erase:
		return len(c.listed) < sizeAddress
	}
	return false
}

// parameters returns the raw page that tells the geometry.
func (c *Chip) parameters() []byte {
	g := c.geom
	raw := page.Erased(g)
	numbers := [7]int{g.Planes, g.Blocks, g.Pages, g.Chunks, g.Chunk, g.Rungs, g.Partial}
	for i, n := range numbers {
		copy(raw[i*sizeAddress:], geom.Address(n))
	}
	return raw
}

// write does what a Write does; false if it may not come.
func (c *Chip) write(b byte) bool {
	switch {
	case c.state == load && len(c.listed) == sizeBoth:
		c.store(b)
	case c.state == feature && len(c.listed) > 0:
		c.setRung(b)
	default:
		return false
	}
	return true
}

// store stores a byte in the register; it is ignored beyond its end.
func (c *Chip) store(b byte) {
	if c.column < len(c.register) {
		c.register[c.column] = b
		c.column++
	}
}

// setRung sets the rung, when all four bytes have been written of which the
// first one names it.
func (c *Chip) setRung(b byte) {
	c.listed = append(c.listed, b)
	if len(c.listed) < sizeFeature {
		return
	}
	if rung := int(c.listed[1]); rung < c.geom.Rungs {
		c.rung = rung
	}
	c.start(work{})
}

// read returns the byte of a Read.
func (c *Chip) read() byte {
	switch {
	case c.state == status:
		return c.poll()
	case c.engaged():
		return noByte
	case c.state == told:
		return c.tell()
	case c.state == fetch && len(c.listed) == 0:
		c.enter(out)
		return c.next()
	case c.state == out:
		return c.next()
	}
	c.leave()
	return noByte
}

// tell returns the next byte of the identification.
func (c *Chip) tell() byte {
	g := c.geom
	answer := [5]byte{0x49, 0x4e, byte(g.Planes), byte(g.Rungs), byte(g.Partial)}
	if c.said >= len(answer) {
		return noByte
	}
	c.said++
	return answer[c.said-1]
}

// next returns the byte of the register at the column.
func (c *Chip) next() byte {
	if c.column >= len(c.register) {
		return noByte
	}
	c.column++
	return c.register[c.column-1]
}
