package judge

import (
	"incunable/api"
	"incunable/geom"
)

// operation determines which cycles may follow.
type operation int

// The operations that may be open. The first one is open till the chip is
// reset.
const (
	asleep operation = iota
	free
	id
	parameters
	feature
	fetch
	out
	move
	load
	erase
)

// The commands that are accepted even while the chip is busy.
const (
	commandReset  = 0xff
	commandStatus = 0x70
)

// The commands that open an operation.
const (
	commandID         = 0x90
	commandParameters = 0xec
	commandFeature    = 0xef
	commandFetch      = 0x00
	commandMove       = 0x05
	commandLoad       = 0x80
	commandErase      = 0x60
)

// The commands that end an operation.
const (
	commandRead       = 0x30
	commandOut        = 0xe0
	commandProgram    = 0x10
	commandQueueRow   = 0x11
	commandBackground = 0x15
	commandEraseAll   = 0xd0
	commandQueueBlock = 0xd1
)

// The bits of a status: that the work failed, that nothing is in the
// background, and that the chip is not busy.
const (
	bitFail  = 0x01
	bitDone  = 0x20
	bitReady = 0x40
)

// addressFirst is the address of the identification and of the parameters, and
// addressRung that of the rung.
const (
	addressFirst = 0x00
	addressRung  = 0x89
)

// sizeAddress is how many bytes the address of a row has, and that of a
// column; sizeBoth is how many both of them have.
const (
	sizeAddress = 2
	sizeBoth    = 2 * sizeAddress
)

// sizeID is how many bytes the identification has.
const sizeID = 5

// sizeFeature is how many Writes a feature has.
const sizeFeature = 4

// isCommand reports whether x is this command.
func isCommand(x api.Cycle, b byte) bool {
	return x.Kind == api.Command && x.B == b
}

// accepts takes note of a cycle that no other one before it made wrong; false
// if it may not come.
func (j *Judge) accepts(x api.Cycle) bool {
	switch {
	case isCommand(x, commandReset):
		j.stop()
		j.start()
		return true
	case j.open == asleep:
		return false
	case isCommand(x, commandStatus):
		// While the chip is busy, nothing else is open anyway.
		j.enter(free)
		return true
	case x.Kind == api.Read && j.polling:
		j.poll(x.B)
		return true
	case j.busy:
		return false
	}
	return j.continues(x)
}

// poll takes note of a status.
func (j *Judge) poll(status byte) {
	if status&bitReady == 0 {
		return
	}
	// A chip that is not busy has no erases that could have failed.
	if status&bitFail != 0 {
		j.spoil()
	}
	j.erases = nil
	j.busy = false
	if status&bitDone != 0 {
		j.background = false
	}
}

// continues takes note of a cycle that depends on what is open.
func (j *Judge) continues(x api.Cycle) bool {
	switch x.Kind {
	case api.Command:
		return j.command(x.B)
	case api.Address:
		return j.address(x.B)
	case api.Write:
		return j.write()
	case api.Read:
		return j.read()
	}
	return false
}

// command takes note of a Command.
func (j *Judge) command(b byte) bool {
	switch j.open {
	case load:
		return j.endLoad(b)
	case erase:
		return j.endErase(b)
	case move:
		return j.endMove(b)
	case id:
		return len(j.listed) > 0 && j.begin(b)
	case fetch:
		if len(j.listed) > 0 {
			return j.endFetch(b)
		}
		if !j.data {
			return false
		}
		// What is read now is read, and something else may begin.
		fallthrough
	case free, out:
		return j.begin(b)
	}
	return false
}

// address takes note of an Address.
func (j *Judge) address(b byte) bool {
	if !j.lists(b) {
		return false
	}
	j.listed = append(j.listed, b)
	switch j.open {
	case parameters:
		j.data = true
		j.column = 0
		j.start()
	case fetch:
		// With an address, it is another page that is to be read.
		j.data = false
		fallthrough
	case load:
		if len(j.listed) == sizeBoth {
			j.column = j.listedColumn()
			return j.isColumn() && j.isRow()
		}
	case move:
		return len(j.listed) < sizeAddress || j.isColumn()
	case erase:
		return len(j.listed) < sizeAddress || j.isRow()
	}
	return true
}

// lists reports whether an Address may be listed.
func (j *Judge) lists(b byte) bool {
	switch j.open {
	case id, parameters:
		return b == addressFirst && len(j.listed) == 0
	case feature:
		return b == addressRung && len(j.listed) == 0
	case fetch, load:
		return len(j.listed) < sizeBoth
	case move, erase:
		return len(j.listed) < sizeAddress
	}
	return false
}

// write takes note of a Write.
func (j *Judge) write() bool {
	switch {
	case j.open == feature && len(j.listed) > 0:
		j.count++
		if j.count == sizeFeature {
			j.start()
		}
		return true
	case j.open == load && len(j.listed) == sizeBoth:
		j.count++
		return j.column+j.count <= geom.Raw(j.geom)
	}
	return false
}

// read takes note of a Read that is no poll.
func (j *Judge) read() bool {
	switch j.open {
	case id:
		j.count++
		return len(j.listed) > 0 && j.count <= sizeID
	case fetch:
		if len(j.listed) > 0 || !j.data {
			return false
		}
		j.open = out
		fallthrough
	case out:
		j.column++
		return j.column <= geom.Raw(j.geom)
	}
	return false
}

// opened returns the operation that a command opens; false if it opens none.
func opened(b byte) (operation, bool) {
	switch b {
	case commandID:
		return id, true
	case commandParameters:
		return parameters, true
	case commandFeature:
		return feature, true
	case commandFetch:
		return fetch, true
	case commandMove:
		return move, true
	case commandLoad:
		return load, true
	case commandErase:
		return erase, true
	}
	return asleep, false
}

// begin takes note of a command that opens an operation.
func (j *Judge) begin(b byte) bool {
	next, ok := opened(b)
	if !ok || !j.mayOpen(next) {
		return false
	}
	if next != fetch && next != move {
		j.data = false
	}
	j.enter(next)
	return true
}

// mayOpen reports whether what goes on lets an operation be opened.
func (j *Judge) mayOpen(next operation) bool {
	switch {
	case j.background || len(j.rows) > 0:
		return next == load
	case len(j.blocks) > 0:
		return next == erase
	}
	return next != move || j.data
}

// endFetch takes note of a command that ends a fetch.
func (j *Judge) endFetch(b byte) bool {
	if b != commandRead || len(j.listed) < sizeBoth {
		return false
	}
	j.data = true
	j.start()
	return true
}

// endMove takes note of a command that ends a move.
func (j *Judge) endMove(b byte) bool {
	if b != commandOut || len(j.listed) < sizeAddress {
		return false
	}
	j.column = j.listedColumn()
	j.enter(out)
	return true
}

// endLoad takes note of a command that ends a load.
func (j *Judge) endLoad(b byte) bool {
	if len(j.listed) < sizeBoth || j.count == 0 {
		return false
	}
	row := j.listedRow()
	block, page, _ := geom.Split(j.geom, row)
	if !j.Can(row) || !j.joins(block, page) {
		return false
	}
	switch b {
	case commandProgram:
		j.rows = nil
	case commandBackground:
		if len(j.rows) > 0 {
			return false
		}
		j.background, j.backgroundBlock = true, block
	case commandQueueRow:
		if j.background {
			return false
		}
		j.rows = append(j.rows, row)
	default:
		return false
	}
	j.program(block, page)
	j.start()
	return true
}

// joins reports whether a page of a block may be programmed besides the named
// rows, and behind the program in the background.
func (j *Judge) joins(block, page int) bool {
	if j.background && j.backgroundBlock != block {
		return false
	}
	for _, row := range j.rows {
		named, namedPage, _ := geom.Split(j.geom, row)
		if namedPage != page || j.plane(named) == j.plane(block) {
			return false
		}
	}
	return true
}

// endErase takes note of a command that ends an erase.
func (j *Judge) endErase(b byte) bool {
	if b != commandEraseAll && b != commandQueueBlock || len(j.listed) < sizeAddress {
		return false
	}
	block, _, _ := geom.Split(j.geom, j.listedRow())
	for _, named := range j.blocks {
		if j.plane(named) == j.plane(block) {
			return false
		}
	}
	j.blocks = append(j.blocks, block)
	if b == commandEraseAll {
		j.erase()
	}
	j.start()
	return true
}

// plane returns the plane of a block.
func (j *Judge) plane(block int) int {
	plane, _ := geom.Plane(j.geom, block)
	return plane
}

// listedRow returns the row whose address was listed last.
func (j *Judge) listedRow() int {
	row, _ := geom.Number(j.listed[len(j.listed)-sizeAddress:])
	return row
}

// listedColumn returns the column whose address was listed first.
func (j *Judge) listedColumn() int {
	column, _ := geom.Number(j.listed[:sizeAddress])
	return column
}

// isRow reports whether there is a row with the address that was listed last.
func (j *Judge) isRow() bool {
	_, _, ok := geom.Split(j.geom, j.listedRow())
	return ok
}

// isColumn reports whether there is a column with the address that was listed
// first.
func (j *Judge) isColumn() bool {
	return j.listedColumn() < geom.Raw(j.geom)
}
