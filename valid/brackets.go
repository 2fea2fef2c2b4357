package valid

import (
	"lorgnette/api"
)

// size is how many brackets a word tells of.
const size = 64

// brackets are those that are open, from the outermost one on: a bit is 1, if it is an object's.
type brackets struct {
	objects [(api.MaxDepth + size - 1) / size]uint64
	count   int
}

// push opens one more; there are api.MaxDepth at the most.
func (o *brackets) push(object bool) {
	bit := uint64(1) << (o.count % size)
	o.objects[o.count/size] &^= bit
	if object {
		o.objects[o.count/size] |= bit
	}
	o.count++
}

// pop closes the innermost one.
func (o *brackets) pop() {
	o.count--
}

// object tells whether the innermost one is an object's.
func (o *brackets) object() bool {
	last := o.count - 1
	return o.objects[last/size]>>(last%size)&1 == 1
}
