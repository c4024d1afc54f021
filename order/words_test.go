package order_test

import (
	"fmt"
	"math"
	"reflect"
	"testing"

	"escheat/api"
	"escheat/order"
)

// The words of the chapter, told in another way than the program's: numbers that wait to be told, and what becomes of a question, kind by kind.

const maxAddr = 16384

// far are whole numbers far from all that a sequencer is at.
var far = []int{
	-2, -5, -maxAddr, 65536 + 1, 1 << 31, 1<<32 + 6, 1<<32 + 7, -1 << 31, -1<<32 + 8, 1<<62 + 6, -1 << 62,
	math.MaxInt, math.MaxInt - 1, math.MinInt, math.MinInt + 1,
}

// own are the kinds of questions that the sequencer knows; foreign are those of the units and of the layout, and kinds of no one.
var (
	own     = []int{api.AskStart, api.AskNext, api.AskTail}
	foreign = append([]int{
		0, api.AskWrite, api.AskFill, api.AskRead, api.AskTrim, api.AskSeal, api.AskLayout, api.AskChange, api.AskMark, -1, 12, 13, 255, 256 + 6, 256 + 8,
	}, far...)
	kinds = append(append([]int(nil), own...), foreign...)
)

// model is a sequencer by the words: waits are all numbers that Next has still to tell, nil if it knows nothing.
type model struct {
	epoch int
	waits []int
}

// numbers are all that Next tells behind a Start with that tail; the last one is told by Tail alone.
func numbers(tail int) []int {
	l := make([]int, 0, maxAddr+1-tail)
	for n := tail; n <= maxAddr; n++ {
		l = append(l, n)
	}
	return l
}

func (m *model) do(a api.Ask) api.Answer {
	code, n := 0, 0
	if a.Kind == 8 {
		if m.epoch >= a.Epoch {
			code = 40
		} else if a.Page > maxAddr || a.Page < 0 {
			code = 1
		} else {
			m.epoch = a.Epoch
			m.waits = numbers(a.Page)
		}
	} else if a.Kind == 6 || a.Kind == 7 {
		if a.Epoch < m.epoch || a.Epoch > m.epoch {
			code = 40
		} else if m.waits == nil {
			code = 47
		} else if a.Kind == 7 {
			n = m.waits[0]
		} else if len(m.waits) == 1 {
			code = 44
		} else {
			n = m.waits[0]
			m.waits = m.waits[1:]
		}
	} else {
		code = 1
	}
	return api.Answer{Code: code, N: n, Epoch: m.epoch}
}

// both is a sequencer, and the same by the words; what is asked of both comes to the same.
type both struct {
	t testing.TB
	o *order.Order
	m *model
}

func made(t testing.TB) both {
	t.Helper()
	b := both{t, order.New(), &model{epoch: -1}}
	b.same()
	return b
}

// do asks both, and answers what the sequencer told.
func (b both) do(a api.Ask) api.Answer {
	b.t.Helper()
	want, got := b.m.do(a), b.o.Do(a)
	if !reflect.DeepEqual(got, want) {
		b.t.Errorf("%s: %+v, not %+v", ask(a), got, want)
	}
	b.same()
	return got
}

func (b both) crash() {
	b.t.Helper()
	b.m.waits = nil
	b.o.Crash()
	b.same()
}

// same holds that all that a sequencer shows comes to the same.
func (b both) same() {
	b.t.Helper()
	want := shown{epoch: b.m.epoch, knows: b.m.waits != nil, tail: b.m.do(tailOf(b.m.epoch))}
	if got := show(b.o); !reflect.DeepEqual(got, want) {
		b.t.Errorf("it shows %+v, not %+v", got, want)
	}
}

// shown is all that a sequencer shows without being changed.
type shown struct {
	epoch int
	knows bool
	tail  api.Answer
}

func show(o *order.Order) shown {
	return shown{o.Epoch(), o.Knows(), o.Do(tailOf(o.Epoch()))}
}

func startOf(epoch, tail int) api.Ask {
	return api.Ask{Kind: api.AskStart, Epoch: epoch, Page: tail}
}

func nextOf(epoch int) api.Ask { return api.Ask{Kind: api.AskNext, Epoch: epoch} }

func tailOf(epoch int) api.Ask { return api.Ask{Kind: api.AskTail, Epoch: epoch} }

// started is a sequencer that was told to start once.
func started(t testing.TB, epoch, tail int) *order.Order {
	t.Helper()
	o := order.New()
	expect(t, o, startOf(epoch, tail), code(api.OK, epoch))
	return o
}

func expect(t testing.TB, o *order.Order, a api.Ask, want api.Answer) {
	t.Helper()
	if got := o.Do(a); !reflect.DeepEqual(got, want) {
		t.Errorf("%s: %+v, not %+v", ask(a), got, want)
	}
}

// expectIdle holds that a question is answered so each time that it is asked, and changes nothing.
func expectIdle(t testing.TB, o *order.Order, a api.Ask, want api.Answer) {
	t.Helper()
	before := show(o)
	for range 2 {
		expect(t, o, a, want)
		if after := show(o); !reflect.DeepEqual(after, before) {
			t.Fatalf("%s: it was changed from %+v to %+v", ask(a), before, after)
		}
	}
}

// code is an answer that tells no more than a Code and the sequencer's epoch.
func code(err api.Errno, epoch int) api.Answer { return api.Answer{Code: int(err), Epoch: epoch} }

// told is an answer with a number.
func told(n, epoch int) api.Answer { return api.Answer{N: n, Epoch: epoch} }

func ask(a api.Ask) string {
	return fmt.Sprintf("kind %d of epoch %d with page %d", a.Kind, a.Epoch, a.Page)
}
