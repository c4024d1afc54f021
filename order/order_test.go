package order_test

import (
	"math"
	"testing"

	"escheat/api"
	"escheat/order"
)

// P11.2: the chapter's example
func TestExample(t *testing.T) {
	o := order.New()
	expect(t, o, startOf(0, 5), code(api.OK, 0))
	expect(t, o, nextOf(0), told(5, 0))
	expect(t, o, nextOf(0), told(6, 0))
	expect(t, o, tailOf(0), told(7, 0))
}

// P11.1: it is in the epoch -1, and knows nothing, whatever it is asked but a Start.
func TestNew(t *testing.T) {
	o := order.New()
	if o == nil || o.Epoch() != -1 || o.Knows() {
		t.Fatalf("epoch %d, knows %v", o.Epoch(), o.Knows())
	}
	for _, kind := range []int{api.AskNext, api.AskTail} {
		expectIdle(t, o, api.Ask{Kind: kind, Epoch: -1}, code(api.ErrNoOrder, -1))
		for _, epoch := range append([]int{0, 1}, far...) {
			expectIdle(t, o, api.Ask{Kind: kind, Epoch: epoch}, code(api.ErrSealed, -1))
		}
	}
	for _, kind := range foreign {
		expectIdle(t, o, api.Ask{Kind: kind, Epoch: -1}, code(api.ErrArg, -1))
	}
	if o.Epoch() != -1 || o.Knows() {
		t.Errorf("epoch %d, knows %v", o.Epoch(), o.Knows())
	}
}

// P11.1: all calls of nil
func TestNil(t *testing.T) {
	var o *order.Order
	for range 2 {
		for _, kind := range kinds {
			for _, n := range append([]int{-1, 0, 1, maxAddr}, far...) {
				expect(t, o, api.Ask{Kind: kind, Unit: n, Epoch: n, Page: n, Size: n, N: n, Data: "a"}, api.Answer{Code: int(api.ErrArg)})
			}
		}
		if o.Epoch() != -1 || o.Knows() {
			t.Errorf("of nil: epoch %d, knows %v", o.Epoch(), o.Knows())
		}
		o.Crash()
	}
}

// P11.2: a Start of any epoch with any Page, told to one that was in any epoch before
func TestStart(t *testing.T) {
	pages := append([]int{-1, 0, 1, 5, maxAddr - 1, maxAddr, maxAddr + 1}, far...)
	for _, was := range []int{-1, 0, 1, 7, 1 << 40, math.MaxInt - 1, math.MaxInt} {
		for _, epoch := range append([]int{-1, 0, 1, was - 1, was, was/2 + 1}, far...) {
			for _, page := range pages {
				o := order.New()
				if was >= 0 {
					o = started(t, was, 9)
				}
				if epoch <= was {
					expectIdle(t, o, startOf(epoch, page), code(api.ErrSealed, was))
				} else if page < 0 || page > maxAddr {
					expectIdle(t, o, startOf(epoch, page), code(api.ErrArg, was))
				} else {
					expect(t, o, startOf(epoch, page), code(api.OK, epoch))
					expect(t, o, tailOf(epoch), told(page, epoch))
					if o.Epoch() != epoch || !o.Knows() {
						t.Errorf("%s behind %d: epoch %d, knows %v", ask(startOf(epoch, page)), was, o.Epoch(), o.Knows())
					}
				}
			}
		}
	}
}

// P11.2: one above the own epoch is enough, and is what one above by far is.
func TestStartAbove(t *testing.T) {
	o := order.New()
	for i, epoch := range []int{0, 1, 2, 3, 255, 256, 65535, 65536, 1 << 31, 1<<31 + 1, 1 << 32, 1<<32 + 1, math.MaxInt - 1, math.MaxInt} {
		expectIdle(t, o, startOf(epoch, -1), code(api.ErrArg, o.Epoch()))
		expect(t, o, startOf(epoch, i), code(api.OK, epoch))
		expect(t, o, nextOf(epoch), told(i, epoch))
		expectIdle(t, o, startOf(epoch, i), code(api.ErrSealed, epoch))
		expectIdle(t, o, startOf(epoch-1, i), code(api.ErrSealed, epoch))
	}
}

// P11.2: Start of the same epoch once more, of a lower one, and of a higher one with a lower Page
func TestStartAgain(t *testing.T) {
	o := started(t, 4, 100)
	expect(t, o, nextOf(4), told(100, 4))
	for _, page := range []int{0, 99, 100, 101, 102, maxAddr} {
		expectIdle(t, o, startOf(4, page), code(api.ErrSealed, 4))
		expectIdle(t, o, startOf(3, page), code(api.ErrSealed, 4))
	}
	expect(t, o, nextOf(4), told(101, 4))
	for i, tail := range []int{102, 50, 1, 0, maxAddr, 0, 7} {
		expect(t, o, startOf(5+i, tail), code(api.OK, 5+i))
		expectIdle(t, o, nextOf(4+i), code(api.ErrSealed, 5+i))
		expectIdle(t, o, tailOf(5+i), told(tail, 5+i))
	}
	expect(t, o, nextOf(11), told(7, 11))
}

// P11.2: Next and Tail of epochs about the sequencer's own
func TestEpochs(t *testing.T) {
	for _, own := range []int{0, 1, 7, 255, 256, 1 << 31, 1 << 40, math.MaxInt - 1, math.MaxInt} {
		o := started(t, own, 20)
		for _, epoch := range append([]int{-1, 0, 1, own - 1, own + 1, -own}, far...) {
			if epoch == own {
				continue
			}
			expectIdle(t, o, nextOf(epoch), code(api.ErrSealed, own))
			expectIdle(t, o, tailOf(epoch), code(api.ErrSealed, own))
		}
		expect(t, o, nextOf(own), told(20, own))
		expect(t, o, tailOf(own), told(21, own))
	}
}

// P11.2: kinds that are not the sequencer's, of epochs below, at and above its own, whether it knows anything or not
func TestForeignKinds(t *testing.T) {
	for _, own := range []int{0, 3, math.MaxInt} {
		o := started(t, own, 6)
		for range 2 {
			for _, kind := range foreign {
				for _, epoch := range append([]int{-1, 0, 1, own - 1, own, own + 1}, far...) {
					for _, page := range []int{0, 6, -1, maxAddr + 1} {
						expectIdle(t, o, api.Ask{Kind: kind, Epoch: epoch, Page: page, Data: "a"}, code(api.ErrArg, own))
					}
				}
			}
			o.Crash()
		}
	}
}

// P11.2: each Code of each kind
func TestCodes(t *testing.T) {
	o := order.New()
	for _, step := range []struct {
		a    api.Ask
		want api.Answer
	}{
		{tailOf(-1), code(api.ErrNoOrder, -1)},
		{nextOf(-1), code(api.ErrNoOrder, -1)},
		{tailOf(0), code(api.ErrSealed, -1)},
		{nextOf(0), code(api.ErrSealed, -1)},
		{startOf(-1, 0), code(api.ErrSealed, -1)},
		{startOf(0, -1), code(api.ErrArg, -1)},
		{startOf(2, maxAddr+1), code(api.ErrArg, -1)},
		{startOf(2, maxAddr-1), code(api.OK, 2)},
		{tailOf(2), told(maxAddr-1, 2)},
		{nextOf(2), told(maxAddr-1, 2)},
		{tailOf(2), told(maxAddr, 2)},
		{nextOf(2), code(api.ErrFull, 2)},
		{tailOf(2), told(maxAddr, 2)},
		{nextOf(1), code(api.ErrSealed, 2)},
		{tailOf(3), code(api.ErrSealed, 2)},
		{startOf(2, 0), code(api.ErrSealed, 2)},
		{startOf(3, maxAddr+1), code(api.ErrArg, 2)},
		{api.Ask{Kind: api.AskSeal, Epoch: 3}, code(api.ErrArg, 2)},
		{startOf(3, maxAddr), code(api.OK, 3)},
		{nextOf(3), code(api.ErrFull, 3)},
		{startOf(4, 0), code(api.OK, 4)},
		{nextOf(4), told(0, 4)},
		{nextOf(4), told(1, 4)},
	} {
		expect(t, o, step.a, step.want)
		if o.Epoch() != step.want.Epoch {
			t.Errorf("%s: epoch %d, not %d", ask(step.a), o.Epoch(), step.want.Epoch)
		}
	}
}

// P11.2: which Code comes where several would fit
func TestWhichComesFirst(t *testing.T) {
	full := started(t, 5, maxAddr)
	crashed := started(t, 5, maxAddr)
	crashed.Crash()
	for _, o := range []*order.Order{full, crashed} {
		for _, epoch := range []int{5, 4, 0, -1, math.MinInt} {
			for _, page := range []int{-1, maxAddr + 1, math.MinInt, math.MaxInt} {
				expectIdle(t, o, startOf(epoch, page), code(api.ErrSealed, 5))
			}
		}
		for _, epoch := range []int{4, 6, -1, math.MinInt, math.MaxInt} {
			expectIdle(t, o, nextOf(epoch), code(api.ErrSealed, 5))
			expectIdle(t, o, tailOf(epoch), code(api.ErrSealed, 5))
		}
	}
	expectIdle(t, full, nextOf(5), code(api.ErrFull, 5))
	expectIdle(t, crashed, nextOf(5), code(api.ErrNoOrder, 5))
	expectIdle(t, crashed, tailOf(5), code(api.ErrNoOrder, 5))
}

// P11.2, P11.3: Next and Tail one behind the other up to MaxAddr, and there more than once
func TestUpToTheLast(t *testing.T) {
	for _, tail := range []int{0, 1, 255, maxAddr - 300, maxAddr - 1, maxAddr} {
		o := started(t, 3, tail)
		for n := tail; n < maxAddr; n++ {
			expect(t, o, tailOf(3), told(n, 3))
			expect(t, o, nextOf(3), told(n, 3))
		}
		for range 4 {
			expectIdle(t, o, nextOf(3), code(api.ErrFull, 3))
			expectIdle(t, o, tailOf(3), told(maxAddr, 3))
		}
	}
}

// P11.1: ahead of any Start a crash changes nothing, however often.
func TestCrashAheadOfStart(t *testing.T) {
	for crashes := range 3 {
		o := order.New()
		for range crashes {
			o.Crash()
			if o.Epoch() != -1 || o.Knows() {
				t.Errorf("epoch %d, knows %v", o.Epoch(), o.Knows())
			}
		}
		expectIdle(t, o, nextOf(-1), code(api.ErrNoOrder, -1))
		expectIdle(t, o, tailOf(-1), code(api.ErrNoOrder, -1))
		expectIdle(t, o, startOf(-1, 3), code(api.ErrSealed, -1))
		expect(t, o, startOf(0, 3), code(api.OK, 0))
		expect(t, o, nextOf(0), told(3, 0))
	}
}

// P11.1: the epoch outlives a crash, and what it knew does not, till a later epoch starts it.
func TestCrash(t *testing.T) {
	for _, own := range []int{0, 1, 9, 1 << 40, math.MaxInt - 1} {
		for _, tail := range []int{0, 8, maxAddr - 1, maxAddr} {
			for crashes := 1; crashes <= 2; crashes++ {
				o := started(t, own, tail)
				o.Do(nextOf(own))
				for range crashes {
					o.Crash()
				}
				if o.Epoch() != own || o.Knows() {
					t.Errorf("epoch %d, knows %v behind a crash in epoch %d", o.Epoch(), o.Knows(), own)
				}
				expectIdle(t, o, nextOf(own), code(api.ErrNoOrder, own))
				expectIdle(t, o, tailOf(own), code(api.ErrNoOrder, own))
				expectIdle(t, o, startOf(own, tail), code(api.ErrSealed, own))
				expectIdle(t, o, startOf(own-1, tail), code(api.ErrSealed, own))
				expectIdle(t, o, startOf(own+1, -1), code(api.ErrArg, own))
				expect(t, o, startOf(own+1, 2), code(api.OK, own+1))
				if !o.Knows() || o.Epoch() != own+1 {
					t.Errorf("epoch %d, knows %v behind a Start", o.Epoch(), o.Knows())
				}
				expect(t, o, nextOf(own+1), told(2, own+1))
			}
		}
	}
}

// P11.1, P11.2: crashes, in each order with questions
func TestCrashInAnyOrder(t *testing.T) {
	deeds := []func(both){
		both.crash,
		func(b both) { b.do(startOf(b.m.epoch+1, 3)) },
		func(b both) { b.do(startOf(b.m.epoch, 1)) },
		func(b both) { b.do(startOf(b.m.epoch+2, maxAddr)) },
		func(b both) { b.do(nextOf(b.m.epoch)) },
		func(b both) { b.do(tailOf(b.m.epoch)) },
	}
	const steps = 5
	ways := 1
	for range steps {
		ways *= len(deeds)
	}
	for way := range ways {
		b := made(t)
		for range steps {
			deeds[way%len(deeds)](b)
			way /= len(deeds)
		}
		b.crash()
		b.do(startOf(b.m.epoch+1, 6))
		b.do(nextOf(b.m.epoch))
	}
}
