package tests

import (
	"math"
	"math/rand"
	"runtime"
	"slices"
	"sync"
	"testing"
	"time"
)

// filler is no bit and no element of a field, so that a stray read or write of it shows.
const filler = -77

// extremes are integers at which truncation and overflow show.
var extremes = []int64{
	math.MinInt64, math.MinInt64 + 1, math.MinInt32, -256, -1,
	math.MaxInt32, 1 << 32, 1<<32 + 1, 1 << 62, math.MaxInt64 - 1, math.MaxInt64,
}

// guarded is an argument with spare capacity, and a record of both.
type guarded struct {
	list  []int64
	whole []int64
	copy  []int64
}

func guard(values []int64) guarded {
	whole := slices.Concat(values, slices.Repeat([]int64{filler}, 64))
	return guarded{list: whole[:len(values)], whole: whole, copy: slices.Clone(whole)}
}

func (g guarded) check(t *testing.T, what string) {
	t.Helper()
	if !slices.Equal(g.whole, g.copy) {
		t.Fatal(what, "has changed an argument or the memory behind it")
	}
}

// scribble overwrites a result with all its capacity: what shares memory with it changes too.
func scribble(result []int64) {
	whole := result[:cap(result)]
	for i := range whole {
		whole[i] = filler - 1
	}
}

// unshared checks that the arguments are unchanged, that no result shares memory with them, and
// that no result shares memory with the result of an earlier call.
func unshared(t *testing.T, what string, call func() []int64, arguments ...guarded) {
	t.Helper()
	first := call()
	want := slices.Clone(first)
	scribble(first)
	second := call()
	if !slices.Equal(second, want) {
		t.Fatal(what, "has another result after the first one is overwritten")
	}
	scribble(first)
	if !slices.Equal(second, want) {
		t.Fatal(what, "has two results in the same memory")
	}
	scribble(second)
	for _, argument := range arguments {
		argument.check(t, what)
	}
}

// returns fails if a call panics.
func returns(t *testing.T, what string, call func()) {
	t.Helper()
	defer func() {
		t.Helper()
		if cause := recover(); cause != nil {
			t.Fatal(what, "panics:", cause)
		}
	}()
	call()
}

// answersStay fails if a call has another answer in another order of the calls, or beside others at
// the same time.
func answersStay(t *testing.T, source *rand.Rand, calls []func() string) {
	t.Helper()
	var first []string
	for _, call := range calls {
		first = append(first, call())
	}
	source.Shuffle(len(calls), func(i, j int) {
		calls[i], calls[j] = calls[j], calls[i]
		first[i], first[j] = first[j], first[i]
	})
	var together sync.WaitGroup
	for range 4 {
		together.Go(func() {
			for i, call := range calls {
				if again := call(); again != first[i] {
					t.Error("first", first[i], "and then", again)
				}
			}
		})
	}
	together.Wait()
}

// runsNoMore fails if more goroutines are left than there were before. One that has nothing more to
// do may take a moment to end.
func runsNoMore(t *testing.T, before int) {
	t.Helper()
	for range 2000 {
		if runtime.NumGoroutine() <= before {
			return
		}
		time.Sleep(time.Millisecond)
	}
	t.Error(runtime.NumGoroutine()-before, "goroutines are left")
}
