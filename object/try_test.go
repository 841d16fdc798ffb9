package object_test

import (
	"errors"
	"fmt"
	"testing"

	"tenon/api"
	"tenon/object"
	"tenon/sample"
)

type (
	goLike   struct{}              // an error that has RuntimeError
	goTwin   struct{ api.Errno }   // an Errno within, and RuntimeError: Go's kind counts
	noError  struct{}              // has RuntimeError, but is no error
	wordy    string                // a text of another type
	wordyErr string                // a text that is an error
	numbered int                   // a number as an Errno is one, but of another type
	wrapped  struct{ of error }    // an error around another one
	strange  struct{ f func(any) } // can't be compared
)

func (goLike) Error() string      { panic("not to be called") }
func (goLike) RuntimeError()      { panic("not to be called") }
func (goTwin) RuntimeError()      {}
func (noError) RuntimeError()     {}
func (wordyErr) Error() string    { panic("not to be called") }
func (w wrapped) Error() string   { return w.of.Error() }
func (w wrapped) Unwrap() error   { return w.of }
func (strange) RuntimeError() int { return 0 }

// P10.5, example 4: what a function panics with is told.
func TestTry(t *testing.T) {
	var list []int
	var none map[string]int
	var nobody *sharp
	var any0 any
	var errno0 *api.Errno
	full := api.ErrFull
	zero := 0
	for i, x := range []struct {
		does func()
		kind int
		e    api.Errno
	}{
		{nil, api.NoPanic, api.ErrArg},
		{func() {}, api.NoPanic, api.OK},
		{func() { list[3]++ }, api.RuntimePanic, api.ErrPanic}, {func() { none["a"] = 1 }, api.RuntimePanic, api.ErrPanic}, {func() { nobody.N++ }, api.RuntimePanic, api.ErrPanic}, {func() { zero = 1 / zero }, api.RuntimePanic, api.ErrPanic}, {func() { _ = any0.(string) }, api.RuntimePanic, api.ErrPanic},
		{func() { panic(nil) }, api.RuntimePanic, api.ErrPanic}, {func() { panic(goLike{}) }, api.RuntimePanic, api.ErrPanic}, {func() { panic(&goLike{}) }, api.RuntimePanic, api.ErrPanic}, {func() { panic(goTwin{api.ErrFull}) }, api.RuntimePanic, api.ErrPanic}, {func() { object.Must[int](nil) }, api.RuntimePanic, api.ErrPanic},
		{func() { panic(api.ErrFull) }, api.ErrnoPanic, api.ErrFull}, {func() { panic(api.OK) }, api.ErrnoPanic, api.OK}, {func() { panic(api.ErrPanic) }, api.ErrnoPanic, api.ErrPanic}, {func() { panic(api.ErrArg) }, api.ErrnoPanic, api.ErrArg}, {func() { panic(api.Errno(-5)) }, api.ErrnoPanic, -5}, {func() { panic(api.Errno(123456)) }, api.ErrnoPanic, 123456}, {func() { panic(error(api.ErrLack)) }, api.ErrnoPanic, api.ErrLack},
		{func() { panic(errors.New("x")) }, api.ErrorPanic, api.ErrPanic}, {func() { panic(wrapped{api.ErrFull}) }, api.ErrorPanic, api.ErrPanic}, {func() { panic(fmt.Errorf("so: %w", api.ErrFull)) }, api.ErrorPanic, api.ErrPanic}, {func() { panic(&full) }, api.ErrorPanic, api.ErrPanic}, {func() { panic(errno0) }, api.ErrorPanic, api.ErrPanic}, {func() { panic(wordyErr("x")) }, api.ErrorPanic, api.ErrPanic}, {func() { panic(struct{ error }{}) }, api.ErrorPanic, api.ErrPanic},
		{func() { panic("x") }, api.TextPanic, api.ErrPanic}, {func() { panic("") }, api.TextPanic, api.ErrPanic},
		{func() { panic(7) }, api.OtherPanic, api.ErrPanic}, {func() { panic(0) }, api.OtherPanic, api.ErrPanic}, {func() { panic(noError{}) }, api.OtherPanic, api.ErrPanic}, {func() { panic(wordy("x")) }, api.OtherPanic, api.ErrPanic}, {func() { panic(numbered(50)) }, api.OtherPanic, api.ErrPanic}, {func() { panic([]byte("x")) }, api.OtherPanic, api.ErrPanic}, {func() { panic(strange{}) }, api.OtherPanic, api.ErrPanic}, {func() { panic(func() {}) }, api.OtherPanic, api.ErrPanic}, {func() { panic(sample.Nobody()) }, api.OtherPanic, api.ErrPanic}, {func() { panic(&any0) }, api.OtherPanic, api.ErrPanic},
	} {
		if kind, e := object.Try(x.does); kind != x.kind || e != x.e {
			t.Errorf("%d: %d, %d, want %d, %d", i, kind, e, x.kind, x.e)
		}
	}
}

// P10.5: the function is called once; what it had done by then stays; a panic that it catches itself is none, and the last of several counts.
func TestTryCalls(t *testing.T) {
	n := 0
	for i, x := range []struct {
		does func()
		kind int
		e    api.Errno
	}{
		{func() { n++ }, api.NoPanic, api.OK}, {func() { n++; panic(1) }, api.OtherPanic, api.ErrPanic}, {func() { defer func() { n++ }(); panic("x") }, api.TextPanic, api.ErrPanic},
		{func() { defer func() { recover(); n++ }(); panic("x") }, api.NoPanic, api.OK}, {func() { defer func() { n++; panic(api.ErrName) }(); panic("x") }, api.ErrnoPanic, api.ErrName}, {func() { defer func() { n++; recover(); panic(errors.New("x")) }(); panic("x") }, api.ErrorPanic, api.ErrPanic},
		{func() {
			kind, e := object.Try(func() { n++; panic(api.ErrFull) })
			if kind != api.ErrnoPanic {
				t.Error(kind)
			}
			panic(e)
		}, api.ErrnoPanic, api.ErrFull},
	} {
		n = 0
		if kind, e := object.Try(x.does); kind != x.kind || e != x.e || n != 1 {
			t.Errorf("%d: %d, %d, called %d times; want %d, %d", i, kind, e, n, x.kind, x.e)
		}
	}
}
