package object

import "tenon/api"

// goError is what Go itself panics with.
type goError interface {
	error
	RuntimeError()
}

// caught calls a function, and tells what it panicked with.
func caught(does func()) (kind int, e api.Errno) {
	kind, e = api.RuntimePanic, api.ErrPanic // of a nil: Go may be set so that recover tells nothing of it
	defer func() {
		switch thrown := recover().(type) {
		case nil:
		case goError:
			kind, e = api.RuntimePanic, api.ErrPanic
		case api.Errno:
			kind, e = api.ErrnoPanic, thrown
		case error:
			kind, e = api.ErrorPanic, api.ErrPanic
		case string:
			kind, e = api.TextPanic, api.ErrPanic
		default:
			kind, e = api.OtherPanic, api.ErrPanic
		}
	}()
	does()
	return api.NoPanic, api.OK
}

// safely calls methods of an object: OK, or ErrPanic, whatever one panicked with (an Errno of 0 among that).
func safely(calls func()) api.Errno {
	if kind, _ := caught(calls); kind != api.NoPanic {
		return api.ErrPanic
	}
	return api.OK
}

// answered is what methods of an object answer, whatever number it is, or ErrPanic.
func answered(calls func() api.Errno) api.Errno {
	var answer api.Errno
	if e := safely(func() { answer = calls() }); e != api.OK {
		return e
	}
	return answer
}
