package sample

import (
	"errors"

	"tenon/api"
)

// Thrown is what functions panic with: nothing, texts, errors, Go's own errors among them, and what Go can't compare.
func Thrown() []any {
	return []any{1, "text", errors.New("error"), api.ErrArg, api.OK, nil, struct{}{}, func() {}, caught(func() { _ = []int{}[len(mark)] }), caught(func() { panic(nil) }), Nobody(), []byte{1}}
}

// caught is what a call panics with.
func caught(call func()) (thrown any) {
	defer func() { thrown = recover() }()
	call()
	return nil
}
