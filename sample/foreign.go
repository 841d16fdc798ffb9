package sample

import (
	"strings"

	"tenon/api"
)

// Sharp and Blunt are objects with all abilities, of which a nil pointer is something, too: Sharp's methods use it, so that they panic if it is nil; Blunt's do not.
type (
	Sharp struct{ N int }
	Blunt struct{}
)

func (s *Sharp) ID() api.Ref                 { return api.Ref(s.N) }
func (s *Sharp) Get(name string) (any, bool) { return int64(s.N), true }
func (s *Sharp) Class() string               { return "c" + strings.Repeat("c", s.N) }
func (s *Sharp) Version() int                { return s.N }
func (s *Sharp) Keys() []any                 { return []any{int64(s.N)} }
func (s *Sharp) Owner() string               { return "o" + strings.Repeat("o", s.N) }
func (s *Sharp) Give(to string) api.Errno    { s.N = len(to); return api.OK }
func (s *Sharp) Loaded() bool                { return s.N > 0 }
func (s *Sharp) Load() api.Errno             { s.N++; return api.OK }

func (b *Blunt) ID() api.Ref                 { return 9 }
func (b *Blunt) Get(name string) (any, bool) { return name, true }
func (b *Blunt) Class() string               { return "blunt" }
func (b *Blunt) Version() int                { return 2 }
func (b *Blunt) Keys() []any                 { return nil }
func (b *Blunt) Owner() string               { return "nobody" }
func (b *Blunt) Give(to string) api.Errno    { return api.ErrFull }
func (b *Blunt) Loaded() bool                { return false }
func (b *Blunt) Load() api.Errno             { return api.OK }
