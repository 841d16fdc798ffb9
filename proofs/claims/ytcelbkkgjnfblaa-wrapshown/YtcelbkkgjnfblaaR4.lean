/- Closed facts on the types of this translation, and what a type assertion gives at them. -/
import Derived.Test.YtcelbkkgjnfblaaProg
import Derived.Test.YtcelbkkgjnfblaaR3
import Derived.WalkKit
import Derived.WalkSpells
import Derived.WalkLawsBesides
namespace Go.Proofs.Ytcelbkkgjnfblaa
open Go.RowKit

theorem ta_of (P : Program) {A : TypeId} {d : TypeDesc} {z : Value} (hd : P.underlying A = some d) (hi : ∀ m, d ≠ .interface m) (T xT : TypeId) (v : Value) (w : World) (hz : (zeroValue A).run P w = .ok z w) :
    (Instr.typeAssert (.iface T v) xT A true).run P w = .ok (if T = A then .tuple #[v, .bool true] else .tuple #[z, .bool false]) w := by
  by_cases h : T = A
  · cases d <;> simp_all [Instr.typeAssert, run_underlying hd, go_sem, Result.andThen]
  · cases d <;> simp_all [Instr.typeAssert, run_underlying hd, go_sem, Result.andThen]
@[go_sem] theorem ta_bool (T : TypeId) (v : Value) (w : World) : (Instr.typeAssert (.iface T v) 20 4 true).run Try.prog w = .ok (if T = 4 then .tuple #[v, .bool true] else .tuple #[.bool false, .bool false]) w :=
  ta_of Try.prog (d := .bool) (by kernel_rfl) (by simp) T _ v w (by kernel_rfl)
@[go_sem] theorem tn_bool (w : World) : (Instr.typeAssert .nilIface 20 4 true).run Try.prog w = .ok (.tuple #[.bool false, .bool false]) w := by kernel_rfl
@[go_sem] theorem ta_int64 (T : TypeId) (v : Value) (w : World) : (Instr.typeAssert (.iface T v) 20 2 true).run Try.prog w = .ok (if T = 2 then .tuple #[v, .bool true] else .tuple #[.int .i64 0, .bool false]) w :=
  ta_of Try.prog (d := .int .i64) (by kernel_rfl) (by simp) T _ v w (by kernel_rfl)
@[go_sem] theorem tn_int64 (w : World) : (Instr.typeAssert .nilIface 20 2 true).run Try.prog w = .ok (.tuple #[.int .i64 0, .bool false]) w := by kernel_rfl
@[go_sem] theorem ta_float (T : TypeId) (v : Value) (w : World) : (Instr.typeAssert (.iface T v) 20 259 true).run Try.prog w = .ok (if T = 259 then .tuple #[v, .bool true] else .tuple #[.float .f64 0, .bool false]) w :=
  ta_of Try.prog (d := .float .f64) (by kernel_rfl) (by simp) T _ v w (by kernel_rfl)
@[go_sem] theorem tn_float (w : World) : (Instr.typeAssert .nilIface 20 259 true).run Try.prog w = .ok (.tuple #[.float .f64 0, .bool false]) w := by kernel_rfl
@[go_sem] theorem ta_string (T : TypeId) (v : Value) (w : World) : (Instr.typeAssert (.iface T v) 20 9 true).run Try.prog w = .ok (if T = 9 then .tuple #[v, .bool true] else .tuple #[.string ByteArray.empty, .bool false]) w :=
  ta_of Try.prog (d := .string) (by kernel_rfl) (by simp) T _ v w (by kernel_rfl)
@[go_sem] theorem tn_string (w : World) : (Instr.typeAssert .nilIface 20 9 true).run Try.prog w = .ok (.tuple #[.string ByteArray.empty, .bool false]) w := by kernel_rfl
@[go_sem] theorem ta_bytes (T : TypeId) (v : Value) (w : World) : (Instr.typeAssert (.iface T v) 20 260 true).run Try.prog w = .ok (if T = 260 then .tuple #[v, .bool true] else .tuple #[.slice none 0 0, .bool false]) w :=
  ta_of Try.prog (d := .slice 5) (by kernel_rfl) (by simp) T _ v w (by kernel_rfl)
@[go_sem] theorem tn_bytes (w : World) : (Instr.typeAssert .nilIface 20 260 true).run Try.prog w = .ok (.tuple #[.slice none 0 0, .bool false]) w := by kernel_rfl
@[go_sem] theorem ta_ref (T : TypeId) (v : Value) (w : World) : (Instr.typeAssert (.iface T v) 20 23 true).run Try.prog w = .ok (if T = 23 then .tuple #[v, .bool true] else .tuple #[.int .u64 0, .bool false]) w :=
  ta_of Try.prog (d := .int .u64) (by kernel_rfl) (by simp) T _ v w (by kernel_rfl)
@[go_sem] theorem tn_ref (w : World) : (Instr.typeAssert .nilIface 20 23 true).run Try.prog w = .ok (.tuple #[.int .u64 0, .bool false]) w := by kernel_rfl
@[go_sem] theorem ta_dict (T : TypeId) (v : Value) (w : World) : (Instr.typeAssert (.iface T v) 20 272 true).run Try.prog w = .ok (if T = 272 then .tuple #[v, .bool true] else .tuple #[.slice none 0 0, .bool false]) w :=
  ta_of Try.prog (d := .slice 278) (by kernel_rfl) (by simp) T _ v w (by kernel_rfl)
@[go_sem] theorem tn_dict (w : World) : (Instr.typeAssert .nilIface 20 272 true).run Try.prog w = .ok (.tuple #[.slice none 0 0, .bool false]) w := by kernel_rfl
@[go_sem] theorem tb_bool (v : Value) (w : World) : (Instr.typeAssert (.iface 4 v) 20 4 false).run Try.prog w = .ok v w := by kernel_rfl
@[go_sem] theorem tb_int64 (v : Value) (w : World) : (Instr.typeAssert (.iface 2 v) 20 2 false).run Try.prog w = .ok v w := by kernel_rfl
@[go_sem] theorem tb_float (v : Value) (w : World) : (Instr.typeAssert (.iface 259 v) 20 259 false).run Try.prog w = .ok v w := by kernel_rfl
@[go_sem] theorem tb_string (v : Value) (w : World) : (Instr.typeAssert (.iface 9 v) 20 9 false).run Try.prog w = .ok v w := by kernel_rfl
@[go_sem] theorem tb_bytes (v : Value) (w : World) : (Instr.typeAssert (.iface 260 v) 20 260 false).run Try.prog w = .ok v w := by kernel_rfl
@[go_sem] theorem tb_ref (v : Value) (w : World) : (Instr.typeAssert (.iface 23 v) 20 23 false).run Try.prog w = .ok v w := by kernel_rfl
@[go_sem] theorem tb_dict (v : Value) (w : World) : (Instr.typeAssert (.iface 272 v) 20 272 false).run Try.prog w = .ok v w := by kernel_rfl
end Go.Proofs.Ytcelbkkgjnfblaa

