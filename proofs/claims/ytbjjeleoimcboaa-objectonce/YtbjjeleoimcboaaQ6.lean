/- tenonref10.Fit, Nil; tenonmake.Object: what objects are made of descriptions. -/
import Derived.Test.YtbjjeleoimcboaaQ5
import Derived.Test.YtbjjeleoimcboaaQ4
namespace Go.Proofs.Ytbjjeleoimcboaa
open Go.RowKit

/-- a description's cells: what it holds, which abilities, which shape; the rest is kept as it is -/
structure Sr where
  (id : Int) (fa : Option Addr) (fl fc : Nat) (cl : ByteArray) (ve : Int) (ka : Option Addr) (kl kc : Nat) (ow : ByteArray) (gv : Int) (ld : Bool) (lo : Int) (pa wi : Int)
def Sr.cs (r : Sr) (h n sh : Int) : Array Value := #[.int .i64 h, .int .i64 n, .int .i64 sh, .int .u64 r.id, .slice r.fa r.fl r.fc, .string r.cl, .int .i64 r.ve, .slice r.ka r.kl r.kc, .string r.ow, .int .i64 r.gv, .bool r.ld, .int .i64 r.lo, .int .i64 r.pa, .int .i64 r.wi]

/-- a number made to fit below m -/
def fitM (m h : Int) : Int := (wrap64 (h.tmod m + m)).tmod m
theorem fit_eq (m h : Int) (hm : 0 < m) (hm2 : m ≤ 16) : (0 ≤ (wrap64 (h.tmod m + m)).tmod m ∧ (wrap64 (h.tmod m + m)).tmod m < m) ∧ (0 ≤ h → h < m → (wrap64 (h.tmod m + m)).tmod m = h) := by
  have h1 : h.tmod m < m := Int.tmod_lt_of_pos h hm
  have h2 : -m < h.tmod m := Int.lt_tmod_of_pos h hm
  have h3 : wrap64 (h.tmod m + m) = h.tmod m + m := by unfold wrap64; omega
  rw [h3]
  have h4 : 0 ≤ h.tmod m + m := by omega
  rw [Int.tmod_eq_emod_of_nonneg h4]
  refine ⟨⟨Int.emod_nonneg _ (by omega), Int.emod_lt_of_pos _ hm⟩, fun a b => ?_⟩
  rw [Int.tmod_eq_of_lt a b, Int.add_emod_right]
  exact Int.emod_eq_of_lt a b

set_option maxRecDepth 100000 in
set_option maxHeartbeats 1000000 in
theorem Fit_any (r : Sr) (h n sh : Int) (w : World) :
    Calls Try.prog 23 #[.agg (r.cs h n sh)] w fun e w' => e = .returned (.agg (r.cs (fitM 4 h) (fitM 16 n) sh)) ∧ Below w.heap.size w w' := by
  unfold Sr.cs
  go_enter Try.func23, Try.ntmps23
  go_wp2_with fail
  refine bodyPost_ret (v := .agg #[.int .i64 ((wrap64 (h.tmod 4 + 4)).tmod 4), .int .i64 ((wrap64 (n.tmod 16 + 16)).tmod 16), .int .i64 sh, .int .u64 r.id, .slice r.fa r.fl r.fc, .string r.cl, .int .i64 r.ve, .slice r.ka r.kl r.kc, .string r.ow, .int .i64 r.gv, .bool r.ld, .int .i64 r.lo, .int .i64 r.pa, .int .i64 r.wi]) (by simp [results, Try.results23, go_sem] <;> rfl) rfl ?_
  exact ⟨rfl, ((Below.refl _ _).alloc (Nat.le_refl _) _).alloc (by simp) _⟩
theorem fitM_eq (m h : Int) (hm : 0 < m) (hm2 : m ≤ 16) : (0 ≤ fitM m h ∧ fitM m h < m) ∧ (0 ≤ h → h < m → fitM m h = h) := fit_eq m h hm hm2
end Go.Proofs.Ytbjjeleoimcboaa

/- tenonmake.pointer: a new object of the type that has just the abilities. -/
namespace Go.Proofs.Ytbjjeleoimcboaa
open Go.RowKit

end Go.Proofs.Ytbjjeleoimcboaa

/- tenonmake.value: likewise, of a struct's type. -/
namespace Go.Proofs.Ytbjjeleoimcboaa
open Go.RowKit

end Go.Proofs.Ytbjjeleoimcboaa

/- tenonmake.foreign: a nil pointer of the type. -/
namespace Go.Proofs.Ytbjjeleoimcboaa
open Go.RowKit

end Go.Proofs.Ytbjjeleoimcboaa

/- tenonmake.Object and tenonlaw10.made: an object of a description. -/
namespace Go.Proofs.Ytbjjeleoimcboaa
open Go.RowKit

def zs : Array Value := #[.int .i64 0, .int .i64 0, .int .i64 0, .int .i64 0, .int .i64 0, .int .i64 0, .int .i64 0, .int .i64 0, .int .i64 0]

/-- what stands behind an object of a description -/
def Core (r : Sr) (h : Int) (n : Nat) (sh : Int) (b : Nat) (w : World) : Prop := w.heap[b]? = some (.cells (r.cs h n sh ++ zs) 45)

theorem core_al (r : Sr) (h : Int) (n : Nat) (sh : Int) (w : World) (o : Obj) : Core r h n sh (w.heap.size + 1) ((w.alloc o).alloc (.cells (r.cs h n sh ++ zs) 45)) := al2_new _ _ _

/-- what Object hands back -/
def ObjE (r : Sr) (h : Int) (n : Nat) (sh : Int) (w : World) (e : Ending) (w' : World) : Prop :=
  ∃ T v, e = .returned (.tuple #[.iface T v, .pointer (some ⟨w.heap.size + 1, 0, none⟩)]) ∧ Ab T n ∧ T ≠ 55 ∧ Below w.heap.size w w' ∧ Core r h n sh (w.heap.size + 1) w'

theorem and_no (n : Nat) (hn : n < 16) (k : Nat) (h : n ≠ k) : (bits BinOp.and IntKind.i64 (n : Int) 15 == (k : Int)) = false := by
  have e : ∀ m : Nat, m < 16 → bits BinOp.and IntKind.i64 (m : Int) 15 = (m : Int) := by decide +kernel
  rw [e n hn]
  simp only [beq_eq_false_iff_ne, ne_eq, Int.natCast_inj]
  exact h

set_option maxRecDepth 100000 in
set_option maxHeartbeats 2000000 in
theorem mk_value_15s (b : Nat) (w : World) (hc : w.cell? ⟨b, 1, none⟩ = some (.int .i64 15)) :
    Calls Try.prog 38 #[.pointer (some ⟨b, 0, none⟩)] w fun e w' => e = .returned (.iface 109 (.agg #[.pointer (some ⟨b, 0, none⟩), .pointer (some ⟨b, 0, none⟩), .pointer (some ⟨b, 0, none⟩), .pointer (some ⟨b, 0, none⟩), .pointer (some ⟨b, 0, none⟩)])) ∧ w = w' := by
  go_enter Try.func38, Try.ntmps38
  go_wp2_with fail
  go_ret
  exact ⟨rfl, rfl⟩

end Go.Proofs.Ytbjjeleoimcboaa

