/- Which abilities an object's type has, by assertion: of a Thing, and of the types of which objects are made. -/
import Derived.Test.YtjlhmgopmdcopaaGreatKI21
import Derived.Test.YtjlhmgopmdcopaaGreatKI3
namespace Go.Proofs.YtjlhmgopmdcopaaGreat
open Go.RowKit

section
variable {P : Program} {w : World} {t xT asserted : TypeId} {v : Value} {want : Array (String × TypeId)} {i : TypeInfo}
theorem run_must_has (hu : P.underlying asserted = some (.interface want)) (h : (P.info? t).map (fun i => (lacking want i.methods).isEmpty) = some true) (v : Value) (xT : TypeId) (w : World) :
    (Instr.typeAssert (.iface t v) xT asserted false).run P w = .ok (.iface t v) w := by
  obtain ⟨i, hi, hl⟩ := Option.map_eq_some_iff.1 h
  simp [Instr.typeAssert, run_underlying hu, typeInfo, hi, missingMethod_none (List.isEmpty_iff.1 hl)]
end

theorem run_must_lacks {t xT asserted : TypeId} {want : Array (String × TypeId)} (hu : Tryz.prog.underlying asserted = some (.interface want)) (h : (Tryz.prog.info? t).map (fun i => (lacking want i.methods).isEmpty) = some false) (v : Value) (w : World) :
    ∃ o, (Instr.typeAssert (.iface t v) xT asserted false).run Tryz.prog w = .halt (.panic (.iface 15 (.pointer (some ⟨w.heap.size, 0, none⟩)))) (w.alloc o) := by
  obtain ⟨i, hi, hl⟩ := Option.map_eq_some_iff.1 h
  obtain ⟨m, hm⟩ := missingMethod_some (want := want) (got := i.methods) (fun e => by rw [e] at hl; cases hl)
  have he : ∀ W, Sem.run Tryz.prog (elemOf 15) W = .ok 199 W := fun W => by kernel_rfl
  simp [Instr.typeAssert, run_underlying hu, typeInfo, hi, hm, runtimePanic, goPanic, go_sem, he]
  exact ⟨_, rfl⟩

/-- What the two-valued assertion to I tells of the type T. -/
def As2 (T I : Nat) (b : Bool) : Prop := ∀ v xT w, (Instr.typeAssert (.iface T v) xT I true).run Tryz.prog w = .ok (.tuple #[if b then .iface T v else .nilIface, .bool b]) w
/-- What the panicking assertion to I does. -/
def As1 (T I : Nat) (b : Bool) : Prop := ∀ v xT w, if b then (Instr.typeAssert (.iface T v) xT I false).run Tryz.prog w = .ok (.iface T v) w else ∃ o, (Instr.typeAssert (.iface T v) xT I false).run Tryz.prog w = .halt (.panic (.iface 15 (.pointer (some ⟨w.heap.size, 0, none⟩)))) (w.alloc o)

theorem As2.yes {T I : Nat} {want : Array (String × TypeId)} (hu : Tryz.prog.underlying I = some (.interface want)) (h : (Tryz.prog.info? T).map (fun i => (lacking want i.methods).isEmpty) = some true) : As2 T I true := fun v xT w => run_typeAssert_hasB hu h v xT w
theorem As2.no {T I : Nat} {want : Array (String × TypeId)} (hu : Tryz.prog.underlying I = some (.interface want)) (h : (Tryz.prog.info? T).map (fun i => (lacking want i.methods).isEmpty) = some false) (hz : (Tryz.prog.info? I).map (·.zero) = some (some .nilIface)) : As2 T I false := fun v xT w => run_typeAssert_lacksB hu h hz v xT w
theorem As1.yes {T I : Nat} {want : Array (String × TypeId)} (hu : Tryz.prog.underlying I = some (.interface want)) (h : (Tryz.prog.info? T).map (fun i => (lacking want i.methods).isEmpty) = some true) : As1 T I true := fun v xT w => run_must_has hu h v xT w
theorem As1.no {T I : Nat} {want : Array (String × TypeId)} (hu : Tryz.prog.underlying I = some (.interface want)) (h : (Tryz.prog.info? T).map (fun i => (lacking want i.methods).isEmpty) = some false) : As1 T I false := fun v _ w => run_must_lacks hu h v w

/-- The type T has the abilities of the number n, and is an object's. -/
structure Ab (T n : Nat) : Prop where
  v2 : As2 T 103 (n.testBit 0)
  i2 : As2 T 106 (n.testBit 1)
  o2 : As2 T 109 (n.testBit 2)
  l2 : As2 T 76 (n.testBit 3)
  v1 : As1 T 103 (n.testBit 0)
  i1 : As1 T 106 (n.testBit 1)
  o1 : As1 T 109 (n.testBit 2)
  l1 : As1 T 76 (n.testBit 3)
  ob : As2 T 73 true

theorem ta_thing (T xT : TypeId) (v : Value) (w : World) : (Instr.typeAssert (.iface T v) xT 68 true).run Tryz.prog w = .ok (if T = 68 then .tuple #[v, .bool true] else .tuple #[.pointer none, .bool false]) w :=
  ta_of Tryz.prog (d := .pointer 128) (by kernel_rfl) (by simp) T _ v w (by kernel_rfl)
end Go.Proofs.YtjlhmgopmdcopaaGreat

/- object.holds, as, As, must, Must and Abilities, of objects whose type's abilities are known. -/
namespace Go.Proofs.YtjlhmgopmdcopaaGreat
open Go.RowKit

theorem eqn_obj (T : Nat) (v : Value) (w : World) : (binOp .eql 73 (.iface T v) .nilIface).run Tryz.prog w = .ok (.bool false) w := by kernel_rfl
theorem eqng_obj (T : Nat) (v : Value) (x y : Operand) (w : World) : (eqGuard .eql 73 x y (.iface T v) .nilIface).run Tryz.prog w = .ok () w := by kernel_rfl

set_option maxRecDepth 100000 in
set_option maxHeartbeats 1000000 in
theorem holds_thing (a : Addr) (w : World) :
    Calls Tryz.prog 24 #[.iface 68 (.pointer (some a))] w fun e w' => e = .returned (.int .i64 0) ∧ w = w' := by
  have hq := eqn_obj
  have hg := eqng_obj
  have ht : ∀ xT W, (Instr.typeAssert (.iface 68 (.pointer (some a))) xT 68 true).run Tryz.prog W = .ok (.tuple #[.pointer (some a), .bool true]) W := fun xT W => by rw [ta_thing]; rfl
  go_enter Tryz.func24, Tryz.ntmps24
  go_wp2_with fail
  go_ret
  exact ⟨rfl, rfl⟩

set_option maxRecDepth 100000 in
set_option maxHeartbeats 1000000 in
theorem holds_other (T : Nat) (hT : T ≠ 68) (v : Value) (w : World) :
    Calls Tryz.prog 24 #[.iface T v] w fun e w' => e = .returned (.int .i64 0) ∧ w = w' := by
  have hq := eqn_obj
  have hg := eqng_obj
  have ht : ∀ xT W, (Instr.typeAssert (.iface T v) xT 68 true).run Tryz.prog W = .ok (.tuple #[.pointer none, .bool false]) W := fun xT W => by rw [ta_thing, if_neg hT]
  clear hT
  go_enter Tryz.func24, Tryz.ntmps24
  go_wp2_with fail
  go_ret
  exact ⟨rfl, rfl⟩

/-- o is Something: a Thing that is there, or of another type. -/
def Sm (T : Nat) (v : Value) : Prop := (T = 68 ∧ ∃ a, v = .pointer (some a)) ∨ T ≠ 68
theorem holds_sm {T : Nat} {v : Value} (h : Sm T v) (w : World) : Calls Tryz.prog 24 #[.iface T v] w fun e w' => e = .returned (.int .i64 0) ∧ w = w' := by
  rcases h with ⟨rfl, a, rfl⟩ | h
  · exact holds_thing a w
  · exact holds_other T h v w

set_option maxRecDepth 100000 in
set_option maxHeartbeats 1000000 in
theorem as_Versioned {T n : Nat} (h : Ab T n) (v : Value) (w : World) :
    Calls Tryz.prog 56 #[.iface T v] w fun e w' => e = .returned (.tuple #[if n.testBit 0 then .iface T v else .nilIface, .bool (n.testBit 0)]) ∧ w = w' := by
  have h2 := h.v2
  unfold As2 at h2
  generalize hb : (n.testBit 0) = b at h2
  clear hb h
  cases b
  · simp only [Bool.false_eq_true, if_false] at h2 ⊢
    go_enter Tryz.func56, Tryz.ntmps56
    go_wp2_with fail
    go_ret2
    exact ⟨rfl, rfl⟩
  · simp only [if_true] at h2 ⊢
    go_enter Tryz.func56, Tryz.ntmps56
    go_wp2_with fail
    go_ret2
    exact ⟨rfl, rfl⟩

set_option maxRecDepth 100000 in
set_option maxHeartbeats 1000000 in
theorem as_Lazy {T n : Nat} (h : Ab T n) (v : Value) (w : World) :
    Calls Tryz.prog 26 #[.iface T v] w fun e w' => e = .returned (.tuple #[if n.testBit 3 then .iface T v else .nilIface, .bool (n.testBit 3)]) ∧ w = w' := by
  have h2 := h.l2
  unfold As2 at h2
  generalize hb : (n.testBit 3) = b at h2
  clear hb h
  cases b
  · simp only [Bool.false_eq_true, if_false] at h2 ⊢
    go_enter Tryz.func26, Tryz.ntmps26
    go_wp2_with fail
    go_ret2
    exact ⟨rfl, rfl⟩
  · simp only [if_true] at h2 ⊢
    go_enter Tryz.func26, Tryz.ntmps26
    go_wp2_with fail
    go_ret2
    exact ⟨rfl, rfl⟩

/-- How a panicking assertion ends: kind 0, or Go's own panic. -/
def MustE : Bool → Value → World → Ending → World → Prop
  | true, x, w, e, w' => e = .returned x ∧ w = w'
  | false, _, w, e, w' => ∃ v, e = .panicked [{ v := v, recovered := false }] ∧ Kd v 1 9 ∧ Below w.heap.size w w'

def addUp (b0 b1 b2 b3 : Bool) : Int := (if b0 then 1 else 0) + (if b1 then 2 else 0) + (if b2 then 4 else 0) + (if b3 then 8 else 0)
set_option maxRecDepth 100000 in
set_option maxHeartbeats 1000000 in
theorem abilitiesOf_bt {T n : Nat} (h : Ab T n) (v : Value) (w : World) :
    Calls Tryz.prog 25 #[.iface T v] w fun e w' => e = .returned (.int .i64 (addUp (n.testBit 0) (n.testBit 1) (n.testBit 2) (n.testBit 3))) ∧ w = w' := by
  have h0 := h.v2
  have h1 := h.i2
  have h2 := h.o2
  have h3 := h.l2
  unfold As2 at h0 h1 h2 h3
  generalize (n.testBit 0) = b0 at h0 ⊢
  generalize (n.testBit 1) = b1 at h1 ⊢
  generalize (n.testBit 2) = b2 at h2 ⊢
  generalize (n.testBit 3) = b3 at h3 ⊢
  clear h
  cases b0 <;> cases b1 <;> cases b2 <;> cases b3 <;> (
    simp only [Bool.false_eq_true, if_false, if_true] at h0 h1 h2 h3
    go_enter Tryz.func25, Tryz.ntmps25
    go_wp2_with fail
    go_ret
    exact ⟨rfl, rfl⟩)

set_option maxRecDepth 100000 in
set_option maxHeartbeats 1000000 in
theorem Abilities_bt {T n : Nat} (h : Ab T n) {v : Value} (hs : Sm T v) (w : World) :
    Calls Tryz.prog 9 #[.iface T v] w fun e w' => e = .returned (.tuple #[.int .i64 (addUp (n.testBit 0) (n.testBit 1) (n.testBit 2) (n.testBit 3)), .int .i64 0]) ∧ w = w' := by
  have HA : Hid (∀ W, Calls Tryz.prog 25 #[.iface T v] W fun e w' => e = .returned (.int .i64 (addUp (n.testBit 0) (n.testBit 1) (n.testBit 2) (n.testBit 3))) ∧ W = w') := fun W => abilitiesOf_bt h v W
  have HS : Hid (∀ W, Calls Tryz.prog 24 #[.iface T v] W fun e w' => e = .returned (.int .i64 0) ∧ W = w') := fun W => holds_sm hs W
  generalize addUp (n.testBit 0) (n.testBit 1) (n.testBit 2) (n.testBit 3) = k at HA ⊢
  clear h hs
  go_enter Tryz.func9, Tryz.ntmps9
  go_wp2_with (first | (go_at_call 24; refine (HS.out _).mono ?_; rintro e w' ⟨rfl, rfl⟩) | (go_at_call 25; refine (HA.out _).mono ?_; rintro e w' ⟨rfl, rfl⟩))
  go_ret2
  exact ⟨rfl, rfl⟩

end Go.Proofs.YtjlhmgopmdcopaaGreat

/- tenonref10.Fit, Nil; tenonmake.Object: what objects are made of descriptions. -/
namespace Go.Proofs.YtjlhmgopmdcopaaGreat
open Go.RowKit

/-- a description's cells: what it holds, which abilities, which shape; the rest is kept as it is -/
structure Sr where
  (id : Int) (fa : Option Addr) (fl fc : Nat) (cl : ByteArray) (ve : Int) (ka : Option Addr) (kl kc : Nat) (ow : ByteArray) (gv : Int) (ld : Bool) (lo : Int) (pa wi : Int)
def Sr.cs (r : Sr) (h n sh : Int) : Array Value := #[.int .i64 h, .int .i64 n, .int .i64 sh, .int .u64 r.id, .slice r.fa r.fl r.fc, .string r.cl, .int .i64 r.ve, .slice r.ka r.kl r.kc, .string r.ow, .int .i64 r.gv, .bool r.ld, .int .i64 r.lo, .int .i64 r.pa, .int .i64 r.wi]

/-- a number made to fit below m -/
def fitM (m h : Int) : Int := (wrap64 (h.tmod m + m)).tmod m
end Go.Proofs.YtjlhmgopmdcopaaGreat

/- tenonmake.pointer: a new object of the type that has just the abilities. -/
namespace Go.Proofs.YtjlhmgopmdcopaaGreat
open Go.RowKit

end Go.Proofs.YtjlhmgopmdcopaaGreat

/- tenonmake.value: likewise, of a struct's type. -/
namespace Go.Proofs.YtjlhmgopmdcopaaGreat
open Go.RowKit

end Go.Proofs.YtjlhmgopmdcopaaGreat

/- tenonmake.foreign: a nil pointer of the type. -/
namespace Go.Proofs.YtjlhmgopmdcopaaGreat
open Go.RowKit

end Go.Proofs.YtjlhmgopmdcopaaGreat

/- tenonmake.Object and tenonlaw10.made: an object of a description. -/
namespace Go.Proofs.YtjlhmgopmdcopaaGreat
open Go.RowKit

def zs : Array Value := #[.int .i64 0, .int .i64 0, .int .i64 0, .int .i64 0, .int .i64 0, .int .i64 0, .int .i64 0, .int .i64 0, .int .i64 0]

end Go.Proofs.YtjlhmgopmdcopaaGreat

