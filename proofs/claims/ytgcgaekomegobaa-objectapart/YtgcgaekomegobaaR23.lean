/- Which abilities an object's type has, by assertion: of a Thing, and of the types of which objects are made. -/
import Derived.Test.YtgcgaekomegobaaR21
import Derived.Test.YtgcgaekomegobaaR3
namespace Go.Proofs.Ytgcgaekomegobaa
open Go.RowKit

section
variable {P : Program} {w : World} {t xT asserted : TypeId} {v : Value} {want : Array (String × TypeId)} {i : TypeInfo}
theorem run_must_has (hu : P.underlying asserted = some (.interface want)) (h : (P.info? t).map (fun i => (lacking want i.methods).isEmpty) = some true) (v : Value) (xT : TypeId) (w : World) :
    (Instr.typeAssert (.iface t v) xT asserted false).run P w = .ok (.iface t v) w := by
  obtain ⟨i, hi, hl⟩ := Option.map_eq_some_iff.1 h
  simp [Instr.typeAssert, run_underlying hu, typeInfo, hi, missingMethod_none (List.isEmpty_iff.1 hl)]
end

theorem run_must_lacks {t xT asserted : TypeId} {want : Array (String × TypeId)} (hu : Try.prog.underlying asserted = some (.interface want)) (h : (Try.prog.info? t).map (fun i => (lacking want i.methods).isEmpty) = some false) (v : Value) (w : World) :
    ∃ o, (Instr.typeAssert (.iface t v) xT asserted false).run Try.prog w = .halt (.panic (.iface 15 (.pointer (some ⟨w.heap.size, 0, none⟩)))) (w.alloc o) := by
  obtain ⟨i, hi, hl⟩ := Option.map_eq_some_iff.1 h
  obtain ⟨m, hm⟩ := missingMethod_some (want := want) (got := i.methods) (fun e => by rw [e] at hl; cases hl)
  have he : ∀ W, Sem.run Try.prog (elemOf 15) W = .ok 142 W := fun W => by kernel_rfl
  simp [Instr.typeAssert, run_underlying hu, typeInfo, hi, hm, runtimePanic, goPanic, go_sem, he]
  exact ⟨_, rfl⟩

theorem Kd_ta (a : Addr) : Kd (.iface 15 (.pointer (some a))) 1 9 :=
  .inr ⟨⟨_, _, rfl⟩, .inl ⟨⟨_, fun W => run_typeAssert_hasB Try.underlying128 (by kernel_rfl) _ _ W⟩, rfl, rfl⟩⟩

/-- What the two-valued assertion to I tells of the type T. -/
def As2 (T I : Nat) (b : Bool) : Prop := ∀ v xT w, (Instr.typeAssert (.iface T v) xT I true).run Try.prog w = .ok (.tuple #[if b then .iface T v else .nilIface, .bool b]) w
/-- What the panicking assertion to I does. -/
def As1 (T I : Nat) (b : Bool) : Prop := ∀ v xT w, if b then (Instr.typeAssert (.iface T v) xT I false).run Try.prog w = .ok (.iface T v) w else ∃ o, (Instr.typeAssert (.iface T v) xT I false).run Try.prog w = .halt (.panic (.iface 15 (.pointer (some ⟨w.heap.size, 0, none⟩)))) (w.alloc o)

theorem As2.yes {T I : Nat} {want : Array (String × TypeId)} (hu : Try.prog.underlying I = some (.interface want)) (h : (Try.prog.info? T).map (fun i => (lacking want i.methods).isEmpty) = some true) : As2 T I true := fun v xT w => run_typeAssert_hasB hu h v xT w
theorem As2.no {T I : Nat} {want : Array (String × TypeId)} (hu : Try.prog.underlying I = some (.interface want)) (h : (Try.prog.info? T).map (fun i => (lacking want i.methods).isEmpty) = some false) (hz : (Try.prog.info? I).map (·.zero) = some (some .nilIface)) : As2 T I false := fun v xT w => run_typeAssert_lacksB hu h hz v xT w
theorem As1.yes {T I : Nat} {want : Array (String × TypeId)} (hu : Try.prog.underlying I = some (.interface want)) (h : (Try.prog.info? T).map (fun i => (lacking want i.methods).isEmpty) = some true) : As1 T I true := fun v xT w => run_must_has hu h v xT w
theorem As1.no {T I : Nat} {want : Array (String × TypeId)} (hu : Try.prog.underlying I = some (.interface want)) (h : (Try.prog.info? T).map (fun i => (lacking want i.methods).isEmpty) = some false) : As1 T I false := fun v _ w => run_must_lacks hu h v w

/-- The type T has the abilities of the number n, and is an object's. -/
structure Ab (T n : Nat) : Prop where
  o2 : As2 T 83 (n.testBit 2)
  l2 : As2 T 108 (n.testBit 3)
  o1 : As1 T 83 (n.testBit 2)
  l1 : As1 T 108 (n.testBit 3)
  ob : As2 T 88 true

theorem Ab_thing : Ab 29 0 where
  o2 := As2.no Try.underlying83 (by kernel_rfl) (by kernel_rfl)
  o1 := As1.no Try.underlying83 (by kernel_rfl)
  l2 := As2.no Try.underlying108 (by kernel_rfl) (by kernel_rfl)
  l1 := As1.no Try.underlying108 (by kernel_rfl)
  ob := As2.yes Try.underlying88 (by kernel_rfl)
theorem ta_thing (T xT : TypeId) (v : Value) (w : World) : (Instr.typeAssert (.iface T v) xT 29 true).run Try.prog w = .ok (if T = 29 then .tuple #[v, .bool true] else .tuple #[.pointer none, .bool false]) w :=
  ta_of Try.prog (d := .pointer 65) (by kernel_rfl) (by simp) T _ v w (by kernel_rfl)
end Go.Proofs.Ytgcgaekomegobaa

/- object.holds, as, As, must, Must and Abilities, of objects whose type's abilities are known. -/
namespace Go.Proofs.Ytgcgaekomegobaa
open Go.RowKit

theorem eqn_obj (T : Nat) (v : Value) (w : World) : (binOp .eql 88 (.iface T v) .nilIface).run Try.prog w = .ok (.bool false) w := by kernel_rfl
theorem eqng_obj (T : Nat) (v : Value) (x y : Operand) (w : World) : (eqGuard .eql 88 x y (.iface T v) .nilIface).run Try.prog w = .ok () w := by kernel_rfl

set_option maxRecDepth 100000 in
set_option maxHeartbeats 1000000 in
theorem holds_nil (w : World) :
    Calls Try.prog 35 #[.nilIface] w fun e w' => e = .returned (.int .i64 1) ∧ w = w' := by
  have hq : ∀ W, (binOp .eql 88 .nilIface .nilIface).run Try.prog W = .ok (.bool true) W := fun W => by kernel_rfl
  go_enter Try.func35, Try.ntmps35
  go_wp2_with fail
  go_ret
  exact ⟨rfl, rfl⟩

set_option maxRecDepth 100000 in
set_option maxHeartbeats 1000000 in
theorem holds_hollow (w : World) :
    Calls Try.prog 35 #[.iface 29 (.pointer none)] w fun e w' => e = .returned (.int .i64 2) ∧ w = w' := by
  have hq := eqn_obj
  have hg := eqng_obj
  have ht : ∀ xT W, (Instr.typeAssert (.iface 29 (.pointer none)) xT 29 true).run Try.prog W = .ok (.tuple #[.pointer none, .bool true]) W := fun xT W => by rw [ta_thing]; rfl
  go_enter Try.func35, Try.ntmps35
  go_wp2_with fail
  go_ret
  exact ⟨rfl, rfl⟩

set_option maxRecDepth 100000 in
set_option maxHeartbeats 1000000 in
theorem holds_thing (a : Addr) (w : World) :
    Calls Try.prog 35 #[.iface 29 (.pointer (some a))] w fun e w' => e = .returned (.int .i64 0) ∧ w = w' := by
  have hq := eqn_obj
  have hg := eqng_obj
  have ht : ∀ xT W, (Instr.typeAssert (.iface 29 (.pointer (some a))) xT 29 true).run Try.prog W = .ok (.tuple #[.pointer (some a), .bool true]) W := fun xT W => by rw [ta_thing]; rfl
  go_enter Try.func35, Try.ntmps35
  go_wp2_with fail
  go_ret
  exact ⟨rfl, rfl⟩

/-- o is Something: a Thing that is there, or of another type. -/
def Sm (T : Nat) (v : Value) : Prop := (T = 29 ∧ ∃ a, v = .pointer (some a)) ∨ T ≠ 29
set_option maxRecDepth 100000 in
set_option maxHeartbeats 1000000 in
theorem as_Owned {T n : Nat} (h : Ab T n) (v : Value) (w : World) :
    Calls Try.prog 50 #[.iface T v] w fun e w' => e = .returned (.tuple #[if n.testBit 2 then .iface T v else .nilIface, .bool (n.testBit 2)]) ∧ w = w' := by
  have h2 := h.o2
  unfold As2 at h2
  generalize hb : (n.testBit 2) = b at h2
  clear hb h
  cases b
  · simp only [Bool.false_eq_true, if_false] at h2 ⊢
    go_enter Try.func50, Try.ntmps50
    go_wp2_with fail
    go_ret2
    exact ⟨rfl, rfl⟩
  · simp only [if_true] at h2 ⊢
    go_enter Try.func50, Try.ntmps50
    go_wp2_with fail
    go_ret2
    exact ⟨rfl, rfl⟩

set_option maxRecDepth 100000 in
set_option maxHeartbeats 1000000 in
theorem as_Lazy {T n : Nat} (h : Ab T n) (v : Value) (w : World) :
    Calls Try.prog 55 #[.iface T v] w fun e w' => e = .returned (.tuple #[if n.testBit 3 then .iface T v else .nilIface, .bool (n.testBit 3)]) ∧ w = w' := by
  have h2 := h.l2
  unfold As2 at h2
  generalize hb : (n.testBit 3) = b at h2
  clear hb h
  cases b
  · simp only [Bool.false_eq_true, if_false] at h2 ⊢
    go_enter Try.func55, Try.ntmps55
    go_wp2_with fail
    go_ret2
    exact ⟨rfl, rfl⟩
  · simp only [if_true] at h2 ⊢
    go_enter Try.func55, Try.ntmps55
    go_wp2_with fail
    go_ret2
    exact ⟨rfl, rfl⟩

/-- How a panicking assertion ends: kind 0, or Go's own panic. -/
def MustE : Bool → Value → World → Ending → World → Prop
  | true, x, w, e, w' => e = .returned x ∧ w = w'
  | false, _, w, e, w' => ∃ v, e = .panicked [{ v := v, recovered := false }] ∧ Kd v 1 9 ∧ Below w.heap.size w w'

set_option maxRecDepth 100000 in
set_option maxHeartbeats 1000000 in
theorem must_Owned {T n : Nat} (h : Ab T n) (v : Value) (w : World) :
    Calls Try.prog 49 #[.iface T v] w fun e w' => MustE (n.testBit 2) (.iface T v) w e w' := by
  have h1 := h.o1
  unfold As1 at h1
  generalize hb : (n.testBit 2) = b at h1
  clear hb h
  cases b
  · simp only [Bool.false_eq_true, if_false] at h1
    obtain ⟨o, h2⟩ := h1 v 20 w
    clear h1
    go_enter Try.func49, Try.ntmps49
    go_wp2_with fail
    exact ⟨rfl, _, rfl, Kd_ta _, (Below.refl _ _).alloc (Nat.le_refl _) _⟩
  · simp only [if_true] at h1
    go_enter Try.func49, Try.ntmps49
    go_wp2_with fail
    go_ret
    exact ⟨rfl, rfl⟩

set_option maxRecDepth 100000 in
set_option maxHeartbeats 1000000 in
theorem Must_Owned {T n : Nat} (h : Ab T n) (v : Value) (w : World) :
    Calls Try.prog 32 #[.iface T v] w fun e w' => MustE (n.testBit 2) (.iface T v) w e w' := by
  have HA : Hid (Calls Try.prog 49 #[.iface T v] w fun e w' => MustE (n.testBit 2) (.iface T v) w e w') := must_Owned h v w
  clear h
  generalize (n.testBit 2) = b at HA ⊢
  cases b
  · go_enter Try.func32, Try.ntmps32
    go_wp2_with fail
    refine HA.out.mono ?_
    rintro e w' ⟨pv, rfl, hk, hbw⟩
    exact ⟨rfl, pv, rfl, hk, hbw⟩
  · go_enter Try.func32, Try.ntmps32
    go_wp2_with fail
    refine HA.out.mono ?_
    rintro e w' ⟨rfl, rfl⟩
    go_wp2_with fail
    go_ret
    exact ⟨rfl, rfl⟩

def addUp (b0 b1 b2 b3 : Bool) : Int := (if b0 then 1 else 0) + (if b1 then 2 else 0) + (if b2 then 4 else 0) + (if b3 then 8 else 0)
set_option maxRecDepth 100000 in
set_option maxHeartbeats 1000000 in
theorem Holds_any (o : Value) (k : Int) (w : World) (hh : Hid (∀ W, Calls Try.prog 35 #[o] W fun e w' => e = .returned (.int .i64 k) ∧ W = w')) :
    Calls Try.prog 34 #[o] w fun e w' => e = .returned (.int .i64 k) ∧ w = w' := by
  go_enter Try.func34, Try.ntmps34
  go_wp2_with (go_at_call 35; refine (hh.out _).mono ?_; rintro e w' ⟨rfl, rfl⟩)
  go_ret
  exact ⟨rfl, rfl⟩
end Go.Proofs.Ytgcgaekomegobaa

