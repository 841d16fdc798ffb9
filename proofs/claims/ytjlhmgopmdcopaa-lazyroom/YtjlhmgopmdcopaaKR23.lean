/- Which abilities an object's type has, by assertion: of a Thing, and of the types of which objects are made. -/
import Derived.Test.YtjlhmgopmdcopaaKR21
import Derived.Test.YtjlhmgopmdcopaaKR3
namespace Go.Proofs.Ytjlhmgopmdcopaa
open Go.RowKit

section
variable {P : Program} {w : World} {t xT asserted : TypeId} {v : Value} {want : Array (String × TypeId)} {i : TypeInfo}
end

theorem run_must_lacks {t xT asserted : TypeId} {want : Array (String × TypeId)} (hu : Try.prog.underlying asserted = some (.interface want)) (h : (Try.prog.info? t).map (fun i => (lacking want i.methods).isEmpty) = some false) (v : Value) (w : World) :
    ∃ o, (Instr.typeAssert (.iface t v) xT asserted false).run Try.prog w = .halt (.panic (.iface 15 (.pointer (some ⟨w.heap.size, 0, none⟩)))) (w.alloc o) := by
  obtain ⟨i, hi, hl⟩ := Option.map_eq_some_iff.1 h
  obtain ⟨m, hm⟩ := missingMethod_some (want := want) (got := i.methods) (fun e => by rw [e] at hl; cases hl)
  have he : ∀ W, Sem.run Try.prog (elemOf 15) W = .ok 141 W := fun W => by kernel_rfl
  simp [Instr.typeAssert, run_underlying hu, typeInfo, hi, hm, runtimePanic, goPanic, go_sem, he]
  exact ⟨_, rfl⟩

/-- What the two-valued assertion to I tells of the type T. -/
def As2 (T I : Nat) (b : Bool) : Prop := ∀ v xT w, (Instr.typeAssert (.iface T v) xT I true).run Try.prog w = .ok (.tuple #[if b then .iface T v else .nilIface, .bool b]) w
/-- What the panicking assertion to I does. -/
def As1 (T I : Nat) (b : Bool) : Prop := ∀ v xT w, if b then (Instr.typeAssert (.iface T v) xT I false).run Try.prog w = .ok (.iface T v) w else ∃ o, (Instr.typeAssert (.iface T v) xT I false).run Try.prog w = .halt (.panic (.iface 15 (.pointer (some ⟨w.heap.size, 0, none⟩)))) (w.alloc o)

theorem As2.no {T I : Nat} {want : Array (String × TypeId)} (hu : Try.prog.underlying I = some (.interface want)) (h : (Try.prog.info? T).map (fun i => (lacking want i.methods).isEmpty) = some false) (hz : (Try.prog.info? I).map (·.zero) = some (some .nilIface)) : As2 T I false := fun v xT w => run_typeAssert_lacksB hu h hz v xT w
theorem As1.no {T I : Nat} {want : Array (String × TypeId)} (hu : Try.prog.underlying I = some (.interface want)) (h : (Try.prog.info? T).map (fun i => (lacking want i.methods).isEmpty) = some false) : As1 T I false := fun v _ w => run_must_lacks hu h v w

end Go.Proofs.Ytjlhmgopmdcopaa

/- object.holds, as, As, must, Must and Abilities, of objects whose type's abilities are known. -/
namespace Go.Proofs.Ytjlhmgopmdcopaa
open Go.RowKit

/-- o is Something: a Thing that is there, or of another type. -/
def Sm (T : Nat) (v : Value) : Prop := (T = 76 ∧ ∃ a, v = .pointer (some a)) ∨ T ≠ 76
/-- How a panicking assertion ends: kind 0, or Go's own panic. -/
def MustE : Bool → Value → World → Ending → World → Prop
  | true, x, w, e, w' => e = .returned x ∧ w = w'
  | false, _, w, e, w' => ∃ v, e = .panicked [{ v := v, recovered := false }] ∧ Kd v 1 9 ∧ Below w.heap.size w w'

def addUp (b0 b1 b2 b3 : Bool) : Int := (if b0 then 1 else 0) + (if b1 then 2 else 0) + (if b2 then 4 else 0) + (if b3 then 8 else 0)
end Go.Proofs.Ytjlhmgopmdcopaa

