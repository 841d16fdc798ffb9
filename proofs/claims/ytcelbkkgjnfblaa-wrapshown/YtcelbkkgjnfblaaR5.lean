/- Which abilities an object's type has, by assertion: of a Thing, and of the types of which objects are made. -/
import Derived.Test.YtcelbkkgjnfblaaR2
import Derived.Test.YtcelbkkgjnfblaaR4
namespace Go.Proofs.Ytcelbkkgjnfblaa
open Go.RowKit

section
variable {P : Program} {w : World} {t xT asserted : TypeId} {v : Value} {want : Array (String × TypeId)} {i : TypeInfo}
theorem run_must_has (hu : P.underlying asserted = some (.interface want)) (h : (P.info? t).map (fun i => (lacking want i.methods).isEmpty) = some true) (v : Value) (xT : TypeId) (w : World) :
    (Instr.typeAssert (.iface t v) xT asserted false).run P w = .ok (.iface t v) w := by
  obtain ⟨i, hi, hl⟩ := Option.map_eq_some_iff.1 h
  simp [Instr.typeAssert, run_underlying hu, typeInfo, hi, missingMethod_none (List.isEmpty_iff.1 hl)]
end

theorem run_must_lacks {t xT asserted : TypeId} {want : Array (String × TypeId)} (hu : Try.prog.underlying asserted = some (.interface want)) (h : (Try.prog.info? t).map (fun i => (lacking want i.methods).isEmpty) = some false) (v : Value) (w : World) :
    ∃ o, (Instr.typeAssert (.iface t v) xT asserted false).run Try.prog w = .halt (.panic (.iface 15 (.pointer (some ⟨w.heap.size, 0, none⟩)))) (w.alloc o) := by
  obtain ⟨i, hi, hl⟩ := Option.map_eq_some_iff.1 h
  obtain ⟨m, hm⟩ := missingMethod_some (want := want) (got := i.methods) (fun e => by rw [e] at hl; cases hl)
  have he : ∀ W, Sem.run Try.prog (elemOf 15) W = .ok 246 W := fun W => by kernel_rfl
  simp [Instr.typeAssert, run_underlying hu, typeInfo, hi, hm, runtimePanic, goPanic, go_sem, he]
  exact ⟨_, rfl⟩

/-- What the two-valued assertion to I tells of the type T. -/
def As2 (T I : Nat) (b : Bool) : Prop := ∀ v xT w, (Instr.typeAssert (.iface T v) xT I true).run Try.prog w = .ok (.tuple #[if b then .iface T v else .nilIface, .bool b]) w
/-- What the panicking assertion to I does. -/
def As1 (T I : Nat) (b : Bool) : Prop := ∀ v xT w, if b then (Instr.typeAssert (.iface T v) xT I false).run Try.prog w = .ok (.iface T v) w else ∃ o, (Instr.typeAssert (.iface T v) xT I false).run Try.prog w = .halt (.panic (.iface 15 (.pointer (some ⟨w.heap.size, 0, none⟩)))) (w.alloc o)

theorem As2.yes {T I : Nat} {want : Array (String × TypeId)} (hu : Try.prog.underlying I = some (.interface want)) (h : (Try.prog.info? T).map (fun i => (lacking want i.methods).isEmpty) = some true) : As2 T I true := fun v xT w => run_typeAssert_hasB hu h v xT w
theorem As2.no {T I : Nat} {want : Array (String × TypeId)} (hu : Try.prog.underlying I = some (.interface want)) (h : (Try.prog.info? T).map (fun i => (lacking want i.methods).isEmpty) = some false) (hz : (Try.prog.info? I).map (·.zero) = some (some .nilIface)) : As2 T I false := fun v xT w => run_typeAssert_lacksB hu h hz v xT w
theorem As1.yes {T I : Nat} {want : Array (String × TypeId)} (hu : Try.prog.underlying I = some (.interface want)) (h : (Try.prog.info? T).map (fun i => (lacking want i.methods).isEmpty) = some true) : As1 T I true := fun v xT w => run_must_has hu h v xT w
theorem As1.no {T I : Nat} {want : Array (String × TypeId)} (hu : Try.prog.underlying I = some (.interface want)) (h : (Try.prog.info? T).map (fun i => (lacking want i.methods).isEmpty) = some false) : As1 T I false := fun v _ w => run_must_lacks hu h v w

/-- The type T has the abilities of the number n, and is an object's. -/
structure Ab (T n : Nat) : Prop where
  v2 : As2 T 110 (n.testBit 0)
  i2 : As2 T 114 (n.testBit 1)
  o2 : As2 T 118 (n.testBit 2)
  l2 : As2 T 122 (n.testBit 3)
  v1 : As1 T 110 (n.testBit 0)
  i1 : As1 T 114 (n.testBit 1)
  o1 : As1 T 118 (n.testBit 2)
  l1 : As1 T 122 (n.testBit 3)
  ob : As2 T 40 true
  wr : As2 T 138 (n.testBit 4)

theorem Ab_p0 : Ab 141 0 where
  v2 := As2.no Try.underlying110 (by kernel_rfl) (by kernel_rfl)
  v1 := As1.no Try.underlying110 (by kernel_rfl)
  i2 := As2.no Try.underlying114 (by kernel_rfl) (by kernel_rfl)
  i1 := As1.no Try.underlying114 (by kernel_rfl)
  o2 := As2.no Try.underlying118 (by kernel_rfl) (by kernel_rfl)
  o1 := As1.no Try.underlying118 (by kernel_rfl)
  l2 := As2.no Try.underlying122 (by kernel_rfl) (by kernel_rfl)
  l1 := As1.no Try.underlying122 (by kernel_rfl)
  wr := As2.no Try.underlying138 (by kernel_rfl) (by kernel_rfl)
  ob := As2.yes Try.underlying40 (by kernel_rfl)
theorem Ab_p1 : Ab 142 1 where
  v2 := As2.yes Try.underlying110 (by kernel_rfl)
  v1 := As1.yes Try.underlying110 (by kernel_rfl)
  i2 := As2.no Try.underlying114 (by kernel_rfl) (by kernel_rfl)
  i1 := As1.no Try.underlying114 (by kernel_rfl)
  o2 := As2.no Try.underlying118 (by kernel_rfl) (by kernel_rfl)
  o1 := As1.no Try.underlying118 (by kernel_rfl)
  l2 := As2.no Try.underlying122 (by kernel_rfl) (by kernel_rfl)
  l1 := As1.no Try.underlying122 (by kernel_rfl)
  wr := As2.no Try.underlying138 (by kernel_rfl) (by kernel_rfl)
  ob := As2.yes Try.underlying40 (by kernel_rfl)
theorem Ab_p2 : Ab 143 2 where
  v2 := As2.no Try.underlying110 (by kernel_rfl) (by kernel_rfl)
  v1 := As1.no Try.underlying110 (by kernel_rfl)
  i2 := As2.yes Try.underlying114 (by kernel_rfl)
  i1 := As1.yes Try.underlying114 (by kernel_rfl)
  o2 := As2.no Try.underlying118 (by kernel_rfl) (by kernel_rfl)
  o1 := As1.no Try.underlying118 (by kernel_rfl)
  l2 := As2.no Try.underlying122 (by kernel_rfl) (by kernel_rfl)
  l1 := As1.no Try.underlying122 (by kernel_rfl)
  wr := As2.no Try.underlying138 (by kernel_rfl) (by kernel_rfl)
  ob := As2.yes Try.underlying40 (by kernel_rfl)
theorem Ab_p3 : Ab 144 3 where
  v2 := As2.yes Try.underlying110 (by kernel_rfl)
  v1 := As1.yes Try.underlying110 (by kernel_rfl)
  i2 := As2.yes Try.underlying114 (by kernel_rfl)
  i1 := As1.yes Try.underlying114 (by kernel_rfl)
  o2 := As2.no Try.underlying118 (by kernel_rfl) (by kernel_rfl)
  o1 := As1.no Try.underlying118 (by kernel_rfl)
  l2 := As2.no Try.underlying122 (by kernel_rfl) (by kernel_rfl)
  l1 := As1.no Try.underlying122 (by kernel_rfl)
  wr := As2.no Try.underlying138 (by kernel_rfl) (by kernel_rfl)
  ob := As2.yes Try.underlying40 (by kernel_rfl)
theorem Ab_p4 : Ab 145 4 where
  v2 := As2.no Try.underlying110 (by kernel_rfl) (by kernel_rfl)
  v1 := As1.no Try.underlying110 (by kernel_rfl)
  i2 := As2.no Try.underlying114 (by kernel_rfl) (by kernel_rfl)
  i1 := As1.no Try.underlying114 (by kernel_rfl)
  o2 := As2.yes Try.underlying118 (by kernel_rfl)
  o1 := As1.yes Try.underlying118 (by kernel_rfl)
  l2 := As2.no Try.underlying122 (by kernel_rfl) (by kernel_rfl)
  l1 := As1.no Try.underlying122 (by kernel_rfl)
  wr := As2.no Try.underlying138 (by kernel_rfl) (by kernel_rfl)
  ob := As2.yes Try.underlying40 (by kernel_rfl)
theorem Ab_p5 : Ab 146 5 where
  v2 := As2.yes Try.underlying110 (by kernel_rfl)
  v1 := As1.yes Try.underlying110 (by kernel_rfl)
  i2 := As2.no Try.underlying114 (by kernel_rfl) (by kernel_rfl)
  i1 := As1.no Try.underlying114 (by kernel_rfl)
  o2 := As2.yes Try.underlying118 (by kernel_rfl)
  o1 := As1.yes Try.underlying118 (by kernel_rfl)
  l2 := As2.no Try.underlying122 (by kernel_rfl) (by kernel_rfl)
  l1 := As1.no Try.underlying122 (by kernel_rfl)
  wr := As2.no Try.underlying138 (by kernel_rfl) (by kernel_rfl)
  ob := As2.yes Try.underlying40 (by kernel_rfl)
theorem Ab_p6 : Ab 147 6 where
  v2 := As2.no Try.underlying110 (by kernel_rfl) (by kernel_rfl)
  v1 := As1.no Try.underlying110 (by kernel_rfl)
  i2 := As2.yes Try.underlying114 (by kernel_rfl)
  i1 := As1.yes Try.underlying114 (by kernel_rfl)
  o2 := As2.yes Try.underlying118 (by kernel_rfl)
  o1 := As1.yes Try.underlying118 (by kernel_rfl)
  l2 := As2.no Try.underlying122 (by kernel_rfl) (by kernel_rfl)
  l1 := As1.no Try.underlying122 (by kernel_rfl)
  wr := As2.no Try.underlying138 (by kernel_rfl) (by kernel_rfl)
  ob := As2.yes Try.underlying40 (by kernel_rfl)
theorem Ab_p7 : Ab 148 7 where
  v2 := As2.yes Try.underlying110 (by kernel_rfl)
  v1 := As1.yes Try.underlying110 (by kernel_rfl)
  i2 := As2.yes Try.underlying114 (by kernel_rfl)
  i1 := As1.yes Try.underlying114 (by kernel_rfl)
  o2 := As2.yes Try.underlying118 (by kernel_rfl)
  o1 := As1.yes Try.underlying118 (by kernel_rfl)
  l2 := As2.no Try.underlying122 (by kernel_rfl) (by kernel_rfl)
  l1 := As1.no Try.underlying122 (by kernel_rfl)
  wr := As2.no Try.underlying138 (by kernel_rfl) (by kernel_rfl)
  ob := As2.yes Try.underlying40 (by kernel_rfl)
theorem Ab_p8 : Ab 149 8 where
  v2 := As2.no Try.underlying110 (by kernel_rfl) (by kernel_rfl)
  v1 := As1.no Try.underlying110 (by kernel_rfl)
  i2 := As2.no Try.underlying114 (by kernel_rfl) (by kernel_rfl)
  i1 := As1.no Try.underlying114 (by kernel_rfl)
  o2 := As2.no Try.underlying118 (by kernel_rfl) (by kernel_rfl)
  o1 := As1.no Try.underlying118 (by kernel_rfl)
  l2 := As2.yes Try.underlying122 (by kernel_rfl)
  l1 := As1.yes Try.underlying122 (by kernel_rfl)
  wr := As2.no Try.underlying138 (by kernel_rfl) (by kernel_rfl)
  ob := As2.yes Try.underlying40 (by kernel_rfl)
theorem Ab_p9 : Ab 150 9 where
  v2 := As2.yes Try.underlying110 (by kernel_rfl)
  v1 := As1.yes Try.underlying110 (by kernel_rfl)
  i2 := As2.no Try.underlying114 (by kernel_rfl) (by kernel_rfl)
  i1 := As1.no Try.underlying114 (by kernel_rfl)
  o2 := As2.no Try.underlying118 (by kernel_rfl) (by kernel_rfl)
  o1 := As1.no Try.underlying118 (by kernel_rfl)
  l2 := As2.yes Try.underlying122 (by kernel_rfl)
  l1 := As1.yes Try.underlying122 (by kernel_rfl)
  wr := As2.no Try.underlying138 (by kernel_rfl) (by kernel_rfl)
  ob := As2.yes Try.underlying40 (by kernel_rfl)
theorem Ab_p10 : Ab 151 10 where
  v2 := As2.no Try.underlying110 (by kernel_rfl) (by kernel_rfl)
  v1 := As1.no Try.underlying110 (by kernel_rfl)
  i2 := As2.yes Try.underlying114 (by kernel_rfl)
  i1 := As1.yes Try.underlying114 (by kernel_rfl)
  o2 := As2.no Try.underlying118 (by kernel_rfl) (by kernel_rfl)
  o1 := As1.no Try.underlying118 (by kernel_rfl)
  l2 := As2.yes Try.underlying122 (by kernel_rfl)
  l1 := As1.yes Try.underlying122 (by kernel_rfl)
  wr := As2.no Try.underlying138 (by kernel_rfl) (by kernel_rfl)
  ob := As2.yes Try.underlying40 (by kernel_rfl)
theorem Ab_p11 : Ab 152 11 where
  v2 := As2.yes Try.underlying110 (by kernel_rfl)
  v1 := As1.yes Try.underlying110 (by kernel_rfl)
  i2 := As2.yes Try.underlying114 (by kernel_rfl)
  i1 := As1.yes Try.underlying114 (by kernel_rfl)
  o2 := As2.no Try.underlying118 (by kernel_rfl) (by kernel_rfl)
  o1 := As1.no Try.underlying118 (by kernel_rfl)
  l2 := As2.yes Try.underlying122 (by kernel_rfl)
  l1 := As1.yes Try.underlying122 (by kernel_rfl)
  wr := As2.no Try.underlying138 (by kernel_rfl) (by kernel_rfl)
  ob := As2.yes Try.underlying40 (by kernel_rfl)
theorem Ab_p12 : Ab 153 12 where
  v2 := As2.no Try.underlying110 (by kernel_rfl) (by kernel_rfl)
  v1 := As1.no Try.underlying110 (by kernel_rfl)
  i2 := As2.no Try.underlying114 (by kernel_rfl) (by kernel_rfl)
  i1 := As1.no Try.underlying114 (by kernel_rfl)
  o2 := As2.yes Try.underlying118 (by kernel_rfl)
  o1 := As1.yes Try.underlying118 (by kernel_rfl)
  l2 := As2.yes Try.underlying122 (by kernel_rfl)
  l1 := As1.yes Try.underlying122 (by kernel_rfl)
  wr := As2.no Try.underlying138 (by kernel_rfl) (by kernel_rfl)
  ob := As2.yes Try.underlying40 (by kernel_rfl)
theorem Ab_p13 : Ab 154 13 where
  v2 := As2.yes Try.underlying110 (by kernel_rfl)
  v1 := As1.yes Try.underlying110 (by kernel_rfl)
  i2 := As2.no Try.underlying114 (by kernel_rfl) (by kernel_rfl)
  i1 := As1.no Try.underlying114 (by kernel_rfl)
  o2 := As2.yes Try.underlying118 (by kernel_rfl)
  o1 := As1.yes Try.underlying118 (by kernel_rfl)
  l2 := As2.yes Try.underlying122 (by kernel_rfl)
  l1 := As1.yes Try.underlying122 (by kernel_rfl)
  wr := As2.no Try.underlying138 (by kernel_rfl) (by kernel_rfl)
  ob := As2.yes Try.underlying40 (by kernel_rfl)
theorem Ab_p14 : Ab 155 14 where
  v2 := As2.no Try.underlying110 (by kernel_rfl) (by kernel_rfl)
  v1 := As1.no Try.underlying110 (by kernel_rfl)
  i2 := As2.yes Try.underlying114 (by kernel_rfl)
  i1 := As1.yes Try.underlying114 (by kernel_rfl)
  o2 := As2.yes Try.underlying118 (by kernel_rfl)
  o1 := As1.yes Try.underlying118 (by kernel_rfl)
  l2 := As2.yes Try.underlying122 (by kernel_rfl)
  l1 := As1.yes Try.underlying122 (by kernel_rfl)
  wr := As2.no Try.underlying138 (by kernel_rfl) (by kernel_rfl)
  ob := As2.yes Try.underlying40 (by kernel_rfl)
theorem Ab_p15 : Ab 156 15 where
  v2 := As2.yes Try.underlying110 (by kernel_rfl)
  v1 := As1.yes Try.underlying110 (by kernel_rfl)
  i2 := As2.yes Try.underlying114 (by kernel_rfl)
  i1 := As1.yes Try.underlying114 (by kernel_rfl)
  o2 := As2.yes Try.underlying118 (by kernel_rfl)
  o1 := As1.yes Try.underlying118 (by kernel_rfl)
  l2 := As2.yes Try.underlying122 (by kernel_rfl)
  l1 := As1.yes Try.underlying122 (by kernel_rfl)
  wr := As2.no Try.underlying138 (by kernel_rfl) (by kernel_rfl)
  ob := As2.yes Try.underlying40 (by kernel_rfl)
theorem Ab_s0 : Ab 158 0 where
  v2 := As2.no Try.underlying110 (by kernel_rfl) (by kernel_rfl)
  v1 := As1.no Try.underlying110 (by kernel_rfl)
  i2 := As2.no Try.underlying114 (by kernel_rfl) (by kernel_rfl)
  i1 := As1.no Try.underlying114 (by kernel_rfl)
  o2 := As2.no Try.underlying118 (by kernel_rfl) (by kernel_rfl)
  o1 := As1.no Try.underlying118 (by kernel_rfl)
  l2 := As2.no Try.underlying122 (by kernel_rfl) (by kernel_rfl)
  l1 := As1.no Try.underlying122 (by kernel_rfl)
  wr := As2.no Try.underlying138 (by kernel_rfl) (by kernel_rfl)
  ob := As2.yes Try.underlying40 (by kernel_rfl)
theorem Ab_s1 : Ab 160 1 where
  v2 := As2.yes Try.underlying110 (by kernel_rfl)
  v1 := As1.yes Try.underlying110 (by kernel_rfl)
  i2 := As2.no Try.underlying114 (by kernel_rfl) (by kernel_rfl)
  i1 := As1.no Try.underlying114 (by kernel_rfl)
  o2 := As2.no Try.underlying118 (by kernel_rfl) (by kernel_rfl)
  o1 := As1.no Try.underlying118 (by kernel_rfl)
  l2 := As2.no Try.underlying122 (by kernel_rfl) (by kernel_rfl)
  l1 := As1.no Try.underlying122 (by kernel_rfl)
  wr := As2.no Try.underlying138 (by kernel_rfl) (by kernel_rfl)
  ob := As2.yes Try.underlying40 (by kernel_rfl)
theorem Ab_s2 : Ab 162 2 where
  v2 := As2.no Try.underlying110 (by kernel_rfl) (by kernel_rfl)
  v1 := As1.no Try.underlying110 (by kernel_rfl)
  i2 := As2.yes Try.underlying114 (by kernel_rfl)
  i1 := As1.yes Try.underlying114 (by kernel_rfl)
  o2 := As2.no Try.underlying118 (by kernel_rfl) (by kernel_rfl)
  o1 := As1.no Try.underlying118 (by kernel_rfl)
  l2 := As2.no Try.underlying122 (by kernel_rfl) (by kernel_rfl)
  l1 := As1.no Try.underlying122 (by kernel_rfl)
  wr := As2.no Try.underlying138 (by kernel_rfl) (by kernel_rfl)
  ob := As2.yes Try.underlying40 (by kernel_rfl)
theorem Ab_s3 : Ab 164 3 where
  v2 := As2.yes Try.underlying110 (by kernel_rfl)
  v1 := As1.yes Try.underlying110 (by kernel_rfl)
  i2 := As2.yes Try.underlying114 (by kernel_rfl)
  i1 := As1.yes Try.underlying114 (by kernel_rfl)
  o2 := As2.no Try.underlying118 (by kernel_rfl) (by kernel_rfl)
  o1 := As1.no Try.underlying118 (by kernel_rfl)
  l2 := As2.no Try.underlying122 (by kernel_rfl) (by kernel_rfl)
  l1 := As1.no Try.underlying122 (by kernel_rfl)
  wr := As2.no Try.underlying138 (by kernel_rfl) (by kernel_rfl)
  ob := As2.yes Try.underlying40 (by kernel_rfl)
theorem Ab_s4 : Ab 166 4 where
  v2 := As2.no Try.underlying110 (by kernel_rfl) (by kernel_rfl)
  v1 := As1.no Try.underlying110 (by kernel_rfl)
  i2 := As2.no Try.underlying114 (by kernel_rfl) (by kernel_rfl)
  i1 := As1.no Try.underlying114 (by kernel_rfl)
  o2 := As2.yes Try.underlying118 (by kernel_rfl)
  o1 := As1.yes Try.underlying118 (by kernel_rfl)
  l2 := As2.no Try.underlying122 (by kernel_rfl) (by kernel_rfl)
  l1 := As1.no Try.underlying122 (by kernel_rfl)
  wr := As2.no Try.underlying138 (by kernel_rfl) (by kernel_rfl)
  ob := As2.yes Try.underlying40 (by kernel_rfl)
theorem Ab_s5 : Ab 168 5 where
  v2 := As2.yes Try.underlying110 (by kernel_rfl)
  v1 := As1.yes Try.underlying110 (by kernel_rfl)
  i2 := As2.no Try.underlying114 (by kernel_rfl) (by kernel_rfl)
  i1 := As1.no Try.underlying114 (by kernel_rfl)
  o2 := As2.yes Try.underlying118 (by kernel_rfl)
  o1 := As1.yes Try.underlying118 (by kernel_rfl)
  l2 := As2.no Try.underlying122 (by kernel_rfl) (by kernel_rfl)
  l1 := As1.no Try.underlying122 (by kernel_rfl)
  wr := As2.no Try.underlying138 (by kernel_rfl) (by kernel_rfl)
  ob := As2.yes Try.underlying40 (by kernel_rfl)
theorem Ab_s6 : Ab 170 6 where
  v2 := As2.no Try.underlying110 (by kernel_rfl) (by kernel_rfl)
  v1 := As1.no Try.underlying110 (by kernel_rfl)
  i2 := As2.yes Try.underlying114 (by kernel_rfl)
  i1 := As1.yes Try.underlying114 (by kernel_rfl)
  o2 := As2.yes Try.underlying118 (by kernel_rfl)
  o1 := As1.yes Try.underlying118 (by kernel_rfl)
  l2 := As2.no Try.underlying122 (by kernel_rfl) (by kernel_rfl)
  l1 := As1.no Try.underlying122 (by kernel_rfl)
  wr := As2.no Try.underlying138 (by kernel_rfl) (by kernel_rfl)
  ob := As2.yes Try.underlying40 (by kernel_rfl)
theorem Ab_s7 : Ab 172 7 where
  v2 := As2.yes Try.underlying110 (by kernel_rfl)
  v1 := As1.yes Try.underlying110 (by kernel_rfl)
  i2 := As2.yes Try.underlying114 (by kernel_rfl)
  i1 := As1.yes Try.underlying114 (by kernel_rfl)
  o2 := As2.yes Try.underlying118 (by kernel_rfl)
  o1 := As1.yes Try.underlying118 (by kernel_rfl)
  l2 := As2.no Try.underlying122 (by kernel_rfl) (by kernel_rfl)
  l1 := As1.no Try.underlying122 (by kernel_rfl)
  wr := As2.no Try.underlying138 (by kernel_rfl) (by kernel_rfl)
  ob := As2.yes Try.underlying40 (by kernel_rfl)
theorem Ab_s8 : Ab 174 8 where
  v2 := As2.no Try.underlying110 (by kernel_rfl) (by kernel_rfl)
  v1 := As1.no Try.underlying110 (by kernel_rfl)
  i2 := As2.no Try.underlying114 (by kernel_rfl) (by kernel_rfl)
  i1 := As1.no Try.underlying114 (by kernel_rfl)
  o2 := As2.no Try.underlying118 (by kernel_rfl) (by kernel_rfl)
  o1 := As1.no Try.underlying118 (by kernel_rfl)
  l2 := As2.yes Try.underlying122 (by kernel_rfl)
  l1 := As1.yes Try.underlying122 (by kernel_rfl)
  wr := As2.no Try.underlying138 (by kernel_rfl) (by kernel_rfl)
  ob := As2.yes Try.underlying40 (by kernel_rfl)
theorem Ab_s9 : Ab 176 9 where
  v2 := As2.yes Try.underlying110 (by kernel_rfl)
  v1 := As1.yes Try.underlying110 (by kernel_rfl)
  i2 := As2.no Try.underlying114 (by kernel_rfl) (by kernel_rfl)
  i1 := As1.no Try.underlying114 (by kernel_rfl)
  o2 := As2.no Try.underlying118 (by kernel_rfl) (by kernel_rfl)
  o1 := As1.no Try.underlying118 (by kernel_rfl)
  l2 := As2.yes Try.underlying122 (by kernel_rfl)
  l1 := As1.yes Try.underlying122 (by kernel_rfl)
  wr := As2.no Try.underlying138 (by kernel_rfl) (by kernel_rfl)
  ob := As2.yes Try.underlying40 (by kernel_rfl)
theorem Ab_s10 : Ab 178 10 where
  v2 := As2.no Try.underlying110 (by kernel_rfl) (by kernel_rfl)
  v1 := As1.no Try.underlying110 (by kernel_rfl)
  i2 := As2.yes Try.underlying114 (by kernel_rfl)
  i1 := As1.yes Try.underlying114 (by kernel_rfl)
  o2 := As2.no Try.underlying118 (by kernel_rfl) (by kernel_rfl)
  o1 := As1.no Try.underlying118 (by kernel_rfl)
  l2 := As2.yes Try.underlying122 (by kernel_rfl)
  l1 := As1.yes Try.underlying122 (by kernel_rfl)
  wr := As2.no Try.underlying138 (by kernel_rfl) (by kernel_rfl)
  ob := As2.yes Try.underlying40 (by kernel_rfl)
theorem Ab_s11 : Ab 180 11 where
  v2 := As2.yes Try.underlying110 (by kernel_rfl)
  v1 := As1.yes Try.underlying110 (by kernel_rfl)
  i2 := As2.yes Try.underlying114 (by kernel_rfl)
  i1 := As1.yes Try.underlying114 (by kernel_rfl)
  o2 := As2.no Try.underlying118 (by kernel_rfl) (by kernel_rfl)
  o1 := As1.no Try.underlying118 (by kernel_rfl)
  l2 := As2.yes Try.underlying122 (by kernel_rfl)
  l1 := As1.yes Try.underlying122 (by kernel_rfl)
  wr := As2.no Try.underlying138 (by kernel_rfl) (by kernel_rfl)
  ob := As2.yes Try.underlying40 (by kernel_rfl)
theorem Ab_s12 : Ab 182 12 where
  v2 := As2.no Try.underlying110 (by kernel_rfl) (by kernel_rfl)
  v1 := As1.no Try.underlying110 (by kernel_rfl)
  i2 := As2.no Try.underlying114 (by kernel_rfl) (by kernel_rfl)
  i1 := As1.no Try.underlying114 (by kernel_rfl)
  o2 := As2.yes Try.underlying118 (by kernel_rfl)
  o1 := As1.yes Try.underlying118 (by kernel_rfl)
  l2 := As2.yes Try.underlying122 (by kernel_rfl)
  l1 := As1.yes Try.underlying122 (by kernel_rfl)
  wr := As2.no Try.underlying138 (by kernel_rfl) (by kernel_rfl)
  ob := As2.yes Try.underlying40 (by kernel_rfl)
theorem Ab_s13 : Ab 184 13 where
  v2 := As2.yes Try.underlying110 (by kernel_rfl)
  v1 := As1.yes Try.underlying110 (by kernel_rfl)
  i2 := As2.no Try.underlying114 (by kernel_rfl) (by kernel_rfl)
  i1 := As1.no Try.underlying114 (by kernel_rfl)
  o2 := As2.yes Try.underlying118 (by kernel_rfl)
  o1 := As1.yes Try.underlying118 (by kernel_rfl)
  l2 := As2.yes Try.underlying122 (by kernel_rfl)
  l1 := As1.yes Try.underlying122 (by kernel_rfl)
  wr := As2.no Try.underlying138 (by kernel_rfl) (by kernel_rfl)
  ob := As2.yes Try.underlying40 (by kernel_rfl)
theorem Ab_s14 : Ab 186 14 where
  v2 := As2.no Try.underlying110 (by kernel_rfl) (by kernel_rfl)
  v1 := As1.no Try.underlying110 (by kernel_rfl)
  i2 := As2.yes Try.underlying114 (by kernel_rfl)
  i1 := As1.yes Try.underlying114 (by kernel_rfl)
  o2 := As2.yes Try.underlying118 (by kernel_rfl)
  o1 := As1.yes Try.underlying118 (by kernel_rfl)
  l2 := As2.yes Try.underlying122 (by kernel_rfl)
  l1 := As1.yes Try.underlying122 (by kernel_rfl)
  wr := As2.no Try.underlying138 (by kernel_rfl) (by kernel_rfl)
  ob := As2.yes Try.underlying40 (by kernel_rfl)
theorem Ab_s15 : Ab 100 15 where
  v2 := As2.yes Try.underlying110 (by kernel_rfl)
  v1 := As1.yes Try.underlying110 (by kernel_rfl)
  i2 := As2.yes Try.underlying114 (by kernel_rfl)
  i1 := As1.yes Try.underlying114 (by kernel_rfl)
  o2 := As2.yes Try.underlying118 (by kernel_rfl)
  o1 := As1.yes Try.underlying118 (by kernel_rfl)
  l2 := As2.yes Try.underlying122 (by kernel_rfl)
  l1 := As1.yes Try.underlying122 (by kernel_rfl)
  wr := As2.no Try.underlying138 (by kernel_rfl) (by kernel_rfl)
  ob := As2.yes Try.underlying40 (by kernel_rfl)
theorem Ab_w0 : Ab 208 16 where
  v2 := As2.no Try.underlying110 (by kernel_rfl) (by kernel_rfl)
  v1 := As1.no Try.underlying110 (by kernel_rfl)
  i2 := As2.no Try.underlying114 (by kernel_rfl) (by kernel_rfl)
  i1 := As1.no Try.underlying114 (by kernel_rfl)
  o2 := As2.no Try.underlying118 (by kernel_rfl) (by kernel_rfl)
  o1 := As1.no Try.underlying118 (by kernel_rfl)
  l2 := As2.no Try.underlying122 (by kernel_rfl) (by kernel_rfl)
  l1 := As1.no Try.underlying122 (by kernel_rfl)
  wr := As2.yes Try.underlying138 (by kernel_rfl)
  ob := As2.yes Try.underlying40 (by kernel_rfl)
theorem Ab_w1 : Ab 187 17 where
  v2 := As2.yes Try.underlying110 (by kernel_rfl)
  v1 := As1.yes Try.underlying110 (by kernel_rfl)
  i2 := As2.no Try.underlying114 (by kernel_rfl) (by kernel_rfl)
  i1 := As1.no Try.underlying114 (by kernel_rfl)
  o2 := As2.no Try.underlying118 (by kernel_rfl) (by kernel_rfl)
  o1 := As1.no Try.underlying118 (by kernel_rfl)
  l2 := As2.no Try.underlying122 (by kernel_rfl) (by kernel_rfl)
  l1 := As1.no Try.underlying122 (by kernel_rfl)
  wr := As2.yes Try.underlying138 (by kernel_rfl)
  ob := As2.yes Try.underlying40 (by kernel_rfl)
theorem Ab_w2 : Ab 190 18 where
  v2 := As2.no Try.underlying110 (by kernel_rfl) (by kernel_rfl)
  v1 := As1.no Try.underlying110 (by kernel_rfl)
  i2 := As2.yes Try.underlying114 (by kernel_rfl)
  i1 := As1.yes Try.underlying114 (by kernel_rfl)
  o2 := As2.no Try.underlying118 (by kernel_rfl) (by kernel_rfl)
  o1 := As1.no Try.underlying118 (by kernel_rfl)
  l2 := As2.no Try.underlying122 (by kernel_rfl) (by kernel_rfl)
  l1 := As1.no Try.underlying122 (by kernel_rfl)
  wr := As2.yes Try.underlying138 (by kernel_rfl)
  ob := As2.yes Try.underlying40 (by kernel_rfl)
theorem Ab_w3 : Ab 193 19 where
  v2 := As2.yes Try.underlying110 (by kernel_rfl)
  v1 := As1.yes Try.underlying110 (by kernel_rfl)
  i2 := As2.yes Try.underlying114 (by kernel_rfl)
  i1 := As1.yes Try.underlying114 (by kernel_rfl)
  o2 := As2.no Try.underlying118 (by kernel_rfl) (by kernel_rfl)
  o1 := As1.no Try.underlying118 (by kernel_rfl)
  l2 := As2.no Try.underlying122 (by kernel_rfl) (by kernel_rfl)
  l1 := As1.no Try.underlying122 (by kernel_rfl)
  wr := As2.yes Try.underlying138 (by kernel_rfl)
  ob := As2.yes Try.underlying40 (by kernel_rfl)
theorem Ab_w4 : Ab 196 20 where
  v2 := As2.no Try.underlying110 (by kernel_rfl) (by kernel_rfl)
  v1 := As1.no Try.underlying110 (by kernel_rfl)
  i2 := As2.no Try.underlying114 (by kernel_rfl) (by kernel_rfl)
  i1 := As1.no Try.underlying114 (by kernel_rfl)
  o2 := As2.yes Try.underlying118 (by kernel_rfl)
  o1 := As1.yes Try.underlying118 (by kernel_rfl)
  l2 := As2.no Try.underlying122 (by kernel_rfl) (by kernel_rfl)
  l1 := As1.no Try.underlying122 (by kernel_rfl)
  wr := As2.yes Try.underlying138 (by kernel_rfl)
  ob := As2.yes Try.underlying40 (by kernel_rfl)
theorem Ab_w5 : Ab 199 21 where
  v2 := As2.yes Try.underlying110 (by kernel_rfl)
  v1 := As1.yes Try.underlying110 (by kernel_rfl)
  i2 := As2.no Try.underlying114 (by kernel_rfl) (by kernel_rfl)
  i1 := As1.no Try.underlying114 (by kernel_rfl)
  o2 := As2.yes Try.underlying118 (by kernel_rfl)
  o1 := As1.yes Try.underlying118 (by kernel_rfl)
  l2 := As2.no Try.underlying122 (by kernel_rfl) (by kernel_rfl)
  l1 := As1.no Try.underlying122 (by kernel_rfl)
  wr := As2.yes Try.underlying138 (by kernel_rfl)
  ob := As2.yes Try.underlying40 (by kernel_rfl)
theorem Ab_w6 : Ab 202 22 where
  v2 := As2.no Try.underlying110 (by kernel_rfl) (by kernel_rfl)
  v1 := As1.no Try.underlying110 (by kernel_rfl)
  i2 := As2.yes Try.underlying114 (by kernel_rfl)
  i1 := As1.yes Try.underlying114 (by kernel_rfl)
  o2 := As2.yes Try.underlying118 (by kernel_rfl)
  o1 := As1.yes Try.underlying118 (by kernel_rfl)
  l2 := As2.no Try.underlying122 (by kernel_rfl) (by kernel_rfl)
  l1 := As1.no Try.underlying122 (by kernel_rfl)
  wr := As2.yes Try.underlying138 (by kernel_rfl)
  ob := As2.yes Try.underlying40 (by kernel_rfl)
theorem Ab_w7 : Ab 205 23 where
  v2 := As2.yes Try.underlying110 (by kernel_rfl)
  v1 := As1.yes Try.underlying110 (by kernel_rfl)
  i2 := As2.yes Try.underlying114 (by kernel_rfl)
  i1 := As1.yes Try.underlying114 (by kernel_rfl)
  o2 := As2.yes Try.underlying118 (by kernel_rfl)
  o1 := As1.yes Try.underlying118 (by kernel_rfl)
  l2 := As2.no Try.underlying122 (by kernel_rfl) (by kernel_rfl)
  l1 := As1.no Try.underlying122 (by kernel_rfl)
  wr := As2.yes Try.underlying138 (by kernel_rfl)
  ob := As2.yes Try.underlying40 (by kernel_rfl)
theorem Ab_w8 : Ab 237 24 where
  v2 := As2.no Try.underlying110 (by kernel_rfl) (by kernel_rfl)
  v1 := As1.no Try.underlying110 (by kernel_rfl)
  i2 := As2.no Try.underlying114 (by kernel_rfl) (by kernel_rfl)
  i1 := As1.no Try.underlying114 (by kernel_rfl)
  o2 := As2.no Try.underlying118 (by kernel_rfl) (by kernel_rfl)
  o1 := As1.no Try.underlying118 (by kernel_rfl)
  l2 := As2.yes Try.underlying122 (by kernel_rfl)
  l1 := As1.yes Try.underlying122 (by kernel_rfl)
  wr := As2.yes Try.underlying138 (by kernel_rfl)
  ob := As2.yes Try.underlying40 (by kernel_rfl)
theorem Ab_w9 : Ab 216 25 where
  v2 := As2.yes Try.underlying110 (by kernel_rfl)
  v1 := As1.yes Try.underlying110 (by kernel_rfl)
  i2 := As2.no Try.underlying114 (by kernel_rfl) (by kernel_rfl)
  i1 := As1.no Try.underlying114 (by kernel_rfl)
  o2 := As2.no Try.underlying118 (by kernel_rfl) (by kernel_rfl)
  o1 := As1.no Try.underlying118 (by kernel_rfl)
  l2 := As2.yes Try.underlying122 (by kernel_rfl)
  l1 := As1.yes Try.underlying122 (by kernel_rfl)
  wr := As2.yes Try.underlying138 (by kernel_rfl)
  ob := As2.yes Try.underlying40 (by kernel_rfl)
theorem Ab_w10 : Ab 219 26 where
  v2 := As2.no Try.underlying110 (by kernel_rfl) (by kernel_rfl)
  v1 := As1.no Try.underlying110 (by kernel_rfl)
  i2 := As2.yes Try.underlying114 (by kernel_rfl)
  i1 := As1.yes Try.underlying114 (by kernel_rfl)
  o2 := As2.no Try.underlying118 (by kernel_rfl) (by kernel_rfl)
  o1 := As1.no Try.underlying118 (by kernel_rfl)
  l2 := As2.yes Try.underlying122 (by kernel_rfl)
  l1 := As1.yes Try.underlying122 (by kernel_rfl)
  wr := As2.yes Try.underlying138 (by kernel_rfl)
  ob := As2.yes Try.underlying40 (by kernel_rfl)
theorem Ab_w11 : Ab 222 27 where
  v2 := As2.yes Try.underlying110 (by kernel_rfl)
  v1 := As1.yes Try.underlying110 (by kernel_rfl)
  i2 := As2.yes Try.underlying114 (by kernel_rfl)
  i1 := As1.yes Try.underlying114 (by kernel_rfl)
  o2 := As2.no Try.underlying118 (by kernel_rfl) (by kernel_rfl)
  o1 := As1.no Try.underlying118 (by kernel_rfl)
  l2 := As2.yes Try.underlying122 (by kernel_rfl)
  l1 := As1.yes Try.underlying122 (by kernel_rfl)
  wr := As2.yes Try.underlying138 (by kernel_rfl)
  ob := As2.yes Try.underlying40 (by kernel_rfl)
theorem Ab_w12 : Ab 225 28 where
  v2 := As2.no Try.underlying110 (by kernel_rfl) (by kernel_rfl)
  v1 := As1.no Try.underlying110 (by kernel_rfl)
  i2 := As2.no Try.underlying114 (by kernel_rfl) (by kernel_rfl)
  i1 := As1.no Try.underlying114 (by kernel_rfl)
  o2 := As2.yes Try.underlying118 (by kernel_rfl)
  o1 := As1.yes Try.underlying118 (by kernel_rfl)
  l2 := As2.yes Try.underlying122 (by kernel_rfl)
  l1 := As1.yes Try.underlying122 (by kernel_rfl)
  wr := As2.yes Try.underlying138 (by kernel_rfl)
  ob := As2.yes Try.underlying40 (by kernel_rfl)
theorem Ab_w13 : Ab 228 29 where
  v2 := As2.yes Try.underlying110 (by kernel_rfl)
  v1 := As1.yes Try.underlying110 (by kernel_rfl)
  i2 := As2.no Try.underlying114 (by kernel_rfl) (by kernel_rfl)
  i1 := As1.no Try.underlying114 (by kernel_rfl)
  o2 := As2.yes Try.underlying118 (by kernel_rfl)
  o1 := As1.yes Try.underlying118 (by kernel_rfl)
  l2 := As2.yes Try.underlying122 (by kernel_rfl)
  l1 := As1.yes Try.underlying122 (by kernel_rfl)
  wr := As2.yes Try.underlying138 (by kernel_rfl)
  ob := As2.yes Try.underlying40 (by kernel_rfl)
theorem Ab_w14 : Ab 231 30 where
  v2 := As2.no Try.underlying110 (by kernel_rfl) (by kernel_rfl)
  v1 := As1.no Try.underlying110 (by kernel_rfl)
  i2 := As2.yes Try.underlying114 (by kernel_rfl)
  i1 := As1.yes Try.underlying114 (by kernel_rfl)
  o2 := As2.yes Try.underlying118 (by kernel_rfl)
  o1 := As1.yes Try.underlying118 (by kernel_rfl)
  l2 := As2.yes Try.underlying122 (by kernel_rfl)
  l1 := As1.yes Try.underlying122 (by kernel_rfl)
  wr := As2.yes Try.underlying138 (by kernel_rfl)
  ob := As2.yes Try.underlying40 (by kernel_rfl)
theorem Ab_w15 : Ab 234 31 where
  v2 := As2.yes Try.underlying110 (by kernel_rfl)
  v1 := As1.yes Try.underlying110 (by kernel_rfl)
  i2 := As2.yes Try.underlying114 (by kernel_rfl)
  i1 := As1.yes Try.underlying114 (by kernel_rfl)
  o2 := As2.yes Try.underlying118 (by kernel_rfl)
  o1 := As1.yes Try.underlying118 (by kernel_rfl)
  l2 := As2.yes Try.underlying122 (by kernel_rfl)
  l1 := As1.yes Try.underlying122 (by kernel_rfl)
  wr := As2.yes Try.underlying138 (by kernel_rfl)
  ob := As2.yes Try.underlying40 (by kernel_rfl)
theorem Ab_u0 : Ab 90 0 where
  v2 := As2.no Try.underlying110 (by kernel_rfl) (by kernel_rfl)
  v1 := As1.no Try.underlying110 (by kernel_rfl)
  i2 := As2.no Try.underlying114 (by kernel_rfl) (by kernel_rfl)
  i1 := As1.no Try.underlying114 (by kernel_rfl)
  o2 := As2.no Try.underlying118 (by kernel_rfl) (by kernel_rfl)
  o1 := As1.no Try.underlying118 (by kernel_rfl)
  l2 := As2.no Try.underlying122 (by kernel_rfl) (by kernel_rfl)
  l1 := As1.no Try.underlying122 (by kernel_rfl)
  wr := As2.no Try.underlying138 (by kernel_rfl) (by kernel_rfl)
  ob := As2.yes Try.underlying40 (by kernel_rfl)
theorem Ab_u15 : Ab 104 15 where
  v2 := As2.yes Try.underlying110 (by kernel_rfl)
  v1 := As1.yes Try.underlying110 (by kernel_rfl)
  i2 := As2.yes Try.underlying114 (by kernel_rfl)
  i1 := As1.yes Try.underlying114 (by kernel_rfl)
  o2 := As2.yes Try.underlying118 (by kernel_rfl)
  o1 := As1.yes Try.underlying118 (by kernel_rfl)
  l2 := As2.yes Try.underlying122 (by kernel_rfl)
  l1 := As1.yes Try.underlying122 (by kernel_rfl)
  wr := As2.no Try.underlying138 (by kernel_rfl) (by kernel_rfl)
  ob := As2.yes Try.underlying40 (by kernel_rfl)

theorem ta_thing (T xT : TypeId) (v : Value) (w : World) : (Instr.typeAssert (.iface T v) xT 136 true).run Try.prog w = .ok (if T = 136 then .tuple #[v, .bool true] else .tuple #[.pointer none, .bool false]) w :=
  ta_of Try.prog (d := .pointer 274) (by kernel_rfl) (by simp) T _ v w (by kernel_rfl)
end Go.Proofs.Ytcelbkkgjnfblaa

/- object.holds, as, As, must, Must and Abilities, of objects whose type's abilities are known. -/
namespace Go.Proofs.Ytcelbkkgjnfblaa
open Go.RowKit

theorem eqn_obj (T : Nat) (v : Value) (w : World) : (binOp .eql 40 (.iface T v) .nilIface).run Try.prog w = .ok (.bool false) w := by kernel_rfl
theorem eqng_obj (T : Nat) (v : Value) (x y : Operand) (w : World) : (eqGuard .eql 40 x y (.iface T v) .nilIface).run Try.prog w = .ok () w := by kernel_rfl

set_option maxRecDepth 100000 in
set_option maxHeartbeats 1000000 in
theorem holds_thing (a : Addr) (w : World) :
    Calls Try.prog 40 #[.iface 136 (.pointer (some a))] w fun e w' => e = .returned (.int .i64 0) ∧ w = w' := by
  have hq := eqn_obj
  have hg := eqng_obj
  have ht : ∀ xT W, (Instr.typeAssert (.iface 136 (.pointer (some a))) xT 136 true).run Try.prog W = .ok (.tuple #[.pointer (some a), .bool true]) W := fun xT W => by rw [ta_thing]; rfl
  go_enter Try.func40, Try.ntmps40
  go_wp2_with fail
  go_ret
  exact ⟨rfl, rfl⟩

set_option maxRecDepth 100000 in
set_option maxHeartbeats 1000000 in
theorem holds_other (T : Nat) (hT : T ≠ 136) (v : Value) (w : World) :
    Calls Try.prog 40 #[.iface T v] w fun e w' => e = .returned (.int .i64 0) ∧ w = w' := by
  have hq := eqn_obj
  have hg := eqng_obj
  have ht : ∀ xT W, (Instr.typeAssert (.iface T v) xT 136 true).run Try.prog W = .ok (.tuple #[.pointer none, .bool false]) W := fun xT W => by rw [ta_thing, if_neg hT]
  clear hT
  go_enter Try.func40, Try.ntmps40
  go_wp2_with fail
  go_ret
  exact ⟨rfl, rfl⟩

/-- o is Something: a Thing that is there, or of another type. -/
def Sm (T : Nat) (v : Value) : Prop := (T = 136 ∧ ∃ a, v = .pointer (some a)) ∨ T ≠ 136
theorem holds_sm {T : Nat} {v : Value} (h : Sm T v) (w : World) : Calls Try.prog 40 #[.iface T v] w fun e w' => e = .returned (.int .i64 0) ∧ w = w' := by
  rcases h with ⟨rfl, a, rfl⟩ | h
  · exact holds_thing a w
  · exact holds_other T h v w

set_option maxRecDepth 100000 in
set_option maxHeartbeats 1000000 in
theorem as_Versioned {T n : Nat} (h : Ab T n) (v : Value) (w : World) :
    Calls Try.prog 50 #[.iface T v] w fun e w' => e = .returned (.tuple #[if n.testBit 0 then .iface T v else .nilIface, .bool (n.testBit 0)]) ∧ w = w' := by
  have h2 := h.v2
  unfold As2 at h2
  generalize hb : (n.testBit 0) = b at h2
  clear hb h
  cases b
  · simp only [Bool.false_eq_true, if_false] at h2 ⊢
    go_enter Try.func50, Try.ntmps50
    go_wp2_with fail
    go_ret2
    exact ⟨rfl, rfl⟩
  · simp only [if_true] at h2 ⊢
    go_enter Try.func50, Try.ntmps50
    go_wp2_with fail
    go_ret2
    exact ⟨rfl, rfl⟩

set_option maxRecDepth 100000 in
set_option maxHeartbeats 1000000 in
theorem As_Versioned {T n : Nat} (h : Ab T n) {v : Value} (hs : Sm T v) (w : World) :
    Calls Try.prog 42 #[.iface T v] w fun e w' => e = .returned (.tuple #[if n.testBit 0 then .iface T v else .nilIface, .bool (n.testBit 0)]) ∧ w = w' := by
  have HA : Hid (∀ W, Calls Try.prog 50 #[.iface T v] W fun e w' => e = .returned (.tuple #[if n.testBit 0 then .iface T v else .nilIface, .bool (n.testBit 0)]) ∧ W = w') := fun W => as_Versioned h v W
  have HS : Hid (∀ W, Calls Try.prog 40 #[.iface T v] W fun e w' => e = .returned (.int .i64 0) ∧ W = w') := fun W => holds_sm hs W
  generalize (if n.testBit 0 then Value.iface T v else Value.nilIface) = X at HA ⊢
  generalize (n.testBit 0) = b at HA ⊢
  clear h hs
  go_enter Try.func42, Try.ntmps42
  go_wp2_with (first | (go_at_call 40; refine (HS.out _).mono ?_; rintro e w' ⟨rfl, rfl⟩) | (go_at_call 50; refine (HA.out _).mono ?_; rintro e w' ⟨rfl, rfl⟩))
  go_ret2
  exact ⟨rfl, rfl⟩

set_option maxRecDepth 100000 in
set_option maxHeartbeats 1000000 in
theorem as_Indexed {T n : Nat} (h : Ab T n) (v : Value) (w : World) :
    Calls Try.prog 51 #[.iface T v] w fun e w' => e = .returned (.tuple #[if n.testBit 1 then .iface T v else .nilIface, .bool (n.testBit 1)]) ∧ w = w' := by
  have h2 := h.i2
  unfold As2 at h2
  generalize hb : (n.testBit 1) = b at h2
  clear hb h
  cases b
  · simp only [Bool.false_eq_true, if_false] at h2 ⊢
    go_enter Try.func51, Try.ntmps51
    go_wp2_with fail
    go_ret2
    exact ⟨rfl, rfl⟩
  · simp only [if_true] at h2 ⊢
    go_enter Try.func51, Try.ntmps51
    go_wp2_with fail
    go_ret2
    exact ⟨rfl, rfl⟩

set_option maxRecDepth 100000 in
set_option maxHeartbeats 1000000 in
theorem As_Indexed {T n : Nat} (h : Ab T n) {v : Value} (hs : Sm T v) (w : World) :
    Calls Try.prog 43 #[.iface T v] w fun e w' => e = .returned (.tuple #[if n.testBit 1 then .iface T v else .nilIface, .bool (n.testBit 1)]) ∧ w = w' := by
  have HA : Hid (∀ W, Calls Try.prog 51 #[.iface T v] W fun e w' => e = .returned (.tuple #[if n.testBit 1 then .iface T v else .nilIface, .bool (n.testBit 1)]) ∧ W = w') := fun W => as_Indexed h v W
  have HS : Hid (∀ W, Calls Try.prog 40 #[.iface T v] W fun e w' => e = .returned (.int .i64 0) ∧ W = w') := fun W => holds_sm hs W
  generalize (if n.testBit 1 then Value.iface T v else Value.nilIface) = X at HA ⊢
  generalize (n.testBit 1) = b at HA ⊢
  clear h hs
  go_enter Try.func43, Try.ntmps43
  go_wp2_with (first | (go_at_call 40; refine (HS.out _).mono ?_; rintro e w' ⟨rfl, rfl⟩) | (go_at_call 51; refine (HA.out _).mono ?_; rintro e w' ⟨rfl, rfl⟩))
  go_ret2
  exact ⟨rfl, rfl⟩

set_option maxRecDepth 100000 in
set_option maxHeartbeats 1000000 in
theorem as_Owned {T n : Nat} (h : Ab T n) (v : Value) (w : World) :
    Calls Try.prog 52 #[.iface T v] w fun e w' => e = .returned (.tuple #[if n.testBit 2 then .iface T v else .nilIface, .bool (n.testBit 2)]) ∧ w = w' := by
  have h2 := h.o2
  unfold As2 at h2
  generalize hb : (n.testBit 2) = b at h2
  clear hb h
  cases b
  · simp only [Bool.false_eq_true, if_false] at h2 ⊢
    go_enter Try.func52, Try.ntmps52
    go_wp2_with fail
    go_ret2
    exact ⟨rfl, rfl⟩
  · simp only [if_true] at h2 ⊢
    go_enter Try.func52, Try.ntmps52
    go_wp2_with fail
    go_ret2
    exact ⟨rfl, rfl⟩

set_option maxRecDepth 100000 in
set_option maxHeartbeats 1000000 in
theorem As_Owned {T n : Nat} (h : Ab T n) {v : Value} (hs : Sm T v) (w : World) :
    Calls Try.prog 44 #[.iface T v] w fun e w' => e = .returned (.tuple #[if n.testBit 2 then .iface T v else .nilIface, .bool (n.testBit 2)]) ∧ w = w' := by
  have HA : Hid (∀ W, Calls Try.prog 52 #[.iface T v] W fun e w' => e = .returned (.tuple #[if n.testBit 2 then .iface T v else .nilIface, .bool (n.testBit 2)]) ∧ W = w') := fun W => as_Owned h v W
  have HS : Hid (∀ W, Calls Try.prog 40 #[.iface T v] W fun e w' => e = .returned (.int .i64 0) ∧ W = w') := fun W => holds_sm hs W
  generalize (if n.testBit 2 then Value.iface T v else Value.nilIface) = X at HA ⊢
  generalize (n.testBit 2) = b at HA ⊢
  clear h hs
  go_enter Try.func44, Try.ntmps44
  go_wp2_with (first | (go_at_call 40; refine (HS.out _).mono ?_; rintro e w' ⟨rfl, rfl⟩) | (go_at_call 52; refine (HA.out _).mono ?_; rintro e w' ⟨rfl, rfl⟩))
  go_ret2
  exact ⟨rfl, rfl⟩

set_option maxRecDepth 100000 in
set_option maxHeartbeats 1000000 in
theorem as_Lazy {T n : Nat} (h : Ab T n) (v : Value) (w : World) :
    Calls Try.prog 53 #[.iface T v] w fun e w' => e = .returned (.tuple #[if n.testBit 3 then .iface T v else .nilIface, .bool (n.testBit 3)]) ∧ w = w' := by
  have h2 := h.l2
  unfold As2 at h2
  generalize hb : (n.testBit 3) = b at h2
  clear hb h
  cases b
  · simp only [Bool.false_eq_true, if_false] at h2 ⊢
    go_enter Try.func53, Try.ntmps53
    go_wp2_with fail
    go_ret2
    exact ⟨rfl, rfl⟩
  · simp only [if_true] at h2 ⊢
    go_enter Try.func53, Try.ntmps53
    go_wp2_with fail
    go_ret2
    exact ⟨rfl, rfl⟩

set_option maxRecDepth 100000 in
set_option maxHeartbeats 1000000 in
theorem As_Lazy {T n : Nat} (h : Ab T n) {v : Value} (hs : Sm T v) (w : World) :
    Calls Try.prog 45 #[.iface T v] w fun e w' => e = .returned (.tuple #[if n.testBit 3 then .iface T v else .nilIface, .bool (n.testBit 3)]) ∧ w = w' := by
  have HA : Hid (∀ W, Calls Try.prog 53 #[.iface T v] W fun e w' => e = .returned (.tuple #[if n.testBit 3 then .iface T v else .nilIface, .bool (n.testBit 3)]) ∧ W = w') := fun W => as_Lazy h v W
  have HS : Hid (∀ W, Calls Try.prog 40 #[.iface T v] W fun e w' => e = .returned (.int .i64 0) ∧ W = w') := fun W => holds_sm hs W
  generalize (if n.testBit 3 then Value.iface T v else Value.nilIface) = X at HA ⊢
  generalize (n.testBit 3) = b at HA ⊢
  clear h hs
  go_enter Try.func45, Try.ntmps45
  go_wp2_with (first | (go_at_call 40; refine (HS.out _).mono ?_; rintro e w' ⟨rfl, rfl⟩) | (go_at_call 53; refine (HA.out _).mono ?_; rintro e w' ⟨rfl, rfl⟩))
  go_ret2
  exact ⟨rfl, rfl⟩

/-- How a panicking assertion ends: kind 0, or Go's own panic. -/
def MustE : Bool → Value → World → Ending → World → Prop
  | true, x, w, e, w' => e = .returned x ∧ w = w'
  | false, _, w, e, w' => ∃ v, e = .panicked [{ v := v, recovered := false }] ∧ Kd v 1 9 ∧ Below w.heap.size w w'

def addUp (b0 b1 b2 b3 : Bool) : Int := (if b0 then 1 else 0) + (if b1 then 2 else 0) + (if b2 then 4 else 0) + (if b3 then 8 else 0)
theorem addUp_bits (n : Nat) (h : n < 16) : addUp (n.testBit 0) (n.testBit 1) (n.testBit 2) (n.testBit 3) = (n : Int) := by
  revert n; decide +kernel

set_option maxRecDepth 100000 in
set_option maxHeartbeats 1000000 in
theorem abilitiesOf_bt {T n : Nat} (h : Ab T n) (v : Value) (w : World) :
    Calls Try.prog 41 #[.iface T v] w fun e w' => e = .returned (.int .i64 (addUp (n.testBit 0) (n.testBit 1) (n.testBit 2) (n.testBit 3))) ∧ w = w' := by
  have h0 := h.v2
  have h1 := h.i2
  have h2 := h.o2
  have h3 := h.l2
  unfold As2 at h0 h1 h2 h3
  generalize (n.testBit 0) = b0 at h0 ⊢
  generalize (n.testBit 1) = b1 at h1 ⊢
  generalize (n.testBit 2) = b2 at h2 ⊢
  generalize (n.testBit 3) = b3 at h3 ⊢
  clear h
  cases b0 <;> cases b1 <;> cases b2 <;> cases b3 <;> (
    simp only [Bool.false_eq_true, if_false, if_true] at h0 h1 h2 h3
    go_enter Try.func41, Try.ntmps41
    go_wp2_with fail
    go_ret
    exact ⟨rfl, rfl⟩)

set_option maxRecDepth 100000 in
set_option maxHeartbeats 1000000 in
theorem Abilities_bt {T n : Nat} (h : Ab T n) {v : Value} (hs : Sm T v) (w : World) :
    Calls Try.prog 19 #[.iface T v] w fun e w' => e = .returned (.tuple #[.int .i64 (addUp (n.testBit 0) (n.testBit 1) (n.testBit 2) (n.testBit 3)), .int .i64 0]) ∧ w = w' := by
  have HA : Hid (∀ W, Calls Try.prog 41 #[.iface T v] W fun e w' => e = .returned (.int .i64 (addUp (n.testBit 0) (n.testBit 1) (n.testBit 2) (n.testBit 3))) ∧ W = w') := fun W => abilitiesOf_bt h v W
  have HS : Hid (∀ W, Calls Try.prog 40 #[.iface T v] W fun e w' => e = .returned (.int .i64 0) ∧ W = w') := fun W => holds_sm hs W
  generalize addUp (n.testBit 0) (n.testBit 1) (n.testBit 2) (n.testBit 3) = k at HA ⊢
  clear h hs
  go_enter Try.func19, Try.ntmps19
  go_wp2_with (first | (go_at_call 40; refine (HS.out _).mono ?_; rintro e w' ⟨rfl, rfl⟩) | (go_at_call 41; refine (HA.out _).mono ?_; rintro e w' ⟨rfl, rfl⟩))
  go_ret2
  exact ⟨rfl, rfl⟩

end Go.Proofs.Ytcelbkkgjnfblaa

/- tenonref10.Fit, Nil; tenonmake.Object: what objects are made of descriptions. -/
namespace Go.Proofs.Ytcelbkkgjnfblaa
open Go.RowKit

/-- a description's cells: what it holds, which abilities, which shape; the rest is kept as it is -/
structure Sr where
  (id : Int) (fa : Option Addr) (fl fc : Nat) (cl : ByteArray) (ve : Int) (ka : Option Addr) (kl kc : Nat) (ow : ByteArray) (gv : Int) (ld : Bool) (lo : Int) (pa wi : Int)
def Sr.cs (r : Sr) (h n sh : Int) : Array Value := #[.int .i64 h, .int .i64 n, .int .i64 sh, .int .u64 r.id, .slice r.fa r.fl r.fc, .string r.cl, .int .i64 r.ve, .slice r.ka r.kl r.kc, .string r.ow, .int .i64 r.gv, .bool r.ld, .int .i64 r.lo, .int .i64 r.pa, .int .i64 r.wi]

/-- a number made to fit below m -/
def fitM (m h : Int) : Int := (wrap64 (h.tmod m + m)).tmod m
theorem fit_eq (m h : Int) (hm : 0 < m) (hm2 : m ≤ 16) : (0 ≤ (wrap64 (h.tmod m + m)).tmod m ∧ (wrap64 (h.tmod m + m)).tmod m < m) ∧ (0 ≤ h → h < m → (wrap64 (h.tmod m + m)).tmod m = h) := by
  have h1 : h.tmod m < m := Int.tmod_lt_of_pos h hm
  have h2 : -m < h.tmod m := Int.lt_tmod_of_pos h hm
  have h3 : wrap64 (h.tmod m + m) = h.tmod m + m := by unfold wrap64; omega
  rw [h3]
  have h4 : 0 ≤ h.tmod m + m := by omega
  rw [Int.tmod_eq_emod_of_nonneg h4]
  refine ⟨⟨Int.emod_nonneg _ (by omega), Int.emod_lt_of_pos _ hm⟩, fun a b => ?_⟩
  rw [Int.tmod_eq_of_lt a b, Int.add_emod_right]
  exact Int.emod_eq_of_lt a b

set_option maxRecDepth 100000 in
set_option maxHeartbeats 1000000 in
theorem Fit_any (r : Sr) (h n sh : Int) (w : World) :
    Calls Try.prog 16 #[.agg (r.cs h n sh)] w fun e w' => e = .returned (.agg (r.cs (fitM 4 h) (fitM 16 n) sh)) ∧ Below w.heap.size w w' := by
  unfold Sr.cs
  go_enter Try.func16, Try.ntmps16
  go_wp2_with fail
  refine bodyPost_ret (v := .agg #[.int .i64 ((wrap64 (h.tmod 4 + 4)).tmod 4), .int .i64 ((wrap64 (n.tmod 16 + 16)).tmod 16), .int .i64 sh, .int .u64 r.id, .slice r.fa r.fl r.fc, .string r.cl, .int .i64 r.ve, .slice r.ka r.kl r.kc, .string r.ow, .int .i64 r.gv, .bool r.ld, .int .i64 r.lo, .int .i64 r.pa, .int .i64 r.wi]) (by simp [results, Try.results16, go_sem] <;> rfl) rfl ?_
  exact ⟨rfl, ((Below.refl _ _).alloc (Nat.le_refl _) _).alloc (by simp) _⟩
theorem fitM_eq (m h : Int) (hm : 0 < m) (hm2 : m ≤ 16) : (0 ≤ fitM m h ∧ fitM m h < m) ∧ (0 ≤ h → h < m → fitM m h = h) := fit_eq m h hm hm2
end Go.Proofs.Ytcelbkkgjnfblaa

/- tenonmake.pointer: a new object of the type that has just the abilities. -/
namespace Go.Proofs.Ytcelbkkgjnfblaa
open Go.RowKit

set_option maxRecDepth 100000 in
set_option maxHeartbeats 2000000 in
theorem mk_pointer_0 (b : Nat) (w : World) (hc : w.cell? ⟨b, 1, none⟩ = some (.int .i64 0)) :
    Calls Try.prog 35 #[.pointer (some ⟨b, 0, none⟩)] w fun e w' => ∃ v, e = .returned (.iface 141 v) ∧ Below w.heap.size w w' := by
  go_enter Try.func35, Try.ntmps35
  go_wp2_with fail
  go_ret
  exact ⟨_, rfl, (Below.refl _ _).alloc (Nat.le_refl _) _⟩

set_option maxRecDepth 100000 in
set_option maxHeartbeats 2000000 in
theorem mk_pointer_1 (b : Nat) (w : World) (hc : w.cell? ⟨b, 1, none⟩ = some (.int .i64 1)) :
    Calls Try.prog 35 #[.pointer (some ⟨b, 0, none⟩)] w fun e w' => ∃ v, e = .returned (.iface 142 v) ∧ Below w.heap.size w w' := by
  go_enter Try.func35, Try.ntmps35
  go_wp2_with fail
  go_ret
  exact ⟨_, rfl, (Below.refl _ _).alloc (Nat.le_refl _) _⟩

set_option maxRecDepth 100000 in
set_option maxHeartbeats 2000000 in
theorem mk_pointer_2 (b : Nat) (w : World) (hc : w.cell? ⟨b, 1, none⟩ = some (.int .i64 2)) :
    Calls Try.prog 35 #[.pointer (some ⟨b, 0, none⟩)] w fun e w' => ∃ v, e = .returned (.iface 143 v) ∧ Below w.heap.size w w' := by
  go_enter Try.func35, Try.ntmps35
  go_wp2_with fail
  go_ret
  exact ⟨_, rfl, (Below.refl _ _).alloc (Nat.le_refl _) _⟩

set_option maxRecDepth 100000 in
set_option maxHeartbeats 2000000 in
theorem mk_pointer_3 (b : Nat) (w : World) (hc : w.cell? ⟨b, 1, none⟩ = some (.int .i64 3)) :
    Calls Try.prog 35 #[.pointer (some ⟨b, 0, none⟩)] w fun e w' => ∃ v, e = .returned (.iface 144 v) ∧ Below w.heap.size w w' := by
  go_enter Try.func35, Try.ntmps35
  go_wp2_with fail
  go_ret
  exact ⟨_, rfl, (Below.refl _ _).alloc (Nat.le_refl _) _⟩

set_option maxRecDepth 100000 in
set_option maxHeartbeats 2000000 in
theorem mk_pointer_4 (b : Nat) (w : World) (hc : w.cell? ⟨b, 1, none⟩ = some (.int .i64 4)) :
    Calls Try.prog 35 #[.pointer (some ⟨b, 0, none⟩)] w fun e w' => ∃ v, e = .returned (.iface 145 v) ∧ Below w.heap.size w w' := by
  go_enter Try.func35, Try.ntmps35
  go_wp2_with fail
  go_ret
  exact ⟨_, rfl, (Below.refl _ _).alloc (Nat.le_refl _) _⟩

set_option maxRecDepth 100000 in
set_option maxHeartbeats 2000000 in
theorem mk_pointer_5 (b : Nat) (w : World) (hc : w.cell? ⟨b, 1, none⟩ = some (.int .i64 5)) :
    Calls Try.prog 35 #[.pointer (some ⟨b, 0, none⟩)] w fun e w' => ∃ v, e = .returned (.iface 146 v) ∧ Below w.heap.size w w' := by
  go_enter Try.func35, Try.ntmps35
  go_wp2_with fail
  go_ret
  exact ⟨_, rfl, (Below.refl _ _).alloc (Nat.le_refl _) _⟩

set_option maxRecDepth 100000 in
set_option maxHeartbeats 2000000 in
theorem mk_pointer_6 (b : Nat) (w : World) (hc : w.cell? ⟨b, 1, none⟩ = some (.int .i64 6)) :
    Calls Try.prog 35 #[.pointer (some ⟨b, 0, none⟩)] w fun e w' => ∃ v, e = .returned (.iface 147 v) ∧ Below w.heap.size w w' := by
  go_enter Try.func35, Try.ntmps35
  go_wp2_with fail
  go_ret
  exact ⟨_, rfl, (Below.refl _ _).alloc (Nat.le_refl _) _⟩

set_option maxRecDepth 100000 in
set_option maxHeartbeats 2000000 in
theorem mk_pointer_7 (b : Nat) (w : World) (hc : w.cell? ⟨b, 1, none⟩ = some (.int .i64 7)) :
    Calls Try.prog 35 #[.pointer (some ⟨b, 0, none⟩)] w fun e w' => ∃ v, e = .returned (.iface 148 v) ∧ Below w.heap.size w w' := by
  go_enter Try.func35, Try.ntmps35
  go_wp2_with fail
  go_ret
  exact ⟨_, rfl, (Below.refl _ _).alloc (Nat.le_refl _) _⟩

set_option maxRecDepth 100000 in
set_option maxHeartbeats 2000000 in
theorem mk_pointer_8 (b : Nat) (w : World) (hc : w.cell? ⟨b, 1, none⟩ = some (.int .i64 8)) :
    Calls Try.prog 35 #[.pointer (some ⟨b, 0, none⟩)] w fun e w' => ∃ v, e = .returned (.iface 149 v) ∧ Below w.heap.size w w' := by
  go_enter Try.func35, Try.ntmps35
  go_wp2_with fail
  go_ret
  exact ⟨_, rfl, (Below.refl _ _).alloc (Nat.le_refl _) _⟩

set_option maxRecDepth 100000 in
set_option maxHeartbeats 2000000 in
theorem mk_pointer_9 (b : Nat) (w : World) (hc : w.cell? ⟨b, 1, none⟩ = some (.int .i64 9)) :
    Calls Try.prog 35 #[.pointer (some ⟨b, 0, none⟩)] w fun e w' => ∃ v, e = .returned (.iface 150 v) ∧ Below w.heap.size w w' := by
  go_enter Try.func35, Try.ntmps35
  go_wp2_with fail
  go_ret
  exact ⟨_, rfl, (Below.refl _ _).alloc (Nat.le_refl _) _⟩

set_option maxRecDepth 100000 in
set_option maxHeartbeats 2000000 in
theorem mk_pointer_10 (b : Nat) (w : World) (hc : w.cell? ⟨b, 1, none⟩ = some (.int .i64 10)) :
    Calls Try.prog 35 #[.pointer (some ⟨b, 0, none⟩)] w fun e w' => ∃ v, e = .returned (.iface 151 v) ∧ Below w.heap.size w w' := by
  go_enter Try.func35, Try.ntmps35
  go_wp2_with fail
  go_ret
  exact ⟨_, rfl, (Below.refl _ _).alloc (Nat.le_refl _) _⟩

set_option maxRecDepth 100000 in
set_option maxHeartbeats 2000000 in
theorem mk_pointer_11 (b : Nat) (w : World) (hc : w.cell? ⟨b, 1, none⟩ = some (.int .i64 11)) :
    Calls Try.prog 35 #[.pointer (some ⟨b, 0, none⟩)] w fun e w' => ∃ v, e = .returned (.iface 152 v) ∧ Below w.heap.size w w' := by
  go_enter Try.func35, Try.ntmps35
  go_wp2_with fail
  go_ret
  exact ⟨_, rfl, (Below.refl _ _).alloc (Nat.le_refl _) _⟩

set_option maxRecDepth 100000 in
set_option maxHeartbeats 2000000 in
theorem mk_pointer_12 (b : Nat) (w : World) (hc : w.cell? ⟨b, 1, none⟩ = some (.int .i64 12)) :
    Calls Try.prog 35 #[.pointer (some ⟨b, 0, none⟩)] w fun e w' => ∃ v, e = .returned (.iface 153 v) ∧ Below w.heap.size w w' := by
  go_enter Try.func35, Try.ntmps35
  go_wp2_with fail
  go_ret
  exact ⟨_, rfl, (Below.refl _ _).alloc (Nat.le_refl _) _⟩

set_option maxRecDepth 100000 in
set_option maxHeartbeats 2000000 in
theorem mk_pointer_13 (b : Nat) (w : World) (hc : w.cell? ⟨b, 1, none⟩ = some (.int .i64 13)) :
    Calls Try.prog 35 #[.pointer (some ⟨b, 0, none⟩)] w fun e w' => ∃ v, e = .returned (.iface 154 v) ∧ Below w.heap.size w w' := by
  go_enter Try.func35, Try.ntmps35
  go_wp2_with fail
  go_ret
  exact ⟨_, rfl, (Below.refl _ _).alloc (Nat.le_refl _) _⟩

set_option maxRecDepth 100000 in
set_option maxHeartbeats 2000000 in
theorem mk_pointer_14 (b : Nat) (w : World) (hc : w.cell? ⟨b, 1, none⟩ = some (.int .i64 14)) :
    Calls Try.prog 35 #[.pointer (some ⟨b, 0, none⟩)] w fun e w' => ∃ v, e = .returned (.iface 155 v) ∧ Below w.heap.size w w' := by
  go_enter Try.func35, Try.ntmps35
  go_wp2_with fail
  go_ret
  exact ⟨_, rfl, (Below.refl _ _).alloc (Nat.le_refl _) _⟩

set_option maxRecDepth 100000 in
set_option maxHeartbeats 2000000 in
theorem mk_pointer_15 (b : Nat) (w : World) (hc : w.cell? ⟨b, 1, none⟩ = some (.int .i64 15)) :
    Calls Try.prog 35 #[.pointer (some ⟨b, 0, none⟩)] w fun e w' => ∃ v, e = .returned (.iface 156 v) ∧ Below w.heap.size w w' := by
  go_enter Try.func35, Try.ntmps35
  go_wp2_with fail
  go_ret
  exact ⟨_, rfl, (Below.refl _ _).alloc (Nat.le_refl _) _⟩

theorem mk_pointer_any (n : Nat) (hn : n < 16) (b : Nat) (w : World) (hc : w.cell? ⟨b, 1, none⟩ = some (.int .i64 (n : Int))) :
    Calls Try.prog 35 #[.pointer (some ⟨b, 0, none⟩)] w fun e w' => ∃ T v, e = .returned (.iface T v) ∧ Ab T n ∧ T ≠ 136 ∧ Below w.heap.size w w' := by
  have hcase : n = 0 ∨ n = 1 ∨ n = 2 ∨ n = 3 ∨ n = 4 ∨ n = 5 ∨ n = 6 ∨ n = 7 ∨ n = 8 ∨ n = 9 ∨ n = 10 ∨ n = 11 ∨ n = 12 ∨ n = 13 ∨ n = 14 ∨ n = 15 := by omega
  rcases hcase with rfl | rfl | rfl | rfl | rfl | rfl | rfl | rfl | rfl | rfl | rfl | rfl | rfl | rfl | rfl | rfl
  · exact (mk_pointer_0 b w hc).mono fun e w' ⟨v, he, hb⟩ => ⟨_, v, he, Ab_p0, by decide, hb⟩
  · exact (mk_pointer_1 b w hc).mono fun e w' ⟨v, he, hb⟩ => ⟨_, v, he, Ab_p1, by decide, hb⟩
  · exact (mk_pointer_2 b w hc).mono fun e w' ⟨v, he, hb⟩ => ⟨_, v, he, Ab_p2, by decide, hb⟩
  · exact (mk_pointer_3 b w hc).mono fun e w' ⟨v, he, hb⟩ => ⟨_, v, he, Ab_p3, by decide, hb⟩
  · exact (mk_pointer_4 b w hc).mono fun e w' ⟨v, he, hb⟩ => ⟨_, v, he, Ab_p4, by decide, hb⟩
  · exact (mk_pointer_5 b w hc).mono fun e w' ⟨v, he, hb⟩ => ⟨_, v, he, Ab_p5, by decide, hb⟩
  · exact (mk_pointer_6 b w hc).mono fun e w' ⟨v, he, hb⟩ => ⟨_, v, he, Ab_p6, by decide, hb⟩
  · exact (mk_pointer_7 b w hc).mono fun e w' ⟨v, he, hb⟩ => ⟨_, v, he, Ab_p7, by decide, hb⟩
  · exact (mk_pointer_8 b w hc).mono fun e w' ⟨v, he, hb⟩ => ⟨_, v, he, Ab_p8, by decide, hb⟩
  · exact (mk_pointer_9 b w hc).mono fun e w' ⟨v, he, hb⟩ => ⟨_, v, he, Ab_p9, by decide, hb⟩
  · exact (mk_pointer_10 b w hc).mono fun e w' ⟨v, he, hb⟩ => ⟨_, v, he, Ab_p10, by decide, hb⟩
  · exact (mk_pointer_11 b w hc).mono fun e w' ⟨v, he, hb⟩ => ⟨_, v, he, Ab_p11, by decide, hb⟩
  · exact (mk_pointer_12 b w hc).mono fun e w' ⟨v, he, hb⟩ => ⟨_, v, he, Ab_p12, by decide, hb⟩
  · exact (mk_pointer_13 b w hc).mono fun e w' ⟨v, he, hb⟩ => ⟨_, v, he, Ab_p13, by decide, hb⟩
  · exact (mk_pointer_14 b w hc).mono fun e w' ⟨v, he, hb⟩ => ⟨_, v, he, Ab_p14, by decide, hb⟩
  · exact (mk_pointer_15 b w hc).mono fun e w' ⟨v, he, hb⟩ => ⟨_, v, he, Ab_p15, by decide, hb⟩
end Go.Proofs.Ytcelbkkgjnfblaa

/- tenonmake.value: likewise, of a struct's type. -/
namespace Go.Proofs.Ytcelbkkgjnfblaa
open Go.RowKit

set_option maxRecDepth 100000 in
set_option maxHeartbeats 2000000 in
theorem mk_value_0 (b : Nat) (w : World) (hc : w.cell? ⟨b, 1, none⟩ = some (.int .i64 0)) :
    Calls Try.prog 34 #[.pointer (some ⟨b, 0, none⟩)] w fun e w' => ∃ v, e = .returned (.iface 158 v) ∧ w = w' := by
  go_enter Try.func34, Try.ntmps34
  go_wp2_with fail
  go_ret
  exact ⟨_, rfl, rfl⟩

set_option maxRecDepth 100000 in
set_option maxHeartbeats 2000000 in
theorem mk_value_1 (b : Nat) (w : World) (hc : w.cell? ⟨b, 1, none⟩ = some (.int .i64 1)) :
    Calls Try.prog 34 #[.pointer (some ⟨b, 0, none⟩)] w fun e w' => ∃ v, e = .returned (.iface 160 v) ∧ w = w' := by
  go_enter Try.func34, Try.ntmps34
  go_wp2_with fail
  go_ret
  exact ⟨_, rfl, rfl⟩

set_option maxRecDepth 100000 in
set_option maxHeartbeats 2000000 in
theorem mk_value_2 (b : Nat) (w : World) (hc : w.cell? ⟨b, 1, none⟩ = some (.int .i64 2)) :
    Calls Try.prog 34 #[.pointer (some ⟨b, 0, none⟩)] w fun e w' => ∃ v, e = .returned (.iface 162 v) ∧ w = w' := by
  go_enter Try.func34, Try.ntmps34
  go_wp2_with fail
  go_ret
  exact ⟨_, rfl, rfl⟩

set_option maxRecDepth 100000 in
set_option maxHeartbeats 2000000 in
theorem mk_value_3 (b : Nat) (w : World) (hc : w.cell? ⟨b, 1, none⟩ = some (.int .i64 3)) :
    Calls Try.prog 34 #[.pointer (some ⟨b, 0, none⟩)] w fun e w' => ∃ v, e = .returned (.iface 164 v) ∧ w = w' := by
  go_enter Try.func34, Try.ntmps34
  go_wp2_with fail
  go_ret
  exact ⟨_, rfl, rfl⟩

set_option maxRecDepth 100000 in
set_option maxHeartbeats 2000000 in
theorem mk_value_4 (b : Nat) (w : World) (hc : w.cell? ⟨b, 1, none⟩ = some (.int .i64 4)) :
    Calls Try.prog 34 #[.pointer (some ⟨b, 0, none⟩)] w fun e w' => ∃ v, e = .returned (.iface 166 v) ∧ w = w' := by
  go_enter Try.func34, Try.ntmps34
  go_wp2_with fail
  go_ret
  exact ⟨_, rfl, rfl⟩

set_option maxRecDepth 100000 in
set_option maxHeartbeats 2000000 in
theorem mk_value_5 (b : Nat) (w : World) (hc : w.cell? ⟨b, 1, none⟩ = some (.int .i64 5)) :
    Calls Try.prog 34 #[.pointer (some ⟨b, 0, none⟩)] w fun e w' => ∃ v, e = .returned (.iface 168 v) ∧ w = w' := by
  go_enter Try.func34, Try.ntmps34
  go_wp2_with fail
  go_ret
  exact ⟨_, rfl, rfl⟩

set_option maxRecDepth 100000 in
set_option maxHeartbeats 2000000 in
theorem mk_value_6 (b : Nat) (w : World) (hc : w.cell? ⟨b, 1, none⟩ = some (.int .i64 6)) :
    Calls Try.prog 34 #[.pointer (some ⟨b, 0, none⟩)] w fun e w' => ∃ v, e = .returned (.iface 170 v) ∧ w = w' := by
  go_enter Try.func34, Try.ntmps34
  go_wp2_with fail
  go_ret
  exact ⟨_, rfl, rfl⟩

set_option maxRecDepth 100000 in
set_option maxHeartbeats 2000000 in
theorem mk_value_7 (b : Nat) (w : World) (hc : w.cell? ⟨b, 1, none⟩ = some (.int .i64 7)) :
    Calls Try.prog 34 #[.pointer (some ⟨b, 0, none⟩)] w fun e w' => ∃ v, e = .returned (.iface 172 v) ∧ w = w' := by
  go_enter Try.func34, Try.ntmps34
  go_wp2_with fail
  go_ret
  exact ⟨_, rfl, rfl⟩

set_option maxRecDepth 100000 in
set_option maxHeartbeats 2000000 in
theorem mk_value_8 (b : Nat) (w : World) (hc : w.cell? ⟨b, 1, none⟩ = some (.int .i64 8)) :
    Calls Try.prog 34 #[.pointer (some ⟨b, 0, none⟩)] w fun e w' => ∃ v, e = .returned (.iface 174 v) ∧ w = w' := by
  go_enter Try.func34, Try.ntmps34
  go_wp2_with fail
  go_ret
  exact ⟨_, rfl, rfl⟩

set_option maxRecDepth 100000 in
set_option maxHeartbeats 2000000 in
theorem mk_value_9 (b : Nat) (w : World) (hc : w.cell? ⟨b, 1, none⟩ = some (.int .i64 9)) :
    Calls Try.prog 34 #[.pointer (some ⟨b, 0, none⟩)] w fun e w' => ∃ v, e = .returned (.iface 176 v) ∧ w = w' := by
  go_enter Try.func34, Try.ntmps34
  go_wp2_with fail
  go_ret
  exact ⟨_, rfl, rfl⟩

set_option maxRecDepth 100000 in
set_option maxHeartbeats 2000000 in
theorem mk_value_10 (b : Nat) (w : World) (hc : w.cell? ⟨b, 1, none⟩ = some (.int .i64 10)) :
    Calls Try.prog 34 #[.pointer (some ⟨b, 0, none⟩)] w fun e w' => ∃ v, e = .returned (.iface 178 v) ∧ w = w' := by
  go_enter Try.func34, Try.ntmps34
  go_wp2_with fail
  go_ret
  exact ⟨_, rfl, rfl⟩

set_option maxRecDepth 100000 in
set_option maxHeartbeats 2000000 in
theorem mk_value_11 (b : Nat) (w : World) (hc : w.cell? ⟨b, 1, none⟩ = some (.int .i64 11)) :
    Calls Try.prog 34 #[.pointer (some ⟨b, 0, none⟩)] w fun e w' => ∃ v, e = .returned (.iface 180 v) ∧ w = w' := by
  go_enter Try.func34, Try.ntmps34
  go_wp2_with fail
  go_ret
  exact ⟨_, rfl, rfl⟩

set_option maxRecDepth 100000 in
set_option maxHeartbeats 2000000 in
theorem mk_value_12 (b : Nat) (w : World) (hc : w.cell? ⟨b, 1, none⟩ = some (.int .i64 12)) :
    Calls Try.prog 34 #[.pointer (some ⟨b, 0, none⟩)] w fun e w' => ∃ v, e = .returned (.iface 182 v) ∧ w = w' := by
  go_enter Try.func34, Try.ntmps34
  go_wp2_with fail
  go_ret
  exact ⟨_, rfl, rfl⟩

set_option maxRecDepth 100000 in
set_option maxHeartbeats 2000000 in
theorem mk_value_13 (b : Nat) (w : World) (hc : w.cell? ⟨b, 1, none⟩ = some (.int .i64 13)) :
    Calls Try.prog 34 #[.pointer (some ⟨b, 0, none⟩)] w fun e w' => ∃ v, e = .returned (.iface 184 v) ∧ w = w' := by
  go_enter Try.func34, Try.ntmps34
  go_wp2_with fail
  go_ret
  exact ⟨_, rfl, rfl⟩

set_option maxRecDepth 100000 in
set_option maxHeartbeats 2000000 in
theorem mk_value_14 (b : Nat) (w : World) (hc : w.cell? ⟨b, 1, none⟩ = some (.int .i64 14)) :
    Calls Try.prog 34 #[.pointer (some ⟨b, 0, none⟩)] w fun e w' => ∃ v, e = .returned (.iface 186 v) ∧ w = w' := by
  go_enter Try.func34, Try.ntmps34
  go_wp2_with fail
  go_ret
  exact ⟨_, rfl, rfl⟩

set_option maxRecDepth 100000 in
set_option maxHeartbeats 2000000 in
theorem mk_value_15 (b : Nat) (w : World) (hc : w.cell? ⟨b, 1, none⟩ = some (.int .i64 15)) :
    Calls Try.prog 34 #[.pointer (some ⟨b, 0, none⟩)] w fun e w' => ∃ v, e = .returned (.iface 100 v) ∧ w = w' := by
  go_enter Try.func34, Try.ntmps34
  go_wp2_with fail
  go_ret
  exact ⟨_, rfl, rfl⟩

theorem mk_value_any (n : Nat) (hn : n < 16) (b : Nat) (w : World) (hc : w.cell? ⟨b, 1, none⟩ = some (.int .i64 (n : Int))) :
    Calls Try.prog 34 #[.pointer (some ⟨b, 0, none⟩)] w fun e w' => ∃ T v, e = .returned (.iface T v) ∧ Ab T n ∧ T ≠ 136 ∧ w = w' := by
  have hcase : n = 0 ∨ n = 1 ∨ n = 2 ∨ n = 3 ∨ n = 4 ∨ n = 5 ∨ n = 6 ∨ n = 7 ∨ n = 8 ∨ n = 9 ∨ n = 10 ∨ n = 11 ∨ n = 12 ∨ n = 13 ∨ n = 14 ∨ n = 15 := by omega
  rcases hcase with rfl | rfl | rfl | rfl | rfl | rfl | rfl | rfl | rfl | rfl | rfl | rfl | rfl | rfl | rfl | rfl
  · exact (mk_value_0 b w hc).mono fun e w' ⟨v, he, hb⟩ => ⟨_, v, he, Ab_s0, by decide, hb⟩
  · exact (mk_value_1 b w hc).mono fun e w' ⟨v, he, hb⟩ => ⟨_, v, he, Ab_s1, by decide, hb⟩
  · exact (mk_value_2 b w hc).mono fun e w' ⟨v, he, hb⟩ => ⟨_, v, he, Ab_s2, by decide, hb⟩
  · exact (mk_value_3 b w hc).mono fun e w' ⟨v, he, hb⟩ => ⟨_, v, he, Ab_s3, by decide, hb⟩
  · exact (mk_value_4 b w hc).mono fun e w' ⟨v, he, hb⟩ => ⟨_, v, he, Ab_s4, by decide, hb⟩
  · exact (mk_value_5 b w hc).mono fun e w' ⟨v, he, hb⟩ => ⟨_, v, he, Ab_s5, by decide, hb⟩
  · exact (mk_value_6 b w hc).mono fun e w' ⟨v, he, hb⟩ => ⟨_, v, he, Ab_s6, by decide, hb⟩
  · exact (mk_value_7 b w hc).mono fun e w' ⟨v, he, hb⟩ => ⟨_, v, he, Ab_s7, by decide, hb⟩
  · exact (mk_value_8 b w hc).mono fun e w' ⟨v, he, hb⟩ => ⟨_, v, he, Ab_s8, by decide, hb⟩
  · exact (mk_value_9 b w hc).mono fun e w' ⟨v, he, hb⟩ => ⟨_, v, he, Ab_s9, by decide, hb⟩
  · exact (mk_value_10 b w hc).mono fun e w' ⟨v, he, hb⟩ => ⟨_, v, he, Ab_s10, by decide, hb⟩
  · exact (mk_value_11 b w hc).mono fun e w' ⟨v, he, hb⟩ => ⟨_, v, he, Ab_s11, by decide, hb⟩
  · exact (mk_value_12 b w hc).mono fun e w' ⟨v, he, hb⟩ => ⟨_, v, he, Ab_s12, by decide, hb⟩
  · exact (mk_value_13 b w hc).mono fun e w' ⟨v, he, hb⟩ => ⟨_, v, he, Ab_s13, by decide, hb⟩
  · exact (mk_value_14 b w hc).mono fun e w' ⟨v, he, hb⟩ => ⟨_, v, he, Ab_s14, by decide, hb⟩
  · exact (mk_value_15 b w hc).mono fun e w' ⟨v, he, hb⟩ => ⟨_, v, he, Ab_s15, by decide, hb⟩
end Go.Proofs.Ytcelbkkgjnfblaa

/- tenonmake.foreign: a nil pointer of the type. -/
namespace Go.Proofs.Ytcelbkkgjnfblaa
open Go.RowKit

set_option maxRecDepth 100000 in
set_option maxHeartbeats 2000000 in
theorem mk_foreign_0 (w : World) :
    Calls Try.prog 33 #[.int .i64 0] w fun e w' => e = .returned (.iface 141 (.pointer none)) ∧ w = w' := by
  go_enter Try.func33, Try.ntmps33
  go_wp2_with fail
  go_ret
  exact ⟨rfl, rfl⟩

set_option maxRecDepth 100000 in
set_option maxHeartbeats 2000000 in
theorem mk_foreign_1 (w : World) :
    Calls Try.prog 33 #[.int .i64 1] w fun e w' => e = .returned (.iface 142 (.pointer none)) ∧ w = w' := by
  go_enter Try.func33, Try.ntmps33
  go_wp2_with fail
  go_ret
  exact ⟨rfl, rfl⟩

set_option maxRecDepth 100000 in
set_option maxHeartbeats 2000000 in
theorem mk_foreign_2 (w : World) :
    Calls Try.prog 33 #[.int .i64 2] w fun e w' => e = .returned (.iface 143 (.pointer none)) ∧ w = w' := by
  go_enter Try.func33, Try.ntmps33
  go_wp2_with fail
  go_ret
  exact ⟨rfl, rfl⟩

set_option maxRecDepth 100000 in
set_option maxHeartbeats 2000000 in
theorem mk_foreign_3 (w : World) :
    Calls Try.prog 33 #[.int .i64 3] w fun e w' => e = .returned (.iface 144 (.pointer none)) ∧ w = w' := by
  go_enter Try.func33, Try.ntmps33
  go_wp2_with fail
  go_ret
  exact ⟨rfl, rfl⟩

set_option maxRecDepth 100000 in
set_option maxHeartbeats 2000000 in
theorem mk_foreign_4 (w : World) :
    Calls Try.prog 33 #[.int .i64 4] w fun e w' => e = .returned (.iface 145 (.pointer none)) ∧ w = w' := by
  go_enter Try.func33, Try.ntmps33
  go_wp2_with fail
  go_ret
  exact ⟨rfl, rfl⟩

set_option maxRecDepth 100000 in
set_option maxHeartbeats 2000000 in
theorem mk_foreign_5 (w : World) :
    Calls Try.prog 33 #[.int .i64 5] w fun e w' => e = .returned (.iface 146 (.pointer none)) ∧ w = w' := by
  go_enter Try.func33, Try.ntmps33
  go_wp2_with fail
  go_ret
  exact ⟨rfl, rfl⟩

set_option maxRecDepth 100000 in
set_option maxHeartbeats 2000000 in
theorem mk_foreign_6 (w : World) :
    Calls Try.prog 33 #[.int .i64 6] w fun e w' => e = .returned (.iface 147 (.pointer none)) ∧ w = w' := by
  go_enter Try.func33, Try.ntmps33
  go_wp2_with fail
  go_ret
  exact ⟨rfl, rfl⟩

set_option maxRecDepth 100000 in
set_option maxHeartbeats 2000000 in
theorem mk_foreign_7 (w : World) :
    Calls Try.prog 33 #[.int .i64 7] w fun e w' => e = .returned (.iface 148 (.pointer none)) ∧ w = w' := by
  go_enter Try.func33, Try.ntmps33
  go_wp2_with fail
  go_ret
  exact ⟨rfl, rfl⟩

set_option maxRecDepth 100000 in
set_option maxHeartbeats 2000000 in
theorem mk_foreign_8 (w : World) :
    Calls Try.prog 33 #[.int .i64 8] w fun e w' => e = .returned (.iface 149 (.pointer none)) ∧ w = w' := by
  go_enter Try.func33, Try.ntmps33
  go_wp2_with fail
  go_ret
  exact ⟨rfl, rfl⟩

set_option maxRecDepth 100000 in
set_option maxHeartbeats 2000000 in
theorem mk_foreign_9 (w : World) :
    Calls Try.prog 33 #[.int .i64 9] w fun e w' => e = .returned (.iface 150 (.pointer none)) ∧ w = w' := by
  go_enter Try.func33, Try.ntmps33
  go_wp2_with fail
  go_ret
  exact ⟨rfl, rfl⟩

set_option maxRecDepth 100000 in
set_option maxHeartbeats 2000000 in
theorem mk_foreign_10 (w : World) :
    Calls Try.prog 33 #[.int .i64 10] w fun e w' => e = .returned (.iface 151 (.pointer none)) ∧ w = w' := by
  go_enter Try.func33, Try.ntmps33
  go_wp2_with fail
  go_ret
  exact ⟨rfl, rfl⟩

set_option maxRecDepth 100000 in
set_option maxHeartbeats 2000000 in
theorem mk_foreign_11 (w : World) :
    Calls Try.prog 33 #[.int .i64 11] w fun e w' => e = .returned (.iface 152 (.pointer none)) ∧ w = w' := by
  go_enter Try.func33, Try.ntmps33
  go_wp2_with fail
  go_ret
  exact ⟨rfl, rfl⟩

set_option maxRecDepth 100000 in
set_option maxHeartbeats 2000000 in
theorem mk_foreign_12 (w : World) :
    Calls Try.prog 33 #[.int .i64 12] w fun e w' => e = .returned (.iface 153 (.pointer none)) ∧ w = w' := by
  go_enter Try.func33, Try.ntmps33
  go_wp2_with fail
  go_ret
  exact ⟨rfl, rfl⟩

set_option maxRecDepth 100000 in
set_option maxHeartbeats 2000000 in
theorem mk_foreign_13 (w : World) :
    Calls Try.prog 33 #[.int .i64 13] w fun e w' => e = .returned (.iface 154 (.pointer none)) ∧ w = w' := by
  go_enter Try.func33, Try.ntmps33
  go_wp2_with fail
  go_ret
  exact ⟨rfl, rfl⟩

set_option maxRecDepth 100000 in
set_option maxHeartbeats 2000000 in
theorem mk_foreign_14 (w : World) :
    Calls Try.prog 33 #[.int .i64 14] w fun e w' => e = .returned (.iface 155 (.pointer none)) ∧ w = w' := by
  go_enter Try.func33, Try.ntmps33
  go_wp2_with fail
  go_ret
  exact ⟨rfl, rfl⟩

set_option maxRecDepth 100000 in
set_option maxHeartbeats 2000000 in
theorem mk_foreign_15 (w : World) :
    Calls Try.prog 33 #[.int .i64 15] w fun e w' => e = .returned (.iface 156 (.pointer none)) ∧ w = w' := by
  go_enter Try.func33, Try.ntmps33
  go_wp2_with fail
  go_ret
  exact ⟨rfl, rfl⟩

theorem mk_foreign_any (n : Nat) (hn : n < 16) (w : World) :
    Calls Try.prog 33 #[.int .i64 (n : Int)] w fun e w' => ∃ T v, e = .returned (.iface T v) ∧ Ab T n ∧ T ≠ 136 ∧ w = w' := by
  have hcase : n = 0 ∨ n = 1 ∨ n = 2 ∨ n = 3 ∨ n = 4 ∨ n = 5 ∨ n = 6 ∨ n = 7 ∨ n = 8 ∨ n = 9 ∨ n = 10 ∨ n = 11 ∨ n = 12 ∨ n = 13 ∨ n = 14 ∨ n = 15 := by omega
  rcases hcase with rfl | rfl | rfl | rfl | rfl | rfl | rfl | rfl | rfl | rfl | rfl | rfl | rfl | rfl | rfl | rfl
  · exact (mk_foreign_0 w).mono fun e w' ⟨he, hb⟩ => ⟨_, _, he, Ab_p0, by decide, hb⟩
  · exact (mk_foreign_1 w).mono fun e w' ⟨he, hb⟩ => ⟨_, _, he, Ab_p1, by decide, hb⟩
  · exact (mk_foreign_2 w).mono fun e w' ⟨he, hb⟩ => ⟨_, _, he, Ab_p2, by decide, hb⟩
  · exact (mk_foreign_3 w).mono fun e w' ⟨he, hb⟩ => ⟨_, _, he, Ab_p3, by decide, hb⟩
  · exact (mk_foreign_4 w).mono fun e w' ⟨he, hb⟩ => ⟨_, _, he, Ab_p4, by decide, hb⟩
  · exact (mk_foreign_5 w).mono fun e w' ⟨he, hb⟩ => ⟨_, _, he, Ab_p5, by decide, hb⟩
  · exact (mk_foreign_6 w).mono fun e w' ⟨he, hb⟩ => ⟨_, _, he, Ab_p6, by decide, hb⟩
  · exact (mk_foreign_7 w).mono fun e w' ⟨he, hb⟩ => ⟨_, _, he, Ab_p7, by decide, hb⟩
  · exact (mk_foreign_8 w).mono fun e w' ⟨he, hb⟩ => ⟨_, _, he, Ab_p8, by decide, hb⟩
  · exact (mk_foreign_9 w).mono fun e w' ⟨he, hb⟩ => ⟨_, _, he, Ab_p9, by decide, hb⟩
  · exact (mk_foreign_10 w).mono fun e w' ⟨he, hb⟩ => ⟨_, _, he, Ab_p10, by decide, hb⟩
  · exact (mk_foreign_11 w).mono fun e w' ⟨he, hb⟩ => ⟨_, _, he, Ab_p11, by decide, hb⟩
  · exact (mk_foreign_12 w).mono fun e w' ⟨he, hb⟩ => ⟨_, _, he, Ab_p12, by decide, hb⟩
  · exact (mk_foreign_13 w).mono fun e w' ⟨he, hb⟩ => ⟨_, _, he, Ab_p13, by decide, hb⟩
  · exact (mk_foreign_14 w).mono fun e w' ⟨he, hb⟩ => ⟨_, _, he, Ab_p14, by decide, hb⟩
  · exact (mk_foreign_15 w).mono fun e w' ⟨he, hb⟩ => ⟨_, _, he, Ab_p15, by decide, hb⟩
end Go.Proofs.Ytcelbkkgjnfblaa

/- tenonmake.Object and tenonlaw10.made: an object of a description. -/
namespace Go.Proofs.Ytcelbkkgjnfblaa
open Go.RowKit

def zs : Array Value := #[.int .i64 0, .int .i64 0, .int .i64 0, .int .i64 0, .int .i64 0, .int .i64 0, .int .i64 0, .int .i64 0, .int .i64 0]

/-- what stands behind an object of a description -/
def Core (r : Sr) (h : Int) (n : Nat) (sh : Int) (b : Nat) (w : World) : Prop := w.heap[b]? = some (.cells (r.cs h n sh ++ zs) 70)

theorem core_al (r : Sr) (h : Int) (n : Nat) (sh : Int) (w : World) (o : Obj) : Core r h n sh (w.heap.size + 1) ((w.alloc o).alloc (.cells (r.cs h n sh ++ zs) 70)) := al2_new _ _ _

/-- what Object hands back -/
def ObjE (r : Sr) (h : Int) (n : Nat) (sh : Int) (w : World) (e : Ending) (w' : World) : Prop :=
  ∃ T v, e = .returned (.tuple #[.iface T v, .pointer (some ⟨w.heap.size + 1, 0, none⟩)]) ∧ Ab T n ∧ T ≠ 136 ∧ Below w.heap.size w w' ∧ Core r h n sh (w.heap.size + 1) w'

set_option maxRecDepth 100000 in
set_option maxHeartbeats 2000000 in
theorem Object_foreign (r : Sr) (sh : Int) (n : Nat) (hn : n < 16) (w : World) :
    Calls Try.prog 17 #[.agg (r.cs 3 n sh)] w fun e w' => ObjE r 3 n sh w e w' := by
  have HF : Hid (∀ W, Calls Try.prog 33 #[.int .i64 (n : Int)] W fun e w' => ∃ T v, e = .returned (.iface T v) ∧ Ab T n ∧ T ≠ 136 ∧ W = w') := fun W => mk_foreign_any n hn W
  have HC : Hid (∀ o, Core r 3 n sh (w.heap.size + 1) ((w.alloc o).alloc (.cells (r.cs 3 n sh ++ zs) 70))) := fun o => core_al r 3 n sh w o
  clear hn
  unfold Sr.cs
  go_enter Try.func17, Try.ntmps17
  go_wp2_with (go_at_call 33; refine (HF.out _).mono ?_; rintro e w' ⟨T, v, rfl, hA, hT, rfl⟩; replace hA : Hid (Ab T n) := hA; replace hT : Hid (T ≠ 136) := hT)
  go_ret2
  exact ⟨T, v, rfl, hA, hT, ((Below.refl _ _).alloc (Nat.le_refl _) _).alloc (by simp) _, HC.out _⟩

set_option maxRecDepth 100000 in
set_option maxHeartbeats 2000000 in
theorem Object_pointer (r : Sr) (n : Nat) (hn : n < 16) (w : World) :
    Calls Try.prog 17 #[.agg (r.cs 0 n 0)] w fun e w' => ObjE r 0 n 0 w e w' := by
  have HF : Hid (∀ W, W.cell? ⟨w.heap.size + 1, 1, none⟩ = some (.int .i64 (n : Int)) → Calls Try.prog 35 #[.pointer (some ⟨w.heap.size + 1, 0, none⟩)] W fun e w' => ∃ T v, e = .returned (.iface T v) ∧ Ab T n ∧ T ≠ 136 ∧ Below W.heap.size W w') := fun W hc => mk_pointer_any n hn _ W hc
  have HC : Hid (∀ o, Core r 0 n 0 (w.heap.size + 1) ((w.alloc o).alloc (.cells (r.cs 0 n 0 ++ zs) 70))) := fun o => core_al r 0 n 0 w o
  clear hn
  unfold Sr.cs
  go_enter Try.func17, Try.ntmps17
  go_wp2_with fail
  refine (HF.out _ (by simp)).mono ?_
  rintro e w1 ⟨T, v, rfl, hA, hT, hb⟩
  have HB : Hid (Below w.heap.size w w1) := (((Below.refl _ _).alloc (Nat.le_refl _) _).alloc (by simp) _).trans (hb.mono (by simp only [World.size_alloc]; omega))
  have HC1 : Hid (Core r 0 n 0 (w.heap.size + 1) w1) := (hb.block _ (by simp only [World.size_alloc]; omega)).trans (HC.out _)
  replace hA : Hid (Ab T n) := hA
  replace hT : Hid (T ≠ 136) := hT
  clear hb
  go_wp2_with fail
  go_ret2
  exact ⟨T, v, rfl, hA, hT, HB.out, HC1.out⟩

set_option maxRecDepth 100000 in
set_option maxHeartbeats 2000000 in
theorem Object_value (r : Sr) (sh : Int) (n : Nat) (hn : n < 16) (b0 : (sh == 0) = false) (b2 : (sh == 2) = false) (w : World) :
    Calls Try.prog 17 #[.agg (r.cs 0 n sh)] w fun e w' => ObjE r 0 n sh w e w' := by
  have HF : Hid (∀ W, W.cell? ⟨w.heap.size + 1, 1, none⟩ = some (.int .i64 (n : Int)) → Calls Try.prog 34 #[.pointer (some ⟨w.heap.size + 1, 0, none⟩)] W fun e w' => ∃ T v, e = .returned (.iface T v) ∧ Ab T n ∧ T ≠ 136 ∧ W = w') := fun W hc => mk_value_any n hn _ W hc
  have HC : Hid (∀ o, Core r 0 n sh (w.heap.size + 1) ((w.alloc o).alloc (.cells (r.cs 0 n sh ++ zs) 70))) := fun o => core_al r 0 n sh w o
  clear hn
  unfold Sr.cs
  go_enter Try.func17, Try.ntmps17
  go_wp2_with fail
  refine (HF.out _ (by simp)).mono ?_
  rintro e w1 ⟨T, v, rfl, hA, hT, rfl⟩
  replace hA : Hid (Ab T n) := hA
  replace hT : Hid (T ≠ 136) := hT
  go_wp2_with fail
  go_ret2
  exact ⟨T, v, rfl, hA, hT, ((Below.refl _ _).alloc (Nat.le_refl _) _).alloc (by simp) _, HC.out _⟩

theorem and_no (n : Nat) (hn : n < 16) (k : Nat) (h : n ≠ k) : (bits BinOp.and IntKind.i64 (n : Int) 15 == (k : Int)) = false := by
  have e : ∀ m : Nat, m < 16 → bits BinOp.and IntKind.i64 (m : Int) 15 = (m : Int) := by decide +kernel
  rw [e n hn]
  simp only [beq_eq_false_iff_ne, ne_eq, Int.natCast_inj]
  exact h

set_option maxRecDepth 100000 in
set_option maxHeartbeats 2000000 in
theorem Object_two (r : Sr) (n : Nat) (hn : n < 16) (n0 : n ≠ 0) (n15 : n ≠ 15) (w : World) :
    Calls Try.prog 17 #[.agg (r.cs 0 n 2)] w fun e w' => ObjE r 0 n 2 w e w' := by
  have HF : Hid (∀ W, W.cell? ⟨w.heap.size + 1, 1, none⟩ = some (.int .i64 (n : Int)) → Calls Try.prog 34 #[.pointer (some ⟨w.heap.size + 1, 0, none⟩)] W fun e w' => ∃ T v, e = .returned (.iface T v) ∧ Ab T n ∧ T ≠ 136 ∧ W = w') := fun W hc => mk_value_any n hn _ W hc
  have HC : Hid (∀ o, Core r 0 n 2 (w.heap.size + 1) ((w.alloc o).alloc (.cells (r.cs 0 n 2 ++ zs) 70))) := fun o => core_al r 0 n 2 w o
  have z0 : (bits BinOp.and IntKind.i64 (n : Int) 15 == 0) = false := and_no n hn 0 n0
  have z15 : (bits BinOp.and IntKind.i64 (n : Int) 15 == 15) = false := and_no n hn 15 n15
  clear hn n0 n15
  unfold Sr.cs
  go_enter Try.func17, Try.ntmps17
  go_wp2_with fail
  refine (HF.out _ (by simp)).mono ?_
  rintro e w1 ⟨T, v, rfl, hA, hT, rfl⟩
  replace hA : Hid (Ab T n) := hA
  replace hT : Hid (T ≠ 136) := hT
  go_wp2_with fail
  go_ret2
  exact ⟨T, v, rfl, hA, hT, ((Below.refl _ _).alloc (Nat.le_refl _) _).alloc (by simp) _, HC.out _⟩

set_option maxRecDepth 100000 in
set_option maxHeartbeats 2000000 in
theorem Object_u0 (r : Sr) (w : World) :
    Calls Try.prog 17 #[.agg (r.cs 0 0 2)] w fun e w' => ObjE r 0 0 2 w e w' := by
  have HC : Hid (∀ o, Core r 0 0 2 (w.heap.size + 1) ((w.alloc o).alloc (.cells (r.cs 0 0 2 ++ zs) 70))) := fun o => core_al r 0 0 2 w o
  unfold Sr.cs
  go_enter Try.func17, Try.ntmps17
  go_wp2_with fail
  go_ret2
  exact ⟨_, _, rfl, Ab_u0, by decide, (((Below.refl _ _).alloc (Nat.le_refl _) _).alloc (by simp) _).alloc (by simp only [World.size_alloc]; omega) _, (Below.heap_alloc _ _ _ (by simp only [World.size_alloc]; omega)).trans (HC.out _)⟩

set_option maxRecDepth 100000 in
set_option maxHeartbeats 2000000 in
theorem mk_value_15s (b : Nat) (w : World) (hc : w.cell? ⟨b, 1, none⟩ = some (.int .i64 15)) :
    Calls Try.prog 34 #[.pointer (some ⟨b, 0, none⟩)] w fun e w' => e = .returned (.iface 100 (.agg #[.pointer (some ⟨b, 0, none⟩), .pointer (some ⟨b, 0, none⟩), .pointer (some ⟨b, 0, none⟩), .pointer (some ⟨b, 0, none⟩), .pointer (some ⟨b, 0, none⟩)])) ∧ w = w' := by
  go_enter Try.func34, Try.ntmps34
  go_wp2_with fail
  go_ret
  exact ⟨rfl, rfl⟩

set_option maxRecDepth 100000 in
set_option maxHeartbeats 2000000 in
theorem Object_u15 (r : Sr) (w : World) :
    Calls Try.prog 17 #[.agg (r.cs 0 15 2)] w fun e w' => ObjE r 0 15 2 w e w' := by
  have HC : Hid (∀ o, Core r 0 15 2 (w.heap.size + 1) ((w.alloc o).alloc (.cells (r.cs 0 15 2 ++ zs) 70))) := fun o => core_al r 0 15 2 w o
  have HF : Hid (∀ W, W.cell? ⟨w.heap.size + 1, 1, none⟩ = some (.int .i64 15) → Calls Try.prog 34 #[.pointer (some ⟨w.heap.size + 1, 0, none⟩)] W fun e w' => e = .returned (.iface 100 (.agg #[.pointer (some ⟨w.heap.size + 1, 0, none⟩), .pointer (some ⟨w.heap.size + 1, 0, none⟩), .pointer (some ⟨w.heap.size + 1, 0, none⟩), .pointer (some ⟨w.heap.size + 1, 0, none⟩), .pointer (some ⟨w.heap.size + 1, 0, none⟩)])) ∧ W = w') := fun W hc => mk_value_15s _ W hc
  have ht : ∀ v W, (Instr.typeAssert (.iface 100 v) 40 100 true).run Try.prog W = .ok (.tuple #[v, .bool true]) W := fun v W => by kernel_rfl
  unfold Sr.cs
  go_enter Try.func17, Try.ntmps17
  go_wp2_with fail
  refine (HF.out _ (by simp)).mono ?_
  rintro e w1 ⟨rfl, rfl⟩
  go_wp2_with fail
  go_ret2
  refine ⟨_, _, rfl, Ab_u15, by decide, ((((Below.refl _ _).alloc (Nat.le_refl _) _).alloc (by simp) _).alloc (by simp only [World.size_alloc]; omega) _).alloc (by simp only [World.size_alloc]; omega) _, ?_⟩
  exact (Below.heap_alloc _ _ _ (by simp only [World.size_alloc]; omega)).trans ((Below.heap_alloc _ _ _ (by simp only [World.size_alloc]; omega)).trans (HC.out _))

theorem Object_some (r : Sr) (h sh : Int) (n : Nat) (hn : n < 16) (hh : h = 0 ∨ h = 3) (w : World) :
    Calls Try.prog 17 #[.agg (r.cs h n sh)] w fun e w' => ObjE r h n sh w e w' := by
  rcases hh with rfl | rfl
  · by_cases s0 : sh = 0
    · subst s0; exact Object_pointer r n hn w
    · by_cases s2 : sh = 2
      · subst s2
        by_cases n0 : n = 0
        · subst n0; exact Object_u0 r w
        · by_cases n15 : n = 15
          · subst n15; exact Object_u15 r w
          · exact Object_two r n hn n0 n15 w
      · exact Object_value r sh n hn (by simp [s0]) (by simp [s2]) w
  · exact Object_foreign r sh n hn w
end Go.Proofs.Ytcelbkkgjnfblaa

