/- Which abilities an object's type has, by assertion: of a Thing, and of the types of which objects are made. -/
import Derived.Test.YtbjjeleoimcboaaGreatR2
import Derived.Test.YtbjjeleoimcboaaGreatR4
namespace Go.Proofs.YtbjjeleoimcboaaGreat
open Go.RowKit

section
variable {P : Program} {w : World} {t xT asserted : TypeId} {v : Value} {want : Array (String × TypeId)} {i : TypeInfo}
theorem run_must_has (hu : P.underlying asserted = some (.interface want)) (h : (P.info? t).map (fun i => (lacking want i.methods).isEmpty) = some true) (v : Value) (xT : TypeId) (w : World) :
    (Instr.typeAssert (.iface t v) xT asserted false).run P w = .ok (.iface t v) w := by
  obtain ⟨i, hi, hl⟩ := Option.map_eq_some_iff.1 h
  simp [Instr.typeAssert, run_underlying hu, typeInfo, hi, missingMethod_none (List.isEmpty_iff.1 hl)]
end

theorem run_must_lacks {t xT asserted : TypeId} {want : Array (String × TypeId)} (hu : Tryz.prog.underlying asserted = some (.interface want)) (h : (Tryz.prog.info? t).map (fun i => (lacking want i.methods).isEmpty) = some false) (v : Value) (w : World) :
    ∃ o, (Instr.typeAssert (.iface t v) xT asserted false).run Tryz.prog w = .halt (.panic (.iface 15 (.pointer (some ⟨w.heap.size, 0, none⟩)))) (w.alloc o) := by
  obtain ⟨i, hi, hl⟩ := Option.map_eq_some_iff.1 h
  obtain ⟨m, hm⟩ := missingMethod_some (want := want) (got := i.methods) (fun e => by rw [e] at hl; cases hl)
  have he : ∀ W, Sem.run Tryz.prog (elemOf 15) W = .ok 206 W := fun W => by kernel_rfl
  simp [Instr.typeAssert, run_underlying hu, typeInfo, hi, hm, runtimePanic, goPanic, go_sem, he]
  exact ⟨_, rfl⟩

theorem Kd_ta (a : Addr) : Kd (.iface 15 (.pointer (some a))) 1 9 :=
  .inr ⟨⟨_, _, rfl⟩, .inl ⟨⟨_, fun W => run_typeAssert_hasB Tryz.underlying127 (by kernel_rfl) _ _ W⟩, rfl, rfl⟩⟩

/-- What the two-valued assertion to I tells of the type T. -/
def As2 (T I : Nat) (b : Bool) : Prop := ∀ v xT w, (Instr.typeAssert (.iface T v) xT I true).run Tryz.prog w = .ok (.tuple #[if b then .iface T v else .nilIface, .bool b]) w
/-- What the panicking assertion to I does. -/
def As1 (T I : Nat) (b : Bool) : Prop := ∀ v xT w, if b then (Instr.typeAssert (.iface T v) xT I false).run Tryz.prog w = .ok (.iface T v) w else ∃ o, (Instr.typeAssert (.iface T v) xT I false).run Tryz.prog w = .halt (.panic (.iface 15 (.pointer (some ⟨w.heap.size, 0, none⟩)))) (w.alloc o)

theorem As2.yes {T I : Nat} {want : Array (String × TypeId)} (hu : Tryz.prog.underlying I = some (.interface want)) (h : (Tryz.prog.info? T).map (fun i => (lacking want i.methods).isEmpty) = some true) : As2 T I true := fun v xT w => run_typeAssert_hasB hu h v xT w
theorem As2.no {T I : Nat} {want : Array (String × TypeId)} (hu : Tryz.prog.underlying I = some (.interface want)) (h : (Tryz.prog.info? T).map (fun i => (lacking want i.methods).isEmpty) = some false) (hz : (Tryz.prog.info? I).map (·.zero) = some (some .nilIface)) : As2 T I false := fun v xT w => run_typeAssert_lacksB hu h hz v xT w
theorem As1.yes {T I : Nat} {want : Array (String × TypeId)} (hu : Tryz.prog.underlying I = some (.interface want)) (h : (Tryz.prog.info? T).map (fun i => (lacking want i.methods).isEmpty) = some true) : As1 T I true := fun v xT w => run_must_has hu h v xT w
theorem As1.no {T I : Nat} {want : Array (String × TypeId)} (hu : Tryz.prog.underlying I = some (.interface want)) (h : (Tryz.prog.info? T).map (fun i => (lacking want i.methods).isEmpty) = some false) : As1 T I false := fun v _ w => run_must_lacks hu h v w

/-- The type T has the abilities of the number n, and is an object's. -/
structure Ab (T n : Nat) : Prop where
  v2 : As2 T 42 (n.testBit 0)
  i2 : As2 T 45 (n.testBit 1)
  o2 : As2 T 48 (n.testBit 2)
  l2 : As2 T 51 (n.testBit 3)
  v1 : As1 T 42 (n.testBit 0)
  i1 : As1 T 45 (n.testBit 1)
  o1 : As1 T 48 (n.testBit 2)
  l1 : As1 T 51 (n.testBit 3)
  ob : As2 T 32 true

theorem Ab_thing : Ab 66 0 :=
  ⟨As2.no Tryz.underlying42 (by kernel_rfl) (by kernel_rfl), As2.no Tryz.underlying45 (by kernel_rfl) (by kernel_rfl), As2.no Tryz.underlying48 (by kernel_rfl) (by kernel_rfl), As2.no Tryz.underlying51 (by kernel_rfl) (by kernel_rfl), As1.no Tryz.underlying42 (by kernel_rfl), As1.no Tryz.underlying45 (by kernel_rfl), As1.no Tryz.underlying48 (by kernel_rfl), As1.no Tryz.underlying51 (by kernel_rfl), As2.yes Tryz.underlying32 (by kernel_rfl)⟩
theorem Ab_p0 : Ab 136 0 :=
  ⟨As2.no Tryz.underlying42 (by kernel_rfl) (by kernel_rfl), As2.no Tryz.underlying45 (by kernel_rfl) (by kernel_rfl), As2.no Tryz.underlying48 (by kernel_rfl) (by kernel_rfl), As2.no Tryz.underlying51 (by kernel_rfl) (by kernel_rfl), As1.no Tryz.underlying42 (by kernel_rfl), As1.no Tryz.underlying45 (by kernel_rfl), As1.no Tryz.underlying48 (by kernel_rfl), As1.no Tryz.underlying51 (by kernel_rfl), As2.yes Tryz.underlying32 (by kernel_rfl)⟩
theorem Ab_p1 : Ab 137 1 :=
  ⟨As2.yes Tryz.underlying42 (by kernel_rfl), As2.no Tryz.underlying45 (by kernel_rfl) (by kernel_rfl), As2.no Tryz.underlying48 (by kernel_rfl) (by kernel_rfl), As2.no Tryz.underlying51 (by kernel_rfl) (by kernel_rfl), As1.yes Tryz.underlying42 (by kernel_rfl), As1.no Tryz.underlying45 (by kernel_rfl), As1.no Tryz.underlying48 (by kernel_rfl), As1.no Tryz.underlying51 (by kernel_rfl), As2.yes Tryz.underlying32 (by kernel_rfl)⟩
theorem Ab_p2 : Ab 138 2 :=
  ⟨As2.no Tryz.underlying42 (by kernel_rfl) (by kernel_rfl), As2.yes Tryz.underlying45 (by kernel_rfl), As2.no Tryz.underlying48 (by kernel_rfl) (by kernel_rfl), As2.no Tryz.underlying51 (by kernel_rfl) (by kernel_rfl), As1.no Tryz.underlying42 (by kernel_rfl), As1.yes Tryz.underlying45 (by kernel_rfl), As1.no Tryz.underlying48 (by kernel_rfl), As1.no Tryz.underlying51 (by kernel_rfl), As2.yes Tryz.underlying32 (by kernel_rfl)⟩
theorem Ab_p3 : Ab 139 3 :=
  ⟨As2.yes Tryz.underlying42 (by kernel_rfl), As2.yes Tryz.underlying45 (by kernel_rfl), As2.no Tryz.underlying48 (by kernel_rfl) (by kernel_rfl), As2.no Tryz.underlying51 (by kernel_rfl) (by kernel_rfl), As1.yes Tryz.underlying42 (by kernel_rfl), As1.yes Tryz.underlying45 (by kernel_rfl), As1.no Tryz.underlying48 (by kernel_rfl), As1.no Tryz.underlying51 (by kernel_rfl), As2.yes Tryz.underlying32 (by kernel_rfl)⟩
theorem Ab_p4 : Ab 140 4 :=
  ⟨As2.no Tryz.underlying42 (by kernel_rfl) (by kernel_rfl), As2.no Tryz.underlying45 (by kernel_rfl) (by kernel_rfl), As2.yes Tryz.underlying48 (by kernel_rfl), As2.no Tryz.underlying51 (by kernel_rfl) (by kernel_rfl), As1.no Tryz.underlying42 (by kernel_rfl), As1.no Tryz.underlying45 (by kernel_rfl), As1.yes Tryz.underlying48 (by kernel_rfl), As1.no Tryz.underlying51 (by kernel_rfl), As2.yes Tryz.underlying32 (by kernel_rfl)⟩
theorem Ab_p5 : Ab 141 5 :=
  ⟨As2.yes Tryz.underlying42 (by kernel_rfl), As2.no Tryz.underlying45 (by kernel_rfl) (by kernel_rfl), As2.yes Tryz.underlying48 (by kernel_rfl), As2.no Tryz.underlying51 (by kernel_rfl) (by kernel_rfl), As1.yes Tryz.underlying42 (by kernel_rfl), As1.no Tryz.underlying45 (by kernel_rfl), As1.yes Tryz.underlying48 (by kernel_rfl), As1.no Tryz.underlying51 (by kernel_rfl), As2.yes Tryz.underlying32 (by kernel_rfl)⟩
theorem Ab_p6 : Ab 142 6 :=
  ⟨As2.no Tryz.underlying42 (by kernel_rfl) (by kernel_rfl), As2.yes Tryz.underlying45 (by kernel_rfl), As2.yes Tryz.underlying48 (by kernel_rfl), As2.no Tryz.underlying51 (by kernel_rfl) (by kernel_rfl), As1.no Tryz.underlying42 (by kernel_rfl), As1.yes Tryz.underlying45 (by kernel_rfl), As1.yes Tryz.underlying48 (by kernel_rfl), As1.no Tryz.underlying51 (by kernel_rfl), As2.yes Tryz.underlying32 (by kernel_rfl)⟩
theorem Ab_p7 : Ab 143 7 :=
  ⟨As2.yes Tryz.underlying42 (by kernel_rfl), As2.yes Tryz.underlying45 (by kernel_rfl), As2.yes Tryz.underlying48 (by kernel_rfl), As2.no Tryz.underlying51 (by kernel_rfl) (by kernel_rfl), As1.yes Tryz.underlying42 (by kernel_rfl), As1.yes Tryz.underlying45 (by kernel_rfl), As1.yes Tryz.underlying48 (by kernel_rfl), As1.no Tryz.underlying51 (by kernel_rfl), As2.yes Tryz.underlying32 (by kernel_rfl)⟩
theorem Ab_p8 : Ab 144 8 :=
  ⟨As2.no Tryz.underlying42 (by kernel_rfl) (by kernel_rfl), As2.no Tryz.underlying45 (by kernel_rfl) (by kernel_rfl), As2.no Tryz.underlying48 (by kernel_rfl) (by kernel_rfl), As2.yes Tryz.underlying51 (by kernel_rfl), As1.no Tryz.underlying42 (by kernel_rfl), As1.no Tryz.underlying45 (by kernel_rfl), As1.no Tryz.underlying48 (by kernel_rfl), As1.yes Tryz.underlying51 (by kernel_rfl), As2.yes Tryz.underlying32 (by kernel_rfl)⟩
theorem Ab_p9 : Ab 145 9 :=
  ⟨As2.yes Tryz.underlying42 (by kernel_rfl), As2.no Tryz.underlying45 (by kernel_rfl) (by kernel_rfl), As2.no Tryz.underlying48 (by kernel_rfl) (by kernel_rfl), As2.yes Tryz.underlying51 (by kernel_rfl), As1.yes Tryz.underlying42 (by kernel_rfl), As1.no Tryz.underlying45 (by kernel_rfl), As1.no Tryz.underlying48 (by kernel_rfl), As1.yes Tryz.underlying51 (by kernel_rfl), As2.yes Tryz.underlying32 (by kernel_rfl)⟩
theorem Ab_p10 : Ab 146 10 :=
  ⟨As2.no Tryz.underlying42 (by kernel_rfl) (by kernel_rfl), As2.yes Tryz.underlying45 (by kernel_rfl), As2.no Tryz.underlying48 (by kernel_rfl) (by kernel_rfl), As2.yes Tryz.underlying51 (by kernel_rfl), As1.no Tryz.underlying42 (by kernel_rfl), As1.yes Tryz.underlying45 (by kernel_rfl), As1.no Tryz.underlying48 (by kernel_rfl), As1.yes Tryz.underlying51 (by kernel_rfl), As2.yes Tryz.underlying32 (by kernel_rfl)⟩
theorem Ab_p11 : Ab 147 11 :=
  ⟨As2.yes Tryz.underlying42 (by kernel_rfl), As2.yes Tryz.underlying45 (by kernel_rfl), As2.no Tryz.underlying48 (by kernel_rfl) (by kernel_rfl), As2.yes Tryz.underlying51 (by kernel_rfl), As1.yes Tryz.underlying42 (by kernel_rfl), As1.yes Tryz.underlying45 (by kernel_rfl), As1.no Tryz.underlying48 (by kernel_rfl), As1.yes Tryz.underlying51 (by kernel_rfl), As2.yes Tryz.underlying32 (by kernel_rfl)⟩
theorem Ab_p12 : Ab 148 12 :=
  ⟨As2.no Tryz.underlying42 (by kernel_rfl) (by kernel_rfl), As2.no Tryz.underlying45 (by kernel_rfl) (by kernel_rfl), As2.yes Tryz.underlying48 (by kernel_rfl), As2.yes Tryz.underlying51 (by kernel_rfl), As1.no Tryz.underlying42 (by kernel_rfl), As1.no Tryz.underlying45 (by kernel_rfl), As1.yes Tryz.underlying48 (by kernel_rfl), As1.yes Tryz.underlying51 (by kernel_rfl), As2.yes Tryz.underlying32 (by kernel_rfl)⟩
theorem Ab_p13 : Ab 149 13 :=
  ⟨As2.yes Tryz.underlying42 (by kernel_rfl), As2.no Tryz.underlying45 (by kernel_rfl) (by kernel_rfl), As2.yes Tryz.underlying48 (by kernel_rfl), As2.yes Tryz.underlying51 (by kernel_rfl), As1.yes Tryz.underlying42 (by kernel_rfl), As1.no Tryz.underlying45 (by kernel_rfl), As1.yes Tryz.underlying48 (by kernel_rfl), As1.yes Tryz.underlying51 (by kernel_rfl), As2.yes Tryz.underlying32 (by kernel_rfl)⟩
theorem Ab_p14 : Ab 150 14 :=
  ⟨As2.no Tryz.underlying42 (by kernel_rfl) (by kernel_rfl), As2.yes Tryz.underlying45 (by kernel_rfl), As2.yes Tryz.underlying48 (by kernel_rfl), As2.yes Tryz.underlying51 (by kernel_rfl), As1.no Tryz.underlying42 (by kernel_rfl), As1.yes Tryz.underlying45 (by kernel_rfl), As1.yes Tryz.underlying48 (by kernel_rfl), As1.yes Tryz.underlying51 (by kernel_rfl), As2.yes Tryz.underlying32 (by kernel_rfl)⟩
theorem Ab_p15 : Ab 151 15 :=
  ⟨As2.yes Tryz.underlying42 (by kernel_rfl), As2.yes Tryz.underlying45 (by kernel_rfl), As2.yes Tryz.underlying48 (by kernel_rfl), As2.yes Tryz.underlying51 (by kernel_rfl), As1.yes Tryz.underlying42 (by kernel_rfl), As1.yes Tryz.underlying45 (by kernel_rfl), As1.yes Tryz.underlying48 (by kernel_rfl), As1.yes Tryz.underlying51 (by kernel_rfl), As2.yes Tryz.underlying32 (by kernel_rfl)⟩
theorem Ab_s0 : Ab 153 0 :=
  ⟨As2.no Tryz.underlying42 (by kernel_rfl) (by kernel_rfl), As2.no Tryz.underlying45 (by kernel_rfl) (by kernel_rfl), As2.no Tryz.underlying48 (by kernel_rfl) (by kernel_rfl), As2.no Tryz.underlying51 (by kernel_rfl) (by kernel_rfl), As1.no Tryz.underlying42 (by kernel_rfl), As1.no Tryz.underlying45 (by kernel_rfl), As1.no Tryz.underlying48 (by kernel_rfl), As1.no Tryz.underlying51 (by kernel_rfl), As2.yes Tryz.underlying32 (by kernel_rfl)⟩
theorem Ab_s1 : Ab 155 1 :=
  ⟨As2.yes Tryz.underlying42 (by kernel_rfl), As2.no Tryz.underlying45 (by kernel_rfl) (by kernel_rfl), As2.no Tryz.underlying48 (by kernel_rfl) (by kernel_rfl), As2.no Tryz.underlying51 (by kernel_rfl) (by kernel_rfl), As1.yes Tryz.underlying42 (by kernel_rfl), As1.no Tryz.underlying45 (by kernel_rfl), As1.no Tryz.underlying48 (by kernel_rfl), As1.no Tryz.underlying51 (by kernel_rfl), As2.yes Tryz.underlying32 (by kernel_rfl)⟩
theorem Ab_s2 : Ab 157 2 :=
  ⟨As2.no Tryz.underlying42 (by kernel_rfl) (by kernel_rfl), As2.yes Tryz.underlying45 (by kernel_rfl), As2.no Tryz.underlying48 (by kernel_rfl) (by kernel_rfl), As2.no Tryz.underlying51 (by kernel_rfl) (by kernel_rfl), As1.no Tryz.underlying42 (by kernel_rfl), As1.yes Tryz.underlying45 (by kernel_rfl), As1.no Tryz.underlying48 (by kernel_rfl), As1.no Tryz.underlying51 (by kernel_rfl), As2.yes Tryz.underlying32 (by kernel_rfl)⟩
theorem Ab_s3 : Ab 159 3 :=
  ⟨As2.yes Tryz.underlying42 (by kernel_rfl), As2.yes Tryz.underlying45 (by kernel_rfl), As2.no Tryz.underlying48 (by kernel_rfl) (by kernel_rfl), As2.no Tryz.underlying51 (by kernel_rfl) (by kernel_rfl), As1.yes Tryz.underlying42 (by kernel_rfl), As1.yes Tryz.underlying45 (by kernel_rfl), As1.no Tryz.underlying48 (by kernel_rfl), As1.no Tryz.underlying51 (by kernel_rfl), As2.yes Tryz.underlying32 (by kernel_rfl)⟩
theorem Ab_s4 : Ab 161 4 :=
  ⟨As2.no Tryz.underlying42 (by kernel_rfl) (by kernel_rfl), As2.no Tryz.underlying45 (by kernel_rfl) (by kernel_rfl), As2.yes Tryz.underlying48 (by kernel_rfl), As2.no Tryz.underlying51 (by kernel_rfl) (by kernel_rfl), As1.no Tryz.underlying42 (by kernel_rfl), As1.no Tryz.underlying45 (by kernel_rfl), As1.yes Tryz.underlying48 (by kernel_rfl), As1.no Tryz.underlying51 (by kernel_rfl), As2.yes Tryz.underlying32 (by kernel_rfl)⟩
theorem Ab_s5 : Ab 163 5 :=
  ⟨As2.yes Tryz.underlying42 (by kernel_rfl), As2.no Tryz.underlying45 (by kernel_rfl) (by kernel_rfl), As2.yes Tryz.underlying48 (by kernel_rfl), As2.no Tryz.underlying51 (by kernel_rfl) (by kernel_rfl), As1.yes Tryz.underlying42 (by kernel_rfl), As1.no Tryz.underlying45 (by kernel_rfl), As1.yes Tryz.underlying48 (by kernel_rfl), As1.no Tryz.underlying51 (by kernel_rfl), As2.yes Tryz.underlying32 (by kernel_rfl)⟩
theorem Ab_s6 : Ab 165 6 :=
  ⟨As2.no Tryz.underlying42 (by kernel_rfl) (by kernel_rfl), As2.yes Tryz.underlying45 (by kernel_rfl), As2.yes Tryz.underlying48 (by kernel_rfl), As2.no Tryz.underlying51 (by kernel_rfl) (by kernel_rfl), As1.no Tryz.underlying42 (by kernel_rfl), As1.yes Tryz.underlying45 (by kernel_rfl), As1.yes Tryz.underlying48 (by kernel_rfl), As1.no Tryz.underlying51 (by kernel_rfl), As2.yes Tryz.underlying32 (by kernel_rfl)⟩
theorem Ab_s7 : Ab 167 7 :=
  ⟨As2.yes Tryz.underlying42 (by kernel_rfl), As2.yes Tryz.underlying45 (by kernel_rfl), As2.yes Tryz.underlying48 (by kernel_rfl), As2.no Tryz.underlying51 (by kernel_rfl) (by kernel_rfl), As1.yes Tryz.underlying42 (by kernel_rfl), As1.yes Tryz.underlying45 (by kernel_rfl), As1.yes Tryz.underlying48 (by kernel_rfl), As1.no Tryz.underlying51 (by kernel_rfl), As2.yes Tryz.underlying32 (by kernel_rfl)⟩
theorem Ab_s8 : Ab 169 8 :=
  ⟨As2.no Tryz.underlying42 (by kernel_rfl) (by kernel_rfl), As2.no Tryz.underlying45 (by kernel_rfl) (by kernel_rfl), As2.no Tryz.underlying48 (by kernel_rfl) (by kernel_rfl), As2.yes Tryz.underlying51 (by kernel_rfl), As1.no Tryz.underlying42 (by kernel_rfl), As1.no Tryz.underlying45 (by kernel_rfl), As1.no Tryz.underlying48 (by kernel_rfl), As1.yes Tryz.underlying51 (by kernel_rfl), As2.yes Tryz.underlying32 (by kernel_rfl)⟩
theorem Ab_s9 : Ab 171 9 :=
  ⟨As2.yes Tryz.underlying42 (by kernel_rfl), As2.no Tryz.underlying45 (by kernel_rfl) (by kernel_rfl), As2.no Tryz.underlying48 (by kernel_rfl) (by kernel_rfl), As2.yes Tryz.underlying51 (by kernel_rfl), As1.yes Tryz.underlying42 (by kernel_rfl), As1.no Tryz.underlying45 (by kernel_rfl), As1.no Tryz.underlying48 (by kernel_rfl), As1.yes Tryz.underlying51 (by kernel_rfl), As2.yes Tryz.underlying32 (by kernel_rfl)⟩
theorem Ab_s10 : Ab 173 10 :=
  ⟨As2.no Tryz.underlying42 (by kernel_rfl) (by kernel_rfl), As2.yes Tryz.underlying45 (by kernel_rfl), As2.no Tryz.underlying48 (by kernel_rfl) (by kernel_rfl), As2.yes Tryz.underlying51 (by kernel_rfl), As1.no Tryz.underlying42 (by kernel_rfl), As1.yes Tryz.underlying45 (by kernel_rfl), As1.no Tryz.underlying48 (by kernel_rfl), As1.yes Tryz.underlying51 (by kernel_rfl), As2.yes Tryz.underlying32 (by kernel_rfl)⟩
theorem Ab_s11 : Ab 175 11 :=
  ⟨As2.yes Tryz.underlying42 (by kernel_rfl), As2.yes Tryz.underlying45 (by kernel_rfl), As2.no Tryz.underlying48 (by kernel_rfl) (by kernel_rfl), As2.yes Tryz.underlying51 (by kernel_rfl), As1.yes Tryz.underlying42 (by kernel_rfl), As1.yes Tryz.underlying45 (by kernel_rfl), As1.no Tryz.underlying48 (by kernel_rfl), As1.yes Tryz.underlying51 (by kernel_rfl), As2.yes Tryz.underlying32 (by kernel_rfl)⟩
theorem Ab_s12 : Ab 177 12 :=
  ⟨As2.no Tryz.underlying42 (by kernel_rfl) (by kernel_rfl), As2.no Tryz.underlying45 (by kernel_rfl) (by kernel_rfl), As2.yes Tryz.underlying48 (by kernel_rfl), As2.yes Tryz.underlying51 (by kernel_rfl), As1.no Tryz.underlying42 (by kernel_rfl), As1.no Tryz.underlying45 (by kernel_rfl), As1.yes Tryz.underlying48 (by kernel_rfl), As1.yes Tryz.underlying51 (by kernel_rfl), As2.yes Tryz.underlying32 (by kernel_rfl)⟩
theorem Ab_s13 : Ab 179 13 :=
  ⟨As2.yes Tryz.underlying42 (by kernel_rfl), As2.no Tryz.underlying45 (by kernel_rfl) (by kernel_rfl), As2.yes Tryz.underlying48 (by kernel_rfl), As2.yes Tryz.underlying51 (by kernel_rfl), As1.yes Tryz.underlying42 (by kernel_rfl), As1.no Tryz.underlying45 (by kernel_rfl), As1.yes Tryz.underlying48 (by kernel_rfl), As1.yes Tryz.underlying51 (by kernel_rfl), As2.yes Tryz.underlying32 (by kernel_rfl)⟩
theorem Ab_s14 : Ab 181 14 :=
  ⟨As2.no Tryz.underlying42 (by kernel_rfl) (by kernel_rfl), As2.yes Tryz.underlying45 (by kernel_rfl), As2.yes Tryz.underlying48 (by kernel_rfl), As2.yes Tryz.underlying51 (by kernel_rfl), As1.no Tryz.underlying42 (by kernel_rfl), As1.yes Tryz.underlying45 (by kernel_rfl), As1.yes Tryz.underlying48 (by kernel_rfl), As1.yes Tryz.underlying51 (by kernel_rfl), As2.yes Tryz.underlying32 (by kernel_rfl)⟩
theorem Ab_s15 : Ab 121 15 :=
  ⟨As2.yes Tryz.underlying42 (by kernel_rfl), As2.yes Tryz.underlying45 (by kernel_rfl), As2.yes Tryz.underlying48 (by kernel_rfl), As2.yes Tryz.underlying51 (by kernel_rfl), As1.yes Tryz.underlying42 (by kernel_rfl), As1.yes Tryz.underlying45 (by kernel_rfl), As1.yes Tryz.underlying48 (by kernel_rfl), As1.yes Tryz.underlying51 (by kernel_rfl), As2.yes Tryz.underlying32 (by kernel_rfl)⟩
theorem Ab_u0 : Ab 111 0 :=
  ⟨As2.no Tryz.underlying42 (by kernel_rfl) (by kernel_rfl), As2.no Tryz.underlying45 (by kernel_rfl) (by kernel_rfl), As2.no Tryz.underlying48 (by kernel_rfl) (by kernel_rfl), As2.no Tryz.underlying51 (by kernel_rfl) (by kernel_rfl), As1.no Tryz.underlying42 (by kernel_rfl), As1.no Tryz.underlying45 (by kernel_rfl), As1.no Tryz.underlying48 (by kernel_rfl), As1.no Tryz.underlying51 (by kernel_rfl), As2.yes Tryz.underlying32 (by kernel_rfl)⟩
theorem Ab_u15 : Ab 125 15 :=
  ⟨As2.yes Tryz.underlying42 (by kernel_rfl), As2.yes Tryz.underlying45 (by kernel_rfl), As2.yes Tryz.underlying48 (by kernel_rfl), As2.yes Tryz.underlying51 (by kernel_rfl), As1.yes Tryz.underlying42 (by kernel_rfl), As1.yes Tryz.underlying45 (by kernel_rfl), As1.yes Tryz.underlying48 (by kernel_rfl), As1.yes Tryz.underlying51 (by kernel_rfl), As2.yes Tryz.underlying32 (by kernel_rfl)⟩

theorem ta_thing (T xT : TypeId) (v : Value) (w : World) : (Instr.typeAssert (.iface T v) xT 66 true).run Tryz.prog w = .ok (if T = 66 then .tuple #[v, .bool true] else .tuple #[.pointer none, .bool false]) w :=
  ta_of Tryz.prog (d := .pointer 100) (by kernel_rfl) (by simp) T _ v w (by kernel_rfl)
end Go.Proofs.YtbjjeleoimcboaaGreat

/- object.holds, as, As, must, Must and Abilities, of objects whose type's abilities are known. -/
namespace Go.Proofs.YtbjjeleoimcboaaGreat
open Go.RowKit

theorem eqn_obj (T : Nat) (v : Value) (w : World) : (binOp .eql 32 (.iface T v) .nilIface).run Tryz.prog w = .ok (.bool false) w := by kernel_rfl
theorem eqng_obj (T : Nat) (v : Value) (x y : Operand) (w : World) : (eqGuard .eql 32 x y (.iface T v) .nilIface).run Tryz.prog w = .ok () w := by kernel_rfl

set_option maxRecDepth 100000 in
set_option maxHeartbeats 1000000 in
theorem holds_nil (w : World) :
    Calls Tryz.prog 30 #[.nilIface] w fun e w' => e = .returned (.int .i64 1) ∧ w = w' := by
  have hq : ∀ W, (binOp .eql 32 .nilIface .nilIface).run Tryz.prog W = .ok (.bool true) W := fun W => by kernel_rfl
  go_enter Tryz.func30, Tryz.ntmps30
  go_wp2_with fail
  go_ret
  exact ⟨rfl, rfl⟩

set_option maxRecDepth 100000 in
set_option maxHeartbeats 1000000 in
theorem holds_hollow (w : World) :
    Calls Tryz.prog 30 #[.iface 66 (.pointer none)] w fun e w' => e = .returned (.int .i64 2) ∧ w = w' := by
  have hq := eqn_obj
  have hg := eqng_obj
  have ht : ∀ xT W, (Instr.typeAssert (.iface 66 (.pointer none)) xT 66 true).run Tryz.prog W = .ok (.tuple #[.pointer none, .bool true]) W := fun xT W => by rw [ta_thing]; rfl
  go_enter Tryz.func30, Tryz.ntmps30
  go_wp2_with fail
  go_ret
  exact ⟨rfl, rfl⟩

set_option maxRecDepth 100000 in
set_option maxHeartbeats 1000000 in
theorem holds_thing (a : Addr) (w : World) :
    Calls Tryz.prog 30 #[.iface 66 (.pointer (some a))] w fun e w' => e = .returned (.int .i64 0) ∧ w = w' := by
  have hq := eqn_obj
  have hg := eqng_obj
  have ht : ∀ xT W, (Instr.typeAssert (.iface 66 (.pointer (some a))) xT 66 true).run Tryz.prog W = .ok (.tuple #[.pointer (some a), .bool true]) W := fun xT W => by rw [ta_thing]; rfl
  go_enter Tryz.func30, Tryz.ntmps30
  go_wp2_with fail
  go_ret
  exact ⟨rfl, rfl⟩

set_option maxRecDepth 100000 in
set_option maxHeartbeats 1000000 in
theorem holds_other (T : Nat) (hT : T ≠ 66) (v : Value) (w : World) :
    Calls Tryz.prog 30 #[.iface T v] w fun e w' => e = .returned (.int .i64 0) ∧ w = w' := by
  have hq := eqn_obj
  have hg := eqng_obj
  have ht : ∀ xT W, (Instr.typeAssert (.iface T v) xT 66 true).run Tryz.prog W = .ok (.tuple #[.pointer none, .bool false]) W := fun xT W => by rw [ta_thing, if_neg hT]
  clear hT
  go_enter Tryz.func30, Tryz.ntmps30
  go_wp2_with fail
  go_ret
  exact ⟨rfl, rfl⟩

/-- o is Something: a Thing that is there, or of another type. -/
def Sm (T : Nat) (v : Value) : Prop := (T = 66 ∧ ∃ a, v = .pointer (some a)) ∨ T ≠ 66
theorem holds_sm {T : Nat} {v : Value} (h : Sm T v) (w : World) : Calls Tryz.prog 30 #[.iface T v] w fun e w' => e = .returned (.int .i64 0) ∧ w = w' := by
  rcases h with ⟨rfl, a, rfl⟩ | h
  · exact holds_thing a w
  · exact holds_other T h v w

set_option maxRecDepth 100000 in
set_option maxHeartbeats 1000000 in
theorem as_Versioned {T n : Nat} (h : Ab T n) (v : Value) (w : World) :
    Calls Tryz.prog 36 #[.iface T v] w fun e w' => e = .returned (.tuple #[if n.testBit 0 then .iface T v else .nilIface, .bool (n.testBit 0)]) ∧ w = w' := by
  have h2 := h.v2
  unfold As2 at h2
  generalize hb : (n.testBit 0) = b at h2
  clear hb h
  cases b
  · simp only [Bool.false_eq_true, if_false] at h2 ⊢
    go_enter Tryz.func36, Tryz.ntmps36
    go_wp2_with fail
    go_ret2
    exact ⟨rfl, rfl⟩
  · simp only [if_true] at h2 ⊢
    go_enter Tryz.func36, Tryz.ntmps36
    go_wp2_with fail
    go_ret2
    exact ⟨rfl, rfl⟩

set_option maxRecDepth 100000 in
set_option maxHeartbeats 1000000 in
theorem As_Versioned {T n : Nat} (h : Ab T n) {v : Value} (hs : Sm T v) (w : World) :
    Calls Tryz.prog 17 #[.iface T v] w fun e w' => e = .returned (.tuple #[if n.testBit 0 then .iface T v else .nilIface, .bool (n.testBit 0)]) ∧ w = w' := by
  have HA : Hid (∀ W, Calls Tryz.prog 36 #[.iface T v] W fun e w' => e = .returned (.tuple #[if n.testBit 0 then .iface T v else .nilIface, .bool (n.testBit 0)]) ∧ W = w') := fun W => as_Versioned h v W
  have HS : Hid (∀ W, Calls Tryz.prog 30 #[.iface T v] W fun e w' => e = .returned (.int .i64 0) ∧ W = w') := fun W => holds_sm hs W
  generalize (if n.testBit 0 then Value.iface T v else Value.nilIface) = X at HA ⊢
  generalize (n.testBit 0) = b at HA ⊢
  clear h hs
  go_enter Tryz.func17, Tryz.ntmps17
  go_wp2_with (first | (go_at_call 30; refine (HS.out _).mono ?_; rintro e w' ⟨rfl, rfl⟩) | (go_at_call 36; refine (HA.out _).mono ?_; rintro e w' ⟨rfl, rfl⟩))
  go_ret2
  exact ⟨rfl, rfl⟩

set_option maxRecDepth 100000 in
set_option maxHeartbeats 1000000 in
theorem as_Indexed {T n : Nat} (h : Ab T n) (v : Value) (w : World) :
    Calls Tryz.prog 37 #[.iface T v] w fun e w' => e = .returned (.tuple #[if n.testBit 1 then .iface T v else .nilIface, .bool (n.testBit 1)]) ∧ w = w' := by
  have h2 := h.i2
  unfold As2 at h2
  generalize hb : (n.testBit 1) = b at h2
  clear hb h
  cases b
  · simp only [Bool.false_eq_true, if_false] at h2 ⊢
    go_enter Tryz.func37, Tryz.ntmps37
    go_wp2_with fail
    go_ret2
    exact ⟨rfl, rfl⟩
  · simp only [if_true] at h2 ⊢
    go_enter Tryz.func37, Tryz.ntmps37
    go_wp2_with fail
    go_ret2
    exact ⟨rfl, rfl⟩

set_option maxRecDepth 100000 in
set_option maxHeartbeats 1000000 in
theorem As_Indexed {T n : Nat} (h : Ab T n) {v : Value} (hs : Sm T v) (w : World) :
    Calls Tryz.prog 18 #[.iface T v] w fun e w' => e = .returned (.tuple #[if n.testBit 1 then .iface T v else .nilIface, .bool (n.testBit 1)]) ∧ w = w' := by
  have HA : Hid (∀ W, Calls Tryz.prog 37 #[.iface T v] W fun e w' => e = .returned (.tuple #[if n.testBit 1 then .iface T v else .nilIface, .bool (n.testBit 1)]) ∧ W = w') := fun W => as_Indexed h v W
  have HS : Hid (∀ W, Calls Tryz.prog 30 #[.iface T v] W fun e w' => e = .returned (.int .i64 0) ∧ W = w') := fun W => holds_sm hs W
  generalize (if n.testBit 1 then Value.iface T v else Value.nilIface) = X at HA ⊢
  generalize (n.testBit 1) = b at HA ⊢
  clear h hs
  go_enter Tryz.func18, Tryz.ntmps18
  go_wp2_with (first | (go_at_call 30; refine (HS.out _).mono ?_; rintro e w' ⟨rfl, rfl⟩) | (go_at_call 37; refine (HA.out _).mono ?_; rintro e w' ⟨rfl, rfl⟩))
  go_ret2
  exact ⟨rfl, rfl⟩

set_option maxRecDepth 100000 in
set_option maxHeartbeats 1000000 in
theorem as_Owned {T n : Nat} (h : Ab T n) (v : Value) (w : World) :
    Calls Tryz.prog 38 #[.iface T v] w fun e w' => e = .returned (.tuple #[if n.testBit 2 then .iface T v else .nilIface, .bool (n.testBit 2)]) ∧ w = w' := by
  have h2 := h.o2
  unfold As2 at h2
  generalize hb : (n.testBit 2) = b at h2
  clear hb h
  cases b
  · simp only [Bool.false_eq_true, if_false] at h2 ⊢
    go_enter Tryz.func38, Tryz.ntmps38
    go_wp2_with fail
    go_ret2
    exact ⟨rfl, rfl⟩
  · simp only [if_true] at h2 ⊢
    go_enter Tryz.func38, Tryz.ntmps38
    go_wp2_with fail
    go_ret2
    exact ⟨rfl, rfl⟩

set_option maxRecDepth 100000 in
set_option maxHeartbeats 1000000 in
theorem As_Owned {T n : Nat} (h : Ab T n) {v : Value} (hs : Sm T v) (w : World) :
    Calls Tryz.prog 19 #[.iface T v] w fun e w' => e = .returned (.tuple #[if n.testBit 2 then .iface T v else .nilIface, .bool (n.testBit 2)]) ∧ w = w' := by
  have HA : Hid (∀ W, Calls Tryz.prog 38 #[.iface T v] W fun e w' => e = .returned (.tuple #[if n.testBit 2 then .iface T v else .nilIface, .bool (n.testBit 2)]) ∧ W = w') := fun W => as_Owned h v W
  have HS : Hid (∀ W, Calls Tryz.prog 30 #[.iface T v] W fun e w' => e = .returned (.int .i64 0) ∧ W = w') := fun W => holds_sm hs W
  generalize (if n.testBit 2 then Value.iface T v else Value.nilIface) = X at HA ⊢
  generalize (n.testBit 2) = b at HA ⊢
  clear h hs
  go_enter Tryz.func19, Tryz.ntmps19
  go_wp2_with (first | (go_at_call 30; refine (HS.out _).mono ?_; rintro e w' ⟨rfl, rfl⟩) | (go_at_call 38; refine (HA.out _).mono ?_; rintro e w' ⟨rfl, rfl⟩))
  go_ret2
  exact ⟨rfl, rfl⟩

set_option maxRecDepth 100000 in
set_option maxHeartbeats 1000000 in
theorem as_Lazy {T n : Nat} (h : Ab T n) (v : Value) (w : World) :
    Calls Tryz.prog 39 #[.iface T v] w fun e w' => e = .returned (.tuple #[if n.testBit 3 then .iface T v else .nilIface, .bool (n.testBit 3)]) ∧ w = w' := by
  have h2 := h.l2
  unfold As2 at h2
  generalize hb : (n.testBit 3) = b at h2
  clear hb h
  cases b
  · simp only [Bool.false_eq_true, if_false] at h2 ⊢
    go_enter Tryz.func39, Tryz.ntmps39
    go_wp2_with fail
    go_ret2
    exact ⟨rfl, rfl⟩
  · simp only [if_true] at h2 ⊢
    go_enter Tryz.func39, Tryz.ntmps39
    go_wp2_with fail
    go_ret2
    exact ⟨rfl, rfl⟩

set_option maxRecDepth 100000 in
set_option maxHeartbeats 1000000 in
theorem As_Lazy {T n : Nat} (h : Ab T n) {v : Value} (hs : Sm T v) (w : World) :
    Calls Tryz.prog 20 #[.iface T v] w fun e w' => e = .returned (.tuple #[if n.testBit 3 then .iface T v else .nilIface, .bool (n.testBit 3)]) ∧ w = w' := by
  have HA : Hid (∀ W, Calls Tryz.prog 39 #[.iface T v] W fun e w' => e = .returned (.tuple #[if n.testBit 3 then .iface T v else .nilIface, .bool (n.testBit 3)]) ∧ W = w') := fun W => as_Lazy h v W
  have HS : Hid (∀ W, Calls Tryz.prog 30 #[.iface T v] W fun e w' => e = .returned (.int .i64 0) ∧ W = w') := fun W => holds_sm hs W
  generalize (if n.testBit 3 then Value.iface T v else Value.nilIface) = X at HA ⊢
  generalize (n.testBit 3) = b at HA ⊢
  clear h hs
  go_enter Tryz.func20, Tryz.ntmps20
  go_wp2_with (first | (go_at_call 30; refine (HS.out _).mono ?_; rintro e w' ⟨rfl, rfl⟩) | (go_at_call 39; refine (HA.out _).mono ?_; rintro e w' ⟨rfl, rfl⟩))
  go_ret2
  exact ⟨rfl, rfl⟩

set_option maxRecDepth 100000 in
set_option maxHeartbeats 1000000 in
theorem as_Object {T n : Nat} (h : Ab T n) (v : Value) (w : World) :
    Calls Tryz.prog 41 #[.iface T v] w fun e w' => e = .returned (.tuple #[.iface T v, .bool true]) ∧ w = w' := by
  have h2 : ∀ v xT w, (Instr.typeAssert (.iface T v) xT 32 true).run Tryz.prog w = .ok (.tuple #[.iface T v, .bool true]) w := h.ob
  clear h
  go_enter Tryz.func41, Tryz.ntmps41
  go_wp2_with fail
  go_ret2
  exact ⟨rfl, rfl⟩

set_option maxRecDepth 100000 in
set_option maxHeartbeats 1000000 in
theorem As_Object {T n : Nat} (h : Ab T n) {v : Value} (hs : Sm T v) (w : World) :
    Calls Tryz.prog 22 #[.iface T v] w fun e w' => e = .returned (.tuple #[.iface T v, .bool true]) ∧ w = w' := by
  have HA : Hid (∀ W, Calls Tryz.prog 41 #[.iface T v] W fun e w' => e = .returned (.tuple #[.iface T v, .bool true]) ∧ W = w') := fun W => as_Object h v W
  have HS : Hid (∀ W, Calls Tryz.prog 30 #[.iface T v] W fun e w' => e = .returned (.int .i64 0) ∧ W = w') := fun W => holds_sm hs W
  clear h hs
  go_enter Tryz.func22, Tryz.ntmps22
  go_wp2_with (first | (go_at_call 30; refine (HS.out _).mono ?_; rintro e w' ⟨rfl, rfl⟩) | (go_at_call 41; refine (HA.out _).mono ?_; rintro e w' ⟨rfl, rfl⟩))
  go_ret2
  exact ⟨rfl, rfl⟩

set_option maxRecDepth 100000 in
set_option maxHeartbeats 1000000 in
theorem as_Thing {T : Nat} (hT : T ≠ 66) (v : Value) (w : World) :
    Calls Tryz.prog 42 #[.iface T v] w fun e w' => e = .returned (.tuple #[.pointer none, .bool false]) ∧ w = w' := by
  have ht : ∀ xT W, (Instr.typeAssert (.iface T v) xT 66 true).run Tryz.prog W = .ok (.tuple #[.pointer none, .bool false]) W := fun xT W => by rw [ta_thing, if_neg hT]
  clear hT
  go_enter Tryz.func42, Tryz.ntmps42
  go_wp2_with fail
  go_ret2
  exact ⟨rfl, rfl⟩

set_option maxRecDepth 100000 in
set_option maxHeartbeats 1000000 in
theorem As_Thing {T : Nat} (hT : T ≠ 66) (v : Value) (w : World) :
    Calls Tryz.prog 23 #[.iface T v] w fun e w' => e = .returned (.tuple #[.pointer none, .bool false]) ∧ w = w' := by
  have HA : Hid (∀ W, Calls Tryz.prog 42 #[.iface T v] W fun e w' => e = .returned (.tuple #[.pointer none, .bool false]) ∧ W = w') := fun W => as_Thing hT v W
  have HS : Hid (∀ W, Calls Tryz.prog 30 #[.iface T v] W fun e w' => e = .returned (.int .i64 0) ∧ W = w') := fun W => holds_other T hT v W
  clear hT
  go_enter Tryz.func23, Tryz.ntmps23
  go_wp2_with (first | (go_at_call 30; refine (HS.out _).mono ?_; rintro e w' ⟨rfl, rfl⟩) | (go_at_call 42; refine (HA.out _).mono ?_; rintro e w' ⟨rfl, rfl⟩))
  go_ret2
  exact ⟨rfl, rfl⟩

/-- How a panicking assertion ends: kind 0, or Go's own panic. -/
def MustE : Bool → Value → World → Ending → World → Prop
  | true, x, w, e, w' => e = .returned x ∧ w = w'
  | false, _, w, e, w' => ∃ v, e = .panicked [{ v := v, recovered := false }] ∧ Kd v 1 9 ∧ Below w.heap.size w w'

set_option maxRecDepth 100000 in
set_option maxHeartbeats 1000000 in
theorem must_Versioned {T n : Nat} (h : Ab T n) (v : Value) (w : World) :
    Calls Tryz.prog 32 #[.iface T v] w fun e w' => MustE (n.testBit 0) (.iface T v) w e w' := by
  have h1 := h.v1
  unfold As1 at h1
  generalize hb : (n.testBit 0) = b at h1
  clear hb h
  cases b
  · simp only [Bool.false_eq_true, if_false] at h1
    obtain ⟨o, h2⟩ := h1 v 20 w
    clear h1
    go_enter Tryz.func32, Tryz.ntmps32
    go_wp2_with fail
    exact ⟨rfl, _, rfl, Kd_ta _, (Below.refl _ _).alloc (Nat.le_refl _) _⟩
  · simp only [if_true] at h1
    go_enter Tryz.func32, Tryz.ntmps32
    go_wp2_with fail
    go_ret
    exact ⟨rfl, rfl⟩

set_option maxRecDepth 100000 in
set_option maxHeartbeats 1000000 in
theorem Must_Versioned {T n : Nat} (h : Ab T n) (v : Value) (w : World) :
    Calls Tryz.prog 10 #[.iface T v] w fun e w' => MustE (n.testBit 0) (.iface T v) w e w' := by
  have HA : Hid (Calls Tryz.prog 32 #[.iface T v] w fun e w' => MustE (n.testBit 0) (.iface T v) w e w') := must_Versioned h v w
  clear h
  generalize (n.testBit 0) = b at HA ⊢
  cases b
  · go_enter Tryz.func10, Tryz.ntmps10
    go_wp2_with fail
    refine HA.out.mono ?_
    rintro e w' ⟨pv, rfl, hk, hbw⟩
    exact ⟨rfl, pv, rfl, hk, hbw⟩
  · go_enter Tryz.func10, Tryz.ntmps10
    go_wp2_with fail
    refine HA.out.mono ?_
    rintro e w' ⟨rfl, rfl⟩
    go_wp2_with fail
    go_ret
    exact ⟨rfl, rfl⟩

set_option maxRecDepth 100000 in
set_option maxHeartbeats 1000000 in
theorem must_Indexed {T n : Nat} (h : Ab T n) (v : Value) (w : World) :
    Calls Tryz.prog 33 #[.iface T v] w fun e w' => MustE (n.testBit 1) (.iface T v) w e w' := by
  have h1 := h.i1
  unfold As1 at h1
  generalize hb : (n.testBit 1) = b at h1
  clear hb h
  cases b
  · simp only [Bool.false_eq_true, if_false] at h1
    obtain ⟨o, h2⟩ := h1 v 20 w
    clear h1
    go_enter Tryz.func33, Tryz.ntmps33
    go_wp2_with fail
    exact ⟨rfl, _, rfl, Kd_ta _, (Below.refl _ _).alloc (Nat.le_refl _) _⟩
  · simp only [if_true] at h1
    go_enter Tryz.func33, Tryz.ntmps33
    go_wp2_with fail
    go_ret
    exact ⟨rfl, rfl⟩

set_option maxRecDepth 100000 in
set_option maxHeartbeats 1000000 in
theorem Must_Indexed {T n : Nat} (h : Ab T n) (v : Value) (w : World) :
    Calls Tryz.prog 12 #[.iface T v] w fun e w' => MustE (n.testBit 1) (.iface T v) w e w' := by
  have HA : Hid (Calls Tryz.prog 33 #[.iface T v] w fun e w' => MustE (n.testBit 1) (.iface T v) w e w') := must_Indexed h v w
  clear h
  generalize (n.testBit 1) = b at HA ⊢
  cases b
  · go_enter Tryz.func12, Tryz.ntmps12
    go_wp2_with fail
    refine HA.out.mono ?_
    rintro e w' ⟨pv, rfl, hk, hbw⟩
    exact ⟨rfl, pv, rfl, hk, hbw⟩
  · go_enter Tryz.func12, Tryz.ntmps12
    go_wp2_with fail
    refine HA.out.mono ?_
    rintro e w' ⟨rfl, rfl⟩
    go_wp2_with fail
    go_ret
    exact ⟨rfl, rfl⟩

set_option maxRecDepth 100000 in
set_option maxHeartbeats 1000000 in
theorem must_Owned {T n : Nat} (h : Ab T n) (v : Value) (w : World) :
    Calls Tryz.prog 34 #[.iface T v] w fun e w' => MustE (n.testBit 2) (.iface T v) w e w' := by
  have h1 := h.o1
  unfold As1 at h1
  generalize hb : (n.testBit 2) = b at h1
  clear hb h
  cases b
  · simp only [Bool.false_eq_true, if_false] at h1
    obtain ⟨o, h2⟩ := h1 v 20 w
    clear h1
    go_enter Tryz.func34, Tryz.ntmps34
    go_wp2_with fail
    exact ⟨rfl, _, rfl, Kd_ta _, (Below.refl _ _).alloc (Nat.le_refl _) _⟩
  · simp only [if_true] at h1
    go_enter Tryz.func34, Tryz.ntmps34
    go_wp2_with fail
    go_ret
    exact ⟨rfl, rfl⟩

set_option maxRecDepth 100000 in
set_option maxHeartbeats 1000000 in
theorem Must_Owned {T n : Nat} (h : Ab T n) (v : Value) (w : World) :
    Calls Tryz.prog 14 #[.iface T v] w fun e w' => MustE (n.testBit 2) (.iface T v) w e w' := by
  have HA : Hid (Calls Tryz.prog 34 #[.iface T v] w fun e w' => MustE (n.testBit 2) (.iface T v) w e w') := must_Owned h v w
  clear h
  generalize (n.testBit 2) = b at HA ⊢
  cases b
  · go_enter Tryz.func14, Tryz.ntmps14
    go_wp2_with fail
    refine HA.out.mono ?_
    rintro e w' ⟨pv, rfl, hk, hbw⟩
    exact ⟨rfl, pv, rfl, hk, hbw⟩
  · go_enter Tryz.func14, Tryz.ntmps14
    go_wp2_with fail
    refine HA.out.mono ?_
    rintro e w' ⟨rfl, rfl⟩
    go_wp2_with fail
    go_ret
    exact ⟨rfl, rfl⟩

set_option maxRecDepth 100000 in
set_option maxHeartbeats 1000000 in
theorem must_Lazy {T n : Nat} (h : Ab T n) (v : Value) (w : World) :
    Calls Tryz.prog 35 #[.iface T v] w fun e w' => MustE (n.testBit 3) (.iface T v) w e w' := by
  have h1 := h.l1
  unfold As1 at h1
  generalize hb : (n.testBit 3) = b at h1
  clear hb h
  cases b
  · simp only [Bool.false_eq_true, if_false] at h1
    obtain ⟨o, h2⟩ := h1 v 20 w
    clear h1
    go_enter Tryz.func35, Tryz.ntmps35
    go_wp2_with fail
    exact ⟨rfl, _, rfl, Kd_ta _, (Below.refl _ _).alloc (Nat.le_refl _) _⟩
  · simp only [if_true] at h1
    go_enter Tryz.func35, Tryz.ntmps35
    go_wp2_with fail
    go_ret
    exact ⟨rfl, rfl⟩

set_option maxRecDepth 100000 in
set_option maxHeartbeats 1000000 in
theorem Must_Lazy {T n : Nat} (h : Ab T n) (v : Value) (w : World) :
    Calls Tryz.prog 16 #[.iface T v] w fun e w' => MustE (n.testBit 3) (.iface T v) w e w' := by
  have HA : Hid (Calls Tryz.prog 35 #[.iface T v] w fun e w' => MustE (n.testBit 3) (.iface T v) w e w') := must_Lazy h v w
  clear h
  generalize (n.testBit 3) = b at HA ⊢
  cases b
  · go_enter Tryz.func16, Tryz.ntmps16
    go_wp2_with fail
    refine HA.out.mono ?_
    rintro e w' ⟨pv, rfl, hk, hbw⟩
    exact ⟨rfl, pv, rfl, hk, hbw⟩
  · go_enter Tryz.func16, Tryz.ntmps16
    go_wp2_with fail
    refine HA.out.mono ?_
    rintro e w' ⟨rfl, rfl⟩
    go_wp2_with fail
    go_ret
    exact ⟨rfl, rfl⟩

def addUp (b0 b1 b2 b3 : Bool) : Int := (if b0 then 1 else 0) + (if b1 then 2 else 0) + (if b2 then 4 else 0) + (if b3 then 8 else 0)
theorem addUp_bits (n : Nat) (h : n < 16) : addUp (n.testBit 0) (n.testBit 1) (n.testBit 2) (n.testBit 3) = (n : Int) := by
  revert n; decide +kernel

set_option maxRecDepth 100000 in
set_option maxHeartbeats 1000000 in
theorem abilitiesOf_any {T n : Nat} (h : Ab T n) (hn : n < 16) (v : Value) (w : World) :
    Calls Tryz.prog 31 #[.iface T v] w fun e w' => e = .returned (.int .i64 (n : Int)) ∧ w = w' := by
  rw [← addUp_bits n hn]
  have h0 := h.v2
  have h1 := h.i2
  have h2 := h.o2
  have h3 := h.l2
  unfold As2 at h0 h1 h2 h3
  generalize (n.testBit 0) = b0 at h0 ⊢
  generalize (n.testBit 1) = b1 at h1 ⊢
  generalize (n.testBit 2) = b2 at h2 ⊢
  generalize (n.testBit 3) = b3 at h3 ⊢
  clear hn h
  cases b0 <;> cases b1 <;> cases b2 <;> cases b3 <;> (
    simp only [Bool.false_eq_true, if_false, if_true] at h0 h1 h2 h3
    go_enter Tryz.func31, Tryz.ntmps31
    go_wp2_with fail
    go_ret
    exact ⟨rfl, rfl⟩)

set_option maxRecDepth 100000 in
set_option maxHeartbeats 1000000 in
theorem Abilities_any {T n : Nat} (h : Ab T n) (hn : n < 16) {v : Value} (hs : Sm T v) (w : World) :
    Calls Tryz.prog 7 #[.iface T v] w fun e w' => e = .returned (.tuple #[.int .i64 (n : Int), .int .i64 0]) ∧ w = w' := by
  have HA : Hid (∀ W, Calls Tryz.prog 31 #[.iface T v] W fun e w' => e = .returned (.int .i64 (n : Int)) ∧ W = w') := fun W => abilitiesOf_any h hn v W
  have HS : Hid (∀ W, Calls Tryz.prog 30 #[.iface T v] W fun e w' => e = .returned (.int .i64 0) ∧ W = w') := fun W => holds_sm hs W
  clear h hs hn
  go_enter Tryz.func7, Tryz.ntmps7
  go_wp2_with (first | (go_at_call 30; refine (HS.out _).mono ?_; rintro e w' ⟨rfl, rfl⟩) | (go_at_call 31; refine (HA.out _).mono ?_; rintro e w' ⟨rfl, rfl⟩))
  go_ret2
  exact ⟨rfl, rfl⟩

set_option maxRecDepth 100000 in
set_option maxHeartbeats 1000000 in
theorem Abilities_no (o : Value) (k : Int) (hk : (k != 0) = true) (w : World) (hh : Hid (∀ W, Calls Tryz.prog 30 #[o] W fun e w' => e = .returned (.int .i64 k) ∧ W = w')) :
    Calls Tryz.prog 7 #[o] w fun e w' => e = .returned (.tuple #[.int .i64 0, .int .i64 7]) ∧ w = w' := by
  go_enter Tryz.func7, Tryz.ntmps7
  go_wp2_with (go_at_call 30; refine (hh.out _).mono ?_; rintro e w' ⟨rfl, rfl⟩)
  go_ret2
  exact ⟨rfl, rfl⟩

set_option maxRecDepth 100000 in
set_option maxHeartbeats 1000000 in
theorem Holds_any (o : Value) (k : Int) (w : World) (hh : Hid (∀ W, Calls Tryz.prog 30 #[o] W fun e w' => e = .returned (.int .i64 k) ∧ W = w')) :
    Calls Tryz.prog 28 #[o] w fun e w' => e = .returned (.int .i64 k) ∧ w = w' := by
  go_enter Tryz.func28, Tryz.ntmps28
  go_wp2_with (go_at_call 30; refine (hh.out _).mono ?_; rintro e w' ⟨rfl, rfl⟩)
  go_ret
  exact ⟨rfl, rfl⟩
end Go.Proofs.YtbjjeleoimcboaaGreat

