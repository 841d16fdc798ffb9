/- How a method of a made object is found by its type. -/
import Derived.Test.YtcelbkkgjnfblaaR5
import Derived.Deep.MidRow
namespace Go.Proofs.Ytcelbkkgjnfblaa
open Go.RowKit

theorem run_method_ptr {P : Program} {w : World} {n : Nat} {t : TypeId} {name : String} {i : TypeInfo} {m : Method} {s : FieldStep} {fs gs : Array Field} {g : Field} {f : FuncId} {b : Nat} {v : Value} {z : Nat}
    (hi : P.info? t = some i) (hm : i.methods.find? (·.name == name) = some m) (hp : m.path.toList = [s]) (hd : s.deref = true) (hf : m.func = some (f, false)) (hs : P.underlying s.struct = some (.struct fs)) (hg : fs[s.index]? = some g)
    (hz : (P.info? g.type).map (·.size) = some (z + 1)) (hu : P.underlying g.type = some (.struct gs)) (hl : (loadVar g.type ⟨b, 0 + g.offset, none⟩).run P w = .ok v w) :
    (method (n + 1) t (.pointer (some ⟨b, 0, none⟩)) name).run P w = .ok (f, v) w := by
  obtain ⟨j, hj, hz⟩ := Option.map_eq_some_iff.1 hz
  unfold method
  simp [typeInfo, hi, hm, hp, hf, follow, run_underlying hs, hg, hd, Place.get, asAddr, fieldPlace, sizeOf, hj, hz, receiverAt, run_underlying hu]
  rw [Addr.add_mid, hl]
  rfl

/-- a pointer's method, promoted through one field of what it points to -/
theorem run_meth_ptr {w : World} {t S : TypeId} {name : String} {idx G off : Nat} {gs : Array Field} {f : FuncId} {b z : Nat} {v : Value}
    (h1 : ((Try.prog.info? t).bind (fun i => i.methods.find? (·.name == name))).map (fun m => (m.path.toList.map (fun s => (s.struct, s.index, s.deref)), m.func)) = some ([(S, idx, true)], some (f, false)))
    (h2 : (Try.prog.underlying S).bind (fun d => match d with | .struct fs => (fs[idx]?).map (fun g => (g.type, g.offset)) | _ => none) = some (G, off))
    (hz : (Try.prog.info? G).map (·.size) = some (z + 1)) (hu : Try.prog.underlying G = some (.struct gs)) (hl : (loadVar G ⟨b, off, none⟩).run Try.prog w = .ok v w) :
    (method 379 t (.pointer (some ⟨b, 0, none⟩)) name).run Try.prog w = .ok (f, v) w := by
  obtain ⟨m, hm, e1⟩ := Option.map_eq_some_iff.1 h1
  obtain ⟨i, hi, hm⟩ := Option.bind_eq_some_iff.1 hm
  obtain ⟨d, hs, h2⟩ := Option.bind_eq_some_iff.1 h2
  cases d <;> simp only [reduceCtorEq] at h2
  rename_i fs
  obtain ⟨g, hg, e2⟩ := Option.map_eq_some_iff.1 h2
  simp only [Prod.mk.injEq] at e1 e2
  obtain ⟨e1, e3⟩ := e1
  obtain ⟨rfl, rfl⟩ := e2
  obtain ⟨s, hp, rfl, rfl, hd⟩ : ∃ s : FieldStep, m.path.toList = [s] ∧ s.struct = S ∧ s.index = idx ∧ s.deref = true := by
    cases hq : m.path.toList with
    | nil => rw [hq] at e1; cases e1
    | cons s l =>
      rw [hq] at e1
      cases l with
      | nil => simp at e1; exact ⟨s, rfl, e1.1, e1.2.1, e1.2.2⟩
      | cons x y => simp at e1
  exact run_method_ptr (n := 378) hi hm hp hd e3 hs hg hz hu (v := v) (b := b) (by rw [Nat.zero_add]; exact hl)

/-- the blocks above c are as they were -/
def Kp (c : Nat) (w W : World) : Prop := ∀ j, c < j → j < w.heap.size → W.heap[j]? = w.heap[j]?

/-- the object's methods of Owned come to what stands behind it -/
structure DxO (T : Nat) (v : Value) (c : Nat) (w : World) : Prop where
  own : ∀ W, Kp c w W → (method 379 T v "Owner").run Try.prog W = .ok (79, .agg #[.pointer (some ⟨c, 0, none⟩)]) W
  give : ∀ W, Kp c w W → (method 379 T v "Give").run Try.prog W = .ok (94, .agg #[.pointer (some ⟨c, 0, none⟩)]) W
/-- likewise of Lazy -/
structure DxL (T : Nat) (v : Value) (c : Nat) (w : World) : Prop where
  ed : ∀ W, Kp c w W → (method 379 T v "Loaded").run Try.prog W = .ok (80, .agg #[.pointer (some ⟨c, 0, none⟩)]) W
  load : ∀ W, Kp c w W → (method 379 T v "Load").run Try.prog W = .ok (95, .agg #[.pointer (some ⟨c, 0, none⟩)]) W
theorem DxO.keep {T : Nat} {v : Value} {c : Nat} {w w' : World} (h : DxO T v c w) (hk : Kp c w w') (hs : w.heap.size ≤ w'.heap.size) : DxO T v c w' :=
  ⟨fun W hW => h.own W fun j h1 h2 => (hW j h1 (by omega)).trans (hk j h1 h2), fun W hW => h.give W fun j h1 h2 => (hW j h1 (by omega)).trans (hk j h1 h2)⟩
theorem DxL.keep {T : Nat} {v : Value} {c : Nat} {w w' : World} (h : DxL T v c w) (hk : Kp c w w') (hs : w.heap.size ≤ w'.heap.size) : DxL T v c w' :=
  ⟨fun W hW => h.ed W fun j h1 h2 => (hW j h1 (by omega)).trans (hk j h1 h2), fun W hW => h.load W fun j h1 h2 => (hW j h1 (by omega)).trans (hk j h1 h2)⟩
def Dx (T : Nat) (v : Value) (n c : Nat) (w : World) : Prop := (n.testBit 2 = true → DxO T v c w) ∧ (n.testBit 3 = true → DxL T v c w)
theorem Dx.keep {T : Nat} {v : Value} {n c : Nat} {w w' : World} (h : Dx T v n c w) (hk : Kp c w w') (hs : w.heap.size ≤ w'.heap.size) : Dx T v n c w' := ⟨fun e => (h.1 e).keep hk hs, fun e => (h.2 e).keep hk hs⟩
end Go.Proofs.Ytcelbkkgjnfblaa

