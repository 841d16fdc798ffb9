/- How a method of a made object is found by its type. -/
import Derived.Test.YtbjjeleoimcboaaQ6
import Derived.Deep.MidRow
namespace Go.Proofs.Ytbjjeleoimcboaa
open Go.RowKit

theorem run_method_ptr {P : Program} {w : World} {n : Nat} {t : TypeId} {name : String} {i : TypeInfo} {m : Method} {s : FieldStep} {fs gs : Array Field} {g : Field} {f : FuncId} {b : Nat} {v : Value} {z : Nat}
    (hi : P.info? t = some i) (hm : i.methods.find? (·.name == name) = some m) (hp : m.path.toList = [s]) (hd : s.deref = true) (hf : m.func = some (f, false)) (hs : P.underlying s.struct = some (.struct fs)) (hg : fs[s.index]? = some g)
    (hz : (P.info? g.type).map (·.size) = some (z + 1)) (hu : P.underlying g.type = some (.struct gs)) (hl : (loadVar g.type ⟨b, 0 + g.offset, none⟩).run P w = .ok v w) :
    (method (n + 1) t (.pointer (some ⟨b, 0, none⟩)) name).run P w = .ok (f, v) w := by
  obtain ⟨j, hj, hz⟩ := Option.map_eq_some_iff.1 hz
  unfold method
  simp [typeInfo, hi, hm, hp, hf, follow, run_underlying hs, hg, hd, Place.get, asAddr, fieldPlace, sizeOf, hj, hz, receiverAt, run_underlying hu]
  rw [Addr.add_mid, hl]
  rfl

/-- a pointer's method, promoted through one field of what it points to -/
theorem run_meth_ptr {w : World} {t S : TypeId} {name : String} {idx G off : Nat} {gs : Array Field} {f : FuncId} {b z : Nat} {v : Value}
    (h1 : ((Try.prog.info? t).bind (fun i => i.methods.find? (·.name == name))).map (fun m => (m.path.toList.map (fun s => (s.struct, s.index, s.deref)), m.func)) = some ([(S, idx, true)], some (f, false)))
    (h2 : (Try.prog.underlying S).bind (fun d => match d with | .struct fs => (fs[idx]?).map (fun g => (g.type, g.offset)) | _ => none) = some (G, off))
    (hz : (Try.prog.info? G).map (·.size) = some (z + 1)) (hu : Try.prog.underlying G = some (.struct gs)) (hl : (loadVar G ⟨b, off, none⟩).run Try.prog w = .ok v w) :
    (method 328 t (.pointer (some ⟨b, 0, none⟩)) name).run Try.prog w = .ok (f, v) w := by
  obtain ⟨m, hm, e1⟩ := Option.map_eq_some_iff.1 h1
  obtain ⟨i, hi, hm⟩ := Option.bind_eq_some_iff.1 hm
  obtain ⟨d, hs, h2⟩ := Option.bind_eq_some_iff.1 h2
  cases d <;> simp only [reduceCtorEq] at h2
  rename_i fs
  obtain ⟨g, hg, e2⟩ := Option.map_eq_some_iff.1 h2
  simp only [Prod.mk.injEq] at e1 e2
  obtain ⟨e1, e3⟩ := e1
  obtain ⟨rfl, rfl⟩ := e2
  obtain ⟨s, hp, rfl, rfl, hd⟩ : ∃ s : FieldStep, m.path.toList = [s] ∧ s.struct = S ∧ s.index = idx ∧ s.deref = true := by
    cases hq : m.path.toList with
    | nil => rw [hq] at e1; cases e1
    | cons s l =>
      rw [hq] at e1
      cases l with
      | nil => simp at e1; exact ⟨s, rfl, e1.1, e1.2.1, e1.2.2⟩
      | cons x y => simp at e1
  exact run_method_ptr (n := 327) hi hm hp hd e3 hs hg hz hu (v := v) (b := b) (by rw [Nat.zero_add]; exact hl)

/-- the blocks above c are as they were -/
def Kp (c : Nat) (w W : World) : Prop := ∀ j, c < j → j < w.heap.size → W.heap[j]? = w.heap[j]?

/-- the object's methods of Owned come to what stands behind it -/
structure DxO (T : Nat) (v : Value) (c : Nat) (w : World) : Prop where
  own : ∀ W, Kp c w W → (method 328 T v "Owner").run Try.prog W = .ok (104, .agg #[.pointer (some ⟨c, 0, none⟩)]) W
  give : ∀ W, Kp c w W → (method 328 T v "Give").run Try.prog W = .ok (103, .agg #[.pointer (some ⟨c, 0, none⟩)]) W
/-- likewise of Lazy -/
structure DxL (T : Nat) (v : Value) (c : Nat) (w : World) : Prop where
  ed : ∀ W, Kp c w W → (method 328 T v "Loaded").run Try.prog W = .ok (106, .agg #[.pointer (some ⟨c, 0, none⟩)]) W
  load : ∀ W, Kp c w W → (method 328 T v "Load").run Try.prog W = .ok (105, .agg #[.pointer (some ⟨c, 0, none⟩)]) W
theorem DxO.keep {T : Nat} {v : Value} {c : Nat} {w w' : World} (h : DxO T v c w) (hk : Kp c w w') (hs : w.heap.size ≤ w'.heap.size) : DxO T v c w' :=
  ⟨fun W hW => h.own W fun j h1 h2 => (hW j h1 (by omega)).trans (hk j h1 h2), fun W hW => h.give W fun j h1 h2 => (hW j h1 (by omega)).trans (hk j h1 h2)⟩
theorem DxL.keep {T : Nat} {v : Value} {c : Nat} {w w' : World} (h : DxL T v c w) (hk : Kp c w w') (hs : w.heap.size ≤ w'.heap.size) : DxL T v c w' :=
  ⟨fun W hW => h.ed W fun j h1 h2 => (hW j h1 (by omega)).trans (hk j h1 h2), fun W hW => h.load W fun j h1 h2 => (hW j h1 (by omega)).trans (hk j h1 h2)⟩
def Dx (T : Nat) (v : Value) (n c : Nat) (w : World) : Prop := (n.testBit 2 = true → DxO T v c w) ∧ (n.testBit 3 = true → DxL T v c w)
theorem Dx.keep {T : Nat} {v : Value} {n c : Nat} {w w' : World} (h : Dx T v n c w) (hk : Kp c w w') (hs : w.heap.size ≤ w'.heap.size) : Dx T v n c w' := ⟨fun e => (h.1 e).keep hk hs, fun e => (h.2 e).keep hk hs⟩
end Go.Proofs.Ytbjjeleoimcboaa

/- tenonmake.value, and how the methods of the object are found. -/
namespace Go.Proofs.Ytbjjeleoimcboaa
open Go.RowKit

set_option maxRecDepth 100000 in
set_option maxHeartbeats 2000000 in
theorem mx_value_0 (c : Nat) (w : World) (hc : w.cell? ⟨c, 1, none⟩ = some (.int .i64 0)) :
    Calls Try.prog 38 #[.pointer (some ⟨c, 0, none⟩)] w fun e w' => e = .returned (.iface 138 (.agg #[.pointer (some ⟨c, 0, none⟩)])) ∧ w = w' := by
  go_enter Try.func38, Try.ntmps38
  go_wp2_with fail
  go_ret
  exact ⟨rfl, rfl⟩

set_option maxRecDepth 100000 in
set_option maxHeartbeats 2000000 in
theorem mx_value_1 (c : Nat) (w : World) (hc : w.cell? ⟨c, 1, none⟩ = some (.int .i64 1)) :
    Calls Try.prog 38 #[.pointer (some ⟨c, 0, none⟩)] w fun e w' => e = .returned (.iface 140 (.agg #[.pointer (some ⟨c, 0, none⟩), .pointer (some ⟨c, 0, none⟩)])) ∧ w = w' := by
  go_enter Try.func38, Try.ntmps38
  go_wp2_with fail
  go_ret
  exact ⟨rfl, rfl⟩

set_option maxRecDepth 100000 in
set_option maxHeartbeats 2000000 in
theorem mx_value_2 (c : Nat) (w : World) (hc : w.cell? ⟨c, 1, none⟩ = some (.int .i64 2)) :
    Calls Try.prog 38 #[.pointer (some ⟨c, 0, none⟩)] w fun e w' => e = .returned (.iface 142 (.agg #[.pointer (some ⟨c, 0, none⟩), .pointer (some ⟨c, 0, none⟩)])) ∧ w = w' := by
  go_enter Try.func38, Try.ntmps38
  go_wp2_with fail
  go_ret
  exact ⟨rfl, rfl⟩

set_option maxRecDepth 100000 in
set_option maxHeartbeats 2000000 in
theorem mx_value_3 (c : Nat) (w : World) (hc : w.cell? ⟨c, 1, none⟩ = some (.int .i64 3)) :
    Calls Try.prog 38 #[.pointer (some ⟨c, 0, none⟩)] w fun e w' => e = .returned (.iface 144 (.agg #[.pointer (some ⟨c, 0, none⟩), .pointer (some ⟨c, 0, none⟩), .pointer (some ⟨c, 0, none⟩)])) ∧ w = w' := by
  go_enter Try.func38, Try.ntmps38
  go_wp2_with fail
  go_ret
  exact ⟨rfl, rfl⟩

theorem DxO_s4 (c : Nat) (w : World) : DxO 146 (.agg #[.pointer (some ⟨c, 0, none⟩), .pointer (some ⟨c, 0, none⟩)]) c w :=
  ⟨fun W _ => by kernel_rfl, fun W _ => by kernel_rfl⟩
set_option maxRecDepth 100000 in
set_option maxHeartbeats 2000000 in
theorem mx_value_4 (c : Nat) (w : World) (hc : w.cell? ⟨c, 1, none⟩ = some (.int .i64 4)) :
    Calls Try.prog 38 #[.pointer (some ⟨c, 0, none⟩)] w fun e w' => e = .returned (.iface 146 (.agg #[.pointer (some ⟨c, 0, none⟩), .pointer (some ⟨c, 0, none⟩)])) ∧ w = w' := by
  go_enter Try.func38, Try.ntmps38
  go_wp2_with fail
  go_ret
  exact ⟨rfl, rfl⟩

theorem DxO_s5 (c : Nat) (w : World) : DxO 148 (.agg #[.pointer (some ⟨c, 0, none⟩), .pointer (some ⟨c, 0, none⟩), .pointer (some ⟨c, 0, none⟩)]) c w :=
  ⟨fun W _ => by kernel_rfl, fun W _ => by kernel_rfl⟩
set_option maxRecDepth 100000 in
set_option maxHeartbeats 2000000 in
theorem mx_value_5 (c : Nat) (w : World) (hc : w.cell? ⟨c, 1, none⟩ = some (.int .i64 5)) :
    Calls Try.prog 38 #[.pointer (some ⟨c, 0, none⟩)] w fun e w' => e = .returned (.iface 148 (.agg #[.pointer (some ⟨c, 0, none⟩), .pointer (some ⟨c, 0, none⟩), .pointer (some ⟨c, 0, none⟩)])) ∧ w = w' := by
  go_enter Try.func38, Try.ntmps38
  go_wp2_with fail
  go_ret
  exact ⟨rfl, rfl⟩

theorem DxO_s6 (c : Nat) (w : World) : DxO 150 (.agg #[.pointer (some ⟨c, 0, none⟩), .pointer (some ⟨c, 0, none⟩), .pointer (some ⟨c, 0, none⟩)]) c w :=
  ⟨fun W _ => by kernel_rfl, fun W _ => by kernel_rfl⟩
set_option maxRecDepth 100000 in
set_option maxHeartbeats 2000000 in
theorem mx_value_6 (c : Nat) (w : World) (hc : w.cell? ⟨c, 1, none⟩ = some (.int .i64 6)) :
    Calls Try.prog 38 #[.pointer (some ⟨c, 0, none⟩)] w fun e w' => e = .returned (.iface 150 (.agg #[.pointer (some ⟨c, 0, none⟩), .pointer (some ⟨c, 0, none⟩), .pointer (some ⟨c, 0, none⟩)])) ∧ w = w' := by
  go_enter Try.func38, Try.ntmps38
  go_wp2_with fail
  go_ret
  exact ⟨rfl, rfl⟩

theorem DxO_s7 (c : Nat) (w : World) : DxO 152 (.agg #[.pointer (some ⟨c, 0, none⟩), .pointer (some ⟨c, 0, none⟩), .pointer (some ⟨c, 0, none⟩), .pointer (some ⟨c, 0, none⟩)]) c w :=
  ⟨fun W _ => by kernel_rfl, fun W _ => by kernel_rfl⟩
set_option maxRecDepth 100000 in
set_option maxHeartbeats 2000000 in
theorem mx_value_7 (c : Nat) (w : World) (hc : w.cell? ⟨c, 1, none⟩ = some (.int .i64 7)) :
    Calls Try.prog 38 #[.pointer (some ⟨c, 0, none⟩)] w fun e w' => e = .returned (.iface 152 (.agg #[.pointer (some ⟨c, 0, none⟩), .pointer (some ⟨c, 0, none⟩), .pointer (some ⟨c, 0, none⟩), .pointer (some ⟨c, 0, none⟩)])) ∧ w = w' := by
  go_enter Try.func38, Try.ntmps38
  go_wp2_with fail
  go_ret
  exact ⟨rfl, rfl⟩

theorem DxL_s8 (c : Nat) (w : World) : DxL 154 (.agg #[.pointer (some ⟨c, 0, none⟩), .pointer (some ⟨c, 0, none⟩)]) c w :=
  ⟨fun W _ => by kernel_rfl, fun W _ => by kernel_rfl⟩
set_option maxRecDepth 100000 in
set_option maxHeartbeats 2000000 in
theorem mx_value_8 (c : Nat) (w : World) (hc : w.cell? ⟨c, 1, none⟩ = some (.int .i64 8)) :
    Calls Try.prog 38 #[.pointer (some ⟨c, 0, none⟩)] w fun e w' => e = .returned (.iface 154 (.agg #[.pointer (some ⟨c, 0, none⟩), .pointer (some ⟨c, 0, none⟩)])) ∧ w = w' := by
  go_enter Try.func38, Try.ntmps38
  go_wp2_with fail
  go_ret
  exact ⟨rfl, rfl⟩

theorem DxL_s9 (c : Nat) (w : World) : DxL 156 (.agg #[.pointer (some ⟨c, 0, none⟩), .pointer (some ⟨c, 0, none⟩), .pointer (some ⟨c, 0, none⟩)]) c w :=
  ⟨fun W _ => by kernel_rfl, fun W _ => by kernel_rfl⟩
set_option maxRecDepth 100000 in
set_option maxHeartbeats 2000000 in
theorem mx_value_9 (c : Nat) (w : World) (hc : w.cell? ⟨c, 1, none⟩ = some (.int .i64 9)) :
    Calls Try.prog 38 #[.pointer (some ⟨c, 0, none⟩)] w fun e w' => e = .returned (.iface 156 (.agg #[.pointer (some ⟨c, 0, none⟩), .pointer (some ⟨c, 0, none⟩), .pointer (some ⟨c, 0, none⟩)])) ∧ w = w' := by
  go_enter Try.func38, Try.ntmps38
  go_wp2_with fail
  go_ret
  exact ⟨rfl, rfl⟩

theorem DxL_s10 (c : Nat) (w : World) : DxL 158 (.agg #[.pointer (some ⟨c, 0, none⟩), .pointer (some ⟨c, 0, none⟩), .pointer (some ⟨c, 0, none⟩)]) c w :=
  ⟨fun W _ => by kernel_rfl, fun W _ => by kernel_rfl⟩
set_option maxRecDepth 100000 in
set_option maxHeartbeats 2000000 in
theorem mx_value_10 (c : Nat) (w : World) (hc : w.cell? ⟨c, 1, none⟩ = some (.int .i64 10)) :
    Calls Try.prog 38 #[.pointer (some ⟨c, 0, none⟩)] w fun e w' => e = .returned (.iface 158 (.agg #[.pointer (some ⟨c, 0, none⟩), .pointer (some ⟨c, 0, none⟩), .pointer (some ⟨c, 0, none⟩)])) ∧ w = w' := by
  go_enter Try.func38, Try.ntmps38
  go_wp2_with fail
  go_ret
  exact ⟨rfl, rfl⟩

theorem DxL_s11 (c : Nat) (w : World) : DxL 160 (.agg #[.pointer (some ⟨c, 0, none⟩), .pointer (some ⟨c, 0, none⟩), .pointer (some ⟨c, 0, none⟩), .pointer (some ⟨c, 0, none⟩)]) c w :=
  ⟨fun W _ => by kernel_rfl, fun W _ => by kernel_rfl⟩
set_option maxRecDepth 100000 in
set_option maxHeartbeats 2000000 in
theorem mx_value_11 (c : Nat) (w : World) (hc : w.cell? ⟨c, 1, none⟩ = some (.int .i64 11)) :
    Calls Try.prog 38 #[.pointer (some ⟨c, 0, none⟩)] w fun e w' => e = .returned (.iface 160 (.agg #[.pointer (some ⟨c, 0, none⟩), .pointer (some ⟨c, 0, none⟩), .pointer (some ⟨c, 0, none⟩), .pointer (some ⟨c, 0, none⟩)])) ∧ w = w' := by
  go_enter Try.func38, Try.ntmps38
  go_wp2_with fail
  go_ret
  exact ⟨rfl, rfl⟩

theorem DxO_s12 (c : Nat) (w : World) : DxO 162 (.agg #[.pointer (some ⟨c, 0, none⟩), .pointer (some ⟨c, 0, none⟩), .pointer (some ⟨c, 0, none⟩)]) c w :=
  ⟨fun W _ => by kernel_rfl, fun W _ => by kernel_rfl⟩
theorem DxL_s12 (c : Nat) (w : World) : DxL 162 (.agg #[.pointer (some ⟨c, 0, none⟩), .pointer (some ⟨c, 0, none⟩), .pointer (some ⟨c, 0, none⟩)]) c w :=
  ⟨fun W _ => by kernel_rfl, fun W _ => by kernel_rfl⟩
set_option maxRecDepth 100000 in
set_option maxHeartbeats 2000000 in
theorem mx_value_12 (c : Nat) (w : World) (hc : w.cell? ⟨c, 1, none⟩ = some (.int .i64 12)) :
    Calls Try.prog 38 #[.pointer (some ⟨c, 0, none⟩)] w fun e w' => e = .returned (.iface 162 (.agg #[.pointer (some ⟨c, 0, none⟩), .pointer (some ⟨c, 0, none⟩), .pointer (some ⟨c, 0, none⟩)])) ∧ w = w' := by
  go_enter Try.func38, Try.ntmps38
  go_wp2_with fail
  go_ret
  exact ⟨rfl, rfl⟩

theorem DxO_s13 (c : Nat) (w : World) : DxO 164 (.agg #[.pointer (some ⟨c, 0, none⟩), .pointer (some ⟨c, 0, none⟩), .pointer (some ⟨c, 0, none⟩), .pointer (some ⟨c, 0, none⟩)]) c w :=
  ⟨fun W _ => by kernel_rfl, fun W _ => by kernel_rfl⟩
theorem DxL_s13 (c : Nat) (w : World) : DxL 164 (.agg #[.pointer (some ⟨c, 0, none⟩), .pointer (some ⟨c, 0, none⟩), .pointer (some ⟨c, 0, none⟩), .pointer (some ⟨c, 0, none⟩)]) c w :=
  ⟨fun W _ => by kernel_rfl, fun W _ => by kernel_rfl⟩
set_option maxRecDepth 100000 in
set_option maxHeartbeats 2000000 in
theorem mx_value_13 (c : Nat) (w : World) (hc : w.cell? ⟨c, 1, none⟩ = some (.int .i64 13)) :
    Calls Try.prog 38 #[.pointer (some ⟨c, 0, none⟩)] w fun e w' => e = .returned (.iface 164 (.agg #[.pointer (some ⟨c, 0, none⟩), .pointer (some ⟨c, 0, none⟩), .pointer (some ⟨c, 0, none⟩), .pointer (some ⟨c, 0, none⟩)])) ∧ w = w' := by
  go_enter Try.func38, Try.ntmps38
  go_wp2_with fail
  go_ret
  exact ⟨rfl, rfl⟩

theorem DxO_s14 (c : Nat) (w : World) : DxO 166 (.agg #[.pointer (some ⟨c, 0, none⟩), .pointer (some ⟨c, 0, none⟩), .pointer (some ⟨c, 0, none⟩), .pointer (some ⟨c, 0, none⟩)]) c w :=
  ⟨fun W _ => by kernel_rfl, fun W _ => by kernel_rfl⟩
theorem DxL_s14 (c : Nat) (w : World) : DxL 166 (.agg #[.pointer (some ⟨c, 0, none⟩), .pointer (some ⟨c, 0, none⟩), .pointer (some ⟨c, 0, none⟩), .pointer (some ⟨c, 0, none⟩)]) c w :=
  ⟨fun W _ => by kernel_rfl, fun W _ => by kernel_rfl⟩
set_option maxRecDepth 100000 in
set_option maxHeartbeats 2000000 in
theorem mx_value_14 (c : Nat) (w : World) (hc : w.cell? ⟨c, 1, none⟩ = some (.int .i64 14)) :
    Calls Try.prog 38 #[.pointer (some ⟨c, 0, none⟩)] w fun e w' => e = .returned (.iface 166 (.agg #[.pointer (some ⟨c, 0, none⟩), .pointer (some ⟨c, 0, none⟩), .pointer (some ⟨c, 0, none⟩), .pointer (some ⟨c, 0, none⟩)])) ∧ w = w' := by
  go_enter Try.func38, Try.ntmps38
  go_wp2_with fail
  go_ret
  exact ⟨rfl, rfl⟩

theorem DxO_s15 (c : Nat) (w : World) : DxO 109 (.agg #[.pointer (some ⟨c, 0, none⟩), .pointer (some ⟨c, 0, none⟩), .pointer (some ⟨c, 0, none⟩), .pointer (some ⟨c, 0, none⟩), .pointer (some ⟨c, 0, none⟩)]) c w :=
  ⟨fun W _ => by kernel_rfl, fun W _ => by kernel_rfl⟩
theorem DxL_s15 (c : Nat) (w : World) : DxL 109 (.agg #[.pointer (some ⟨c, 0, none⟩), .pointer (some ⟨c, 0, none⟩), .pointer (some ⟨c, 0, none⟩), .pointer (some ⟨c, 0, none⟩), .pointer (some ⟨c, 0, none⟩)]) c w :=
  ⟨fun W _ => by kernel_rfl, fun W _ => by kernel_rfl⟩
set_option maxRecDepth 100000 in
set_option maxHeartbeats 2000000 in
theorem mx_value_15 (c : Nat) (w : World) (hc : w.cell? ⟨c, 1, none⟩ = some (.int .i64 15)) :
    Calls Try.prog 38 #[.pointer (some ⟨c, 0, none⟩)] w fun e w' => e = .returned (.iface 109 (.agg #[.pointer (some ⟨c, 0, none⟩), .pointer (some ⟨c, 0, none⟩), .pointer (some ⟨c, 0, none⟩), .pointer (some ⟨c, 0, none⟩), .pointer (some ⟨c, 0, none⟩)])) ∧ w = w' := by
  go_enter Try.func38, Try.ntmps38
  go_wp2_with fail
  go_ret
  exact ⟨rfl, rfl⟩

theorem DxO_u15 (c : Nat) (a : Value) (w : World) : DxO 113 (.agg #[.pointer (some ⟨c, 0, none⟩), .pointer (some ⟨c, 0, none⟩), .pointer (some ⟨c, 0, none⟩), .pointer (some ⟨c, 0, none⟩), .pointer (some ⟨c, 0, none⟩), a]) c w :=
  ⟨fun W _ => by kernel_rfl, fun W _ => by kernel_rfl⟩
theorem DxL_u15 (c : Nat) (a : Value) (w : World) : DxL 113 (.agg #[.pointer (some ⟨c, 0, none⟩), .pointer (some ⟨c, 0, none⟩), .pointer (some ⟨c, 0, none⟩), .pointer (some ⟨c, 0, none⟩), .pointer (some ⟨c, 0, none⟩), a]) c w :=
  ⟨fun W _ => by kernel_rfl, fun W _ => by kernel_rfl⟩
theorem mx_value_any (n : Nat) (hn : n < 16) (c : Nat) (w : World) (hc : w.cell? ⟨c, 1, none⟩ = some (.int .i64 (n : Int))) :
    Calls Try.prog 38 #[.pointer (some ⟨c, 0, none⟩)] w fun e w' => ∃ T v, e = .returned (.iface T v) ∧ Ab T n ∧ T ≠ 55 ∧ Dx T v n c w' ∧ w = w' := by
  have hcase : n = 0 ∨ n = 1 ∨ n = 2 ∨ n = 3 ∨ n = 4 ∨ n = 5 ∨ n = 6 ∨ n = 7 ∨ n = 8 ∨ n = 9 ∨ n = 10 ∨ n = 11 ∨ n = 12 ∨ n = 13 ∨ n = 14 ∨ n = 15 := by omega
  rcases hcase with rfl | rfl | rfl | rfl | rfl | rfl | rfl | rfl | rfl | rfl | rfl | rfl | rfl | rfl | rfl | rfl
  · refine (mx_value_0 c w hc).mono ?_
    rintro e w' ⟨rfl, rfl⟩
    exact ⟨_, _, rfl, Ab_s0, by decide, ⟨fun h => absurd h (by decide), fun h => absurd h (by decide)⟩, rfl⟩
  · refine (mx_value_1 c w hc).mono ?_
    rintro e w' ⟨rfl, rfl⟩
    exact ⟨_, _, rfl, Ab_s1, by decide, ⟨fun h => absurd h (by decide), fun h => absurd h (by decide)⟩, rfl⟩
  · refine (mx_value_2 c w hc).mono ?_
    rintro e w' ⟨rfl, rfl⟩
    exact ⟨_, _, rfl, Ab_s2, by decide, ⟨fun h => absurd h (by decide), fun h => absurd h (by decide)⟩, rfl⟩
  · refine (mx_value_3 c w hc).mono ?_
    rintro e w' ⟨rfl, rfl⟩
    exact ⟨_, _, rfl, Ab_s3, by decide, ⟨fun h => absurd h (by decide), fun h => absurd h (by decide)⟩, rfl⟩
  · refine (mx_value_4 c w hc).mono ?_
    rintro e w' ⟨rfl, rfl⟩
    exact ⟨_, _, rfl, Ab_s4, by decide, ⟨fun _ => DxO_s4 c _, fun h => absurd h (by decide)⟩, rfl⟩
  · refine (mx_value_5 c w hc).mono ?_
    rintro e w' ⟨rfl, rfl⟩
    exact ⟨_, _, rfl, Ab_s5, by decide, ⟨fun _ => DxO_s5 c _, fun h => absurd h (by decide)⟩, rfl⟩
  · refine (mx_value_6 c w hc).mono ?_
    rintro e w' ⟨rfl, rfl⟩
    exact ⟨_, _, rfl, Ab_s6, by decide, ⟨fun _ => DxO_s6 c _, fun h => absurd h (by decide)⟩, rfl⟩
  · refine (mx_value_7 c w hc).mono ?_
    rintro e w' ⟨rfl, rfl⟩
    exact ⟨_, _, rfl, Ab_s7, by decide, ⟨fun _ => DxO_s7 c _, fun h => absurd h (by decide)⟩, rfl⟩
  · refine (mx_value_8 c w hc).mono ?_
    rintro e w' ⟨rfl, rfl⟩
    exact ⟨_, _, rfl, Ab_s8, by decide, ⟨fun h => absurd h (by decide), fun _ => DxL_s8 c _⟩, rfl⟩
  · refine (mx_value_9 c w hc).mono ?_
    rintro e w' ⟨rfl, rfl⟩
    exact ⟨_, _, rfl, Ab_s9, by decide, ⟨fun h => absurd h (by decide), fun _ => DxL_s9 c _⟩, rfl⟩
  · refine (mx_value_10 c w hc).mono ?_
    rintro e w' ⟨rfl, rfl⟩
    exact ⟨_, _, rfl, Ab_s10, by decide, ⟨fun h => absurd h (by decide), fun _ => DxL_s10 c _⟩, rfl⟩
  · refine (mx_value_11 c w hc).mono ?_
    rintro e w' ⟨rfl, rfl⟩
    exact ⟨_, _, rfl, Ab_s11, by decide, ⟨fun h => absurd h (by decide), fun _ => DxL_s11 c _⟩, rfl⟩
  · refine (mx_value_12 c w hc).mono ?_
    rintro e w' ⟨rfl, rfl⟩
    exact ⟨_, _, rfl, Ab_s12, by decide, ⟨fun _ => DxO_s12 c _, fun _ => DxL_s12 c _⟩, rfl⟩
  · refine (mx_value_13 c w hc).mono ?_
    rintro e w' ⟨rfl, rfl⟩
    exact ⟨_, _, rfl, Ab_s13, by decide, ⟨fun _ => DxO_s13 c _, fun _ => DxL_s13 c _⟩, rfl⟩
  · refine (mx_value_14 c w hc).mono ?_
    rintro e w' ⟨rfl, rfl⟩
    exact ⟨_, _, rfl, Ab_s14, by decide, ⟨fun _ => DxO_s14 c _, fun _ => DxL_s14 c _⟩, rfl⟩
  · refine (mx_value_15 c w hc).mono ?_
    rintro e w' ⟨rfl, rfl⟩
    exact ⟨_, _, rfl, Ab_s15, by decide, ⟨fun _ => DxO_s15 c _, fun _ => DxL_s15 c _⟩, rfl⟩
end Go.Proofs.Ytbjjeleoimcboaa

