/- strings.Builder: copyCheck and WriteString, of a builder of one's own. -/
import Derived.Test.YthnanblilofdpaaDoorPBase
import Derived.Lib.Builder
import Derived.Lib.AppendStr
namespace Go.Proofs.YthnanblilofdpaaDoor
open Go.RowKit

theorem Tryd.infoBl : (Tryd.prog.info? 43).map (·.size) = some 2 := by kernel_rfl
theorem Tryd.liesBl : liesAt Tryd.prog Tryd.prog.depth 43 (2 / Tryd.prog.cellsOf 43) 0 43 1 = true := by kernel_rfl
theorem Tryd.undPB : Tryd.prog.underlying 41 = some (.pointer 43) := by kernel_rfl
theorem Tryd.undUn : Tryd.prog.underlying 62 = some .unsafePointer := by kernel_rfl

theorem own_slice {w : World} {B : Nat} {e : TypeId} {size n : Nat} {v : Value} {xs : List Value} (h : w.ownsRow B e size v n xs) : ∃ a m c, v = .slice a m c := by
  rcases h.2 with ⟨e, _⟩ | ⟨g, c, cur, e, _⟩
  · exact ⟨_, _, _, e⟩
  · exact ⟨_, _, _, e⟩

set_option maxRecDepth 100000 in
set_option maxHeartbeats 2000000 in
theorem copyCheck_any (B b : Nat) (bs : List Value) (w : World) (h : Lib.IsBuilder 43 5 B b bs w) :
    Calls Tryd.prog 30 #[.pointer (some ⟨b, 0, none⟩)] w fun e w' => e = .returned (.tuple #[]) ∧ Lib.BuilderAt 43 5 B b (.pointer (some ⟨b, 0, none⟩)) bs w' ∧ Below B w w' := by
  obtain ⟨j, hj, hjs⟩ := Option.map_eq_some_iff.1 Tryd.infoBl
  have kn : ∀ W : World, (binOp .neq 41 (.pointer (some ⟨b, 0, none⟩)) (.pointer (some ⟨b, 0, none⟩))).run Tryd.prog W = .ok (.bool false) W := fun W => Lib.run_neq_ptr_same W ⟨b, 0, none⟩ Tryd.undPB hj
  rcases h with h | h
  · have HH : Hid (Lib.BuilderAt 43 5 B b (.pointer none) bs w) := h
    have c0 := h.cell0
    have f0 := h.frozen0
    have hsh := h.shape
    have hlt := h.lt
    have k1 : (convert 41 62 (.pointer (some ⟨b, 0, none⟩))).run Tryd.prog w = .ok (.pointer (some ⟨b, 0, none⟩)) w :=
      Lib.run_to_unsafe w ⟨b, 0, none⟩ Tryd.undPB Tryd.undUn hj (by rw [hjs]; decide) hsh (Nat.zero_lt_succ 1)
    have k3 : (convert 62 41 (.pointer (some ⟨b, 0, none⟩))).run Tryd.prog w = .ok (.pointer (some ⟨b, 0, none⟩)) w :=
      Lib.run_from_unsafe w ⟨b, 0, none⟩ Tryd.undUn Tryd.undPB hj hsh Tryd.liesBl
    have k2 : (callFunc 40 #[.pointer (some ⟨b, 0, none⟩)]).run Tryd.prog w = .ok (.value (.pointer (some ⟨b, 0, none⟩))) w := by
      rw [run_callFunc_extern Tryd.func40 (by kernel_rfl) (by kernel_rfl) (by kernel_rfl) (e := Extern.AbiNoEscape.same) (by kernel_rfl), Lib.run_noEscape]
      rfl
    have c0' : (w.setCell ⟨b, 0, none⟩ (.pointer (some ⟨b, 0, none⟩))).cell? ⟨b, 0, none⟩ = some (.pointer (some ⟨b, 0, none⟩)) := World.cell?_setCell_same w _ _ c0
    clear hsh h
    go_enter Tryd.func30, Tryd.ntmps30
    go_wp2_with fail
    go_end0
    exact ⟨rfl, HH.out.used _, (Below.refl B w).setCell (p := ⟨b, 0, none⟩) HH.out.1 _⟩
  · have c0 := h.cell0
    have HH : Hid (Lib.BuilderAt 43 5 B b (.pointer (some ⟨b, 0, none⟩)) bs w) := h
    clear h
    go_enter Tryd.func30, Tryd.ntmps30
    go_wp2_with fail
    go_end0
    exact ⟨rfl, HH.out, Below.refl _ _⟩

set_option maxRecDepth 100000 in
set_option maxHeartbeats 2000000 in
theorem WriteString_any (B b : Nat) (bs : List Value) (s : ByteArray) (w : World) (h : Lib.IsBuilder 43 5 B b bs w) (hlen : bs.length + s.size ≤ 140737488355328) (hBw : B ≤ w.heap.size) :
    Calls Tryd.prog 20 #[.pointer (some ⟨b, 0, none⟩), .string s] w fun e w' => e = .returned (.tuple #[.int .i64 s.size, .nilIface]) ∧ Lib.IsBuilder 43 5 B b (bs ++ Lib.strCells s) w' ∧ Below B w w' := by
  obtain ⟨i0, hi, hz0, hz1, hz2⟩ := info_parts Tryd.infoB
  have HC : Hid (Calls Tryd.prog 30 #[.pointer (some ⟨b, 0, none⟩)] w fun e w' => e = .returned (.tuple #[]) ∧ Lib.BuilderAt 43 5 B b (.pointer (some ⟨b, 0, none⟩)) bs w' ∧ Below B w w') := copyCheck_any B b bs w h
  clear h
  go_enter Tryd.func20, Tryd.ntmps20
  go_wp2_with fail
  refine HC.out.mono ?_
  rintro e w1 ⟨rfl, h1, hb1⟩
  have HB1 : Hid (Below B w w1) := hb1
  obtain ⟨hB, v, hbk, hown, hne⟩ := h1
  have hsz1 := hb1.size
  have c1 : w1.cell? ⟨b, 1, none⟩ = some v := by rw [Lib.cell_of_heap hbk]; rfl
  have f1 : w1.frozen? ⟨b, 1, none⟩ = false := Lib.frozen_of_heap hbk 1
  have hlt : b < w1.heap.size := World.block_lt_of_cell? _ _ c1
  have HK : Hid (B ≤ b ∧ w1.heap[b]? = some (.cells #[.pointer (some ⟨b, 0, none⟩), v] 43 (0, 0)) ∧ w1.ownsRow B 5 1 v bs.length bs ∧ v.ownBlock ≠ some b) := ⟨hB, hbk, hown, hne⟩
  clear hb1 hbk hown hne
  go_wp2_with (at_builtin; refine Lib.wpList_append_own_string _ rfl _ _ 35 9 rfl B 5 i0 Tryd.undB Tryd.undSd hi hz0 hz1 hz2 _ _ _ rfl HK.out.2.2.1 s rfl (by unfold maxLen; omega) hlen (by omega) ?_; intro v' w2 hown' hgrow hor; obtain ⟨x1, x2, x3, rfl⟩ := own_slice hown'; have hb2 : w2.heap[b]? = some (.cells #[.pointer (some ⟨b, 0, none⟩), v] 43 (0, 0)) := (hgrow.block b hlt (fun e => HK.out.2.2.2 e.symm)).trans HK.out.2.1; have d1 : w2.cell? ⟨b, 1, none⟩ = some v := (by rw [Lib.cell_of_heap hb2]; rfl); have e1 := Lib.frozen_of_heap hb2 1; have HK2 : Hid (w2.heap[b]? = some (.cells #[.pointer (some ⟨b, 0, none⟩), v] 43 (0, 0)) ∧ w2.ownsRow B 5 1 (.slice x1 x2 x3) (bs.length + s.size) (bs ++ Lib.strCells s) ∧ w1.grownBy w2 v.ownBlock) := ⟨hb2, hown', hgrow⟩; clear hb2 hown' hgrow hor)
  go_ret2
  refine ⟨rfl, .inr ?_, ?_⟩
  · refine Lib.BuilderAt.put HK.out.1 HK2.out.1 ?_ (by decide)
    rw [List.length_append, Lib.strCells_length]
    exact HK2.out.2.1
  · refine ((HB1.out.grown HK2.out.2.2 (by omega) (fun k hk => ?_)).setCell (p := ⟨b, 1, none⟩) HK.out.1 _)
    rcases HK.out.2.2.1.2 with ⟨e, _⟩ | ⟨g, c, cur, e, hg, _⟩
    · rw [e] at hk; simp [Value.ownBlock] at hk
    · rw [e] at hk; simp [Value.ownBlock] at hk; omega
end Go.Proofs.YthnanblilofdpaaDoor
