/- The statement's own: wiped. -/
import Derived.Test.YthnanblilofdpaaDoorPLeft
namespace Go.Proofs.YthnanblilofdpaaDoor
open Go.RowKit

def Stp.grown : Stp := ⟨⟨#[103, 114, 111, 119, 110]⟩, false, 0⟩
/-- block g is a row of so many cells that can be written -/
def RowOf (W : World) (g : Nat) (T : TypeId) (N : Nat) : Prop := ∃ cur, W.heap[g]? = some (.cells cur T (0, 0)) ∧ cur.size = N
theorem RowOf.set {W : World} {g : Nat} {T : TypeId} {N : Nat} (h : RowOf W g T N) (j : Nat) (x : Value) : RowOf (W.setCell ⟨g, j, none⟩ x) g T N := by
  obtain ⟨cur, h1, h2⟩ := h
  refine ⟨cur.setIfInBounds j x, ?_, by simpa using h2⟩
  simp [World.setCell, Array.getElem?_modify, h1]
theorem RowOf.cell {W : World} {g : Nat} {T : TypeId} {N : Nat} (h : RowOf W g T N) {j : Nat} (hj : j < N) : (∃ v, W.cell? ⟨g, j, none⟩ = some v) ∧ W.frozen? ⟨g, j, none⟩ = false := by
  obtain ⟨cur, h1, h2⟩ := h
  refine ⟨⟨cur[j]'(by omega), ?_⟩, by simp [World.frozen?, h1]⟩
  simp [World.cell?, h1]
theorem RowOf.own {W : World} {g B n cap : Nat} (h : RowOf W g 32 (cap * 3)) (hB : B ≤ g) (hn : n ≤ cap) (hc : cap ≤ maxLen) : ∃ xs, W.ownsRow B 32 3 (.slice (some ⟨g, 0, none⟩) n cap) n xs := by
  obtain ⟨cur, h1, h2⟩ := h
  refine ⟨cur.toList.take (n * 3), ?_, .inr ⟨g, cap, cur, rfl, hB, h1, hn, hc, h2, rfl⟩⟩
  rw [List.length_take, Array.length_toList, h2]
  omega
theorem RowOf.on {W W' : World} {g : Nat} {T : TypeId} {N : Nat} (h : RowOf W g T N) (hw : Below W.heap.size W W') : RowOf W' g T N := by
  obtain ⟨cur, h1, h2⟩ := h
  have hlt : g < W.heap.size := by
    rcases Nat.lt_or_ge g W.heap.size with h' | h'
    · exact h'
    · simp [Array.getElem?_eq_none h'] at h1
  exact ⟨cur, by rw [hw.block g hlt]; exact h1, h2⟩

set_option maxRecDepth 100000 in
set_option maxHeartbeats 4000000 in
theorem wiped_none (m : List Stp) (a2 : Option Addr) (cap2 B : Nat) (w : World) (hB : B ≤ w.heap.size) (h2 : Rdw w w.heap.size a2 m) (hm : m.length ≤ 64) :
    Calls Tryd.prog 10 #[.slice none 0 0, .slice a2 m.length cap2] w fun e w' => e = .returned (.bool (decide (([] : List Stp) = m))) ∧ Below B w w' := by
  obtain ⟨i0, hi, hz0, hz1, hz2⟩ := info_parts Tryd.infoW
  have HS : Hid (Calls Tryd.prog 15 #[.slice none 0 0, .slice a2 m.length cap2] w fun e w' => e = .returned (.bool (decide (([] : List Stp) = m))) ∧ Below w.heap.size w w') :=
    SameW_any [] m none a2 0 cap2 w.heap.size w (Nat.le_refl _) (fun j x hx => by simp at hx) h2 (by simp [maxLen]) (by unfold maxLen; omega)
  generalize decide (([] : List Stp) = m) = r at HS ⊢
  clear h2
  go_enter Tryd.func10, Tryd.ntmps10
  go_wp2_with fail
  refine HS.out.mono ?_
  rintro e w1 ⟨rfl, hb1⟩
  have HB1 : Hid (Below B w w1) := hb1.mono hB
  have HZ : Hid (B ≤ w1.heap.size) := Nat.le_trans hB hb1.size
  clear hb1
  go_wp2_with fail
  go_loopw [6] (fun i wr => i = .int .i64 0 ∧ Hid (wr = w1)) (fun _ _ => 0)
  case atStart => exact ⟨rfl, rfl⟩
  case round =>
    obtain ⟨rfl, HW⟩ := hrel
    have HW' := HW.out
    subst HW'
    have HO : Hid ((wr.alloc (.cells #[.string ⟨#[103, 114, 111, 119, 110]⟩, .bool false, .int .i64 0] 32)).ownsRow B 32 3 (.slice none 0 0) 0 [] ∧ Below B w (wr.alloc (.cells #[.string ⟨#[103, 114, 111, 119, 110]⟩, .bool false, .int .i64 0] 32))) := ⟨⟨rfl, .inl ⟨rfl, rfl⟩⟩, HB1.out.alloc HZ.out _⟩
    go_wp2_with (at_builtin; refine wpList_app _ rfl _ _ 22 rfl B 32 i0 (.agg #[.string ByteArray.empty, .bool false, .int .i64 0]) 3 32 Tryd.undW hi hz0 hz1 hz2 rfl (by decide) _ 0 [] rfl HO.out.1 ⟨wr.heap.size, 0, none⟩ 1 1 Stp.grown.cells rfl rfl (news_at _ Stp.grown _ rfl) (cells_one _) (by decide) (by unfold maxLen; omega) (by omega) (by have := HZ.out; simp; omega) ?_; intro g2 cap2 w4 hown2 hgrow2 hor2)
    go_ret
    exact ⟨rfl, HO.out.2.grown hgrow2 (by have := HZ.out; simp; omega) (fun q hq => own_ge HO.out.1 hq)⟩

set_option maxRecDepth 100000 in
set_option maxHeartbeats 4000000 in
theorem wiped_some (l m : List Stp) (g cap : Nat) (a2 : Option Addr) (cap2 B : Nat) (w : World) (hB : B ≤ w.heap.size) (h : w.ownsRow B 32 3 (.slice (some ⟨g, 0, none⟩) l.length cap) l.length (Sp.wcells l)) (hn : ∀ x ∈ l, x.name.size ≤ maxLen) (hl : l.length ≤ 64) (h2 : Rdw w w.heap.size a2 m) (hm : m.length ≤ 64) :
    Calls Tryd.prog 10 #[.slice (some ⟨g, 0, none⟩) l.length cap, .slice a2 m.length cap2] w fun e w' => e = .returned (.bool (decide (l = m))) ∧ Below B w w' := by
  obtain ⟨i0, hi, hz0, hz1, hz2⟩ := info_parts Tryd.infoW
  have HS : Hid (Calls Tryd.prog 15 #[.slice (some ⟨g, 0, none⟩) l.length cap, .slice a2 m.length cap2] w fun e w' => e = .returned (.bool (decide (l = m))) ∧ Below w.heap.size w w') :=
    SameW_any l m (some ⟨g, 0, none⟩) a2 cap cap2 w.heap.size w (Nat.le_refl _) (Rdw.of_own h hn) h2 (by unfold maxLen; omega) (by unfold maxLen; omega)
  have HG : Hid (B ≤ g ∧ RowOf w g 32 (cap * 3) ∧ l.length ≤ cap ∧ cap ≤ maxLen) := by
    rcases h.2 with ⟨e, _⟩ | ⟨g', c', cur, e, hg, hc, hnc, hcm, hcs, _⟩
    · cases e
    · injection e with e1 e2 e3
      injection e1 with e1
      injection e1 with e1
      subst e1 e3
      exact ⟨hg, ⟨cur, hc, hcs⟩, hnc, hcm⟩
  generalize decide (l = m) = r at HS ⊢
  clear h2 h hn
  generalize l.length = n at *
  go_enter Tryd.func10, Tryd.ntmps10
  go_wp2_with fail
  refine HS.out.mono ?_
  rintro e w1 ⟨rfl, hb1⟩
  have HB1 : Hid (Below B w w1) := hb1.mono hB
  have HR1 : Hid (RowOf w1 g 32 (cap * 3)) := HG.out.2.1.on hb1
  clear hb1
  go_wp2_with fail
  go_loopw [6] (fun i wr => ∃ k : Nat, k ≤ n ∧ i = .int .i64 (k : Int) ∧ Hid (RowOf wr g 32 (cap * 3)) ∧ Hid (Below B w wr)) (fun i _ => n - (intOf i).toNat)
  case atStart => exact ⟨0, by omega, rfl, HR1, HB1⟩
  case round =>
    obtain ⟨k, hk, rfl, HR, HB⟩ := hrel
    by_cases hlt : k < n
    · have hcap : k * 3 + 2 < cap * 3 := by have := HG.out.2.2.1; omega
      obtain ⟨⟨v0, z0⟩, y0⟩ := HR.out.cell (j := k * 3) (by omega)
      obtain ⟨⟨v1, z1⟩, y1⟩ := HR.out.cell (j := k * 3 + 1) (by omega)
      obtain ⟨⟨v2, z2⟩, y2⟩ := HR.out.cell (j := k * 3 + 2) (by omega)
      go_wp2_with fail
      go_roundw
      case rel => exact ⟨k + 1, by omega, by go_num, ((HR.out.set _ _).set _ _).set _ _, ((HB.out.setCell (p := ⟨g, k * 3, none⟩) HG.out.1 _).setCell (p := ⟨g, k * 3 + 1, none⟩) HG.out.1 _).setCell (p := ⟨g, k * 3 + 2, none⟩) HG.out.1 _⟩
      case measure => simp [intOf]; omega
    · have HZ : Hid (B ≤ wr.heap.size) := Nat.le_trans hB HB.out.size
      obtain ⟨xs, hown⟩ := HR.out.own HG.out.1 HG.out.2.2.1 HG.out.2.2.2
      have HO : Hid ((wr.alloc (.cells #[.string ⟨#[103, 114, 111, 119, 110]⟩, .bool false, .int .i64 0] 32)).ownsRow B 32 3 (.slice (some ⟨g, 0, none⟩) n cap) n xs ∧ Below B w (wr.alloc (.cells #[.string ⟨#[103, 114, 111, 119, 110]⟩, .bool false, .int .i64 0] 32))) := ⟨hown.alloc _, HB.out.alloc HZ.out _⟩
      clear hown
      go_wp2_with (at_builtin; refine wpList_app _ rfl _ _ 22 rfl B 32 i0 (.agg #[.string ByteArray.empty, .bool false, .int .i64 0]) 3 32 Tryd.undW hi hz0 hz1 hz2 rfl (by decide) _ n xs rfl HO.out.1 ⟨wr.heap.size, 0, none⟩ 1 1 Stp.grown.cells rfl rfl (news_at _ Stp.grown _ rfl) (cells_one _) (by decide) (by unfold maxLen; omega) (by omega) (by have := HZ.out; simp; omega) ?_; intro g2 cap2 w4 hown2 hgrow2 hor2)
      go_ret
      exact ⟨rfl, HO.out.2.grown hgrow2 (by have := HZ.out; simp; omega) (fun q hq => own_ge HO.out.1 hq)⟩
end Go.Proofs.YthnanblilofdpaaDoor
