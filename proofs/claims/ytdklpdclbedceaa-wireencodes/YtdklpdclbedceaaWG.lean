/- tenonlaw03.same and tenonlaw03.full. -/
import Derived.Test.YtdklpdclbedceaaRNum
namespace Go.Proofs.Ytdklpdclbedceaa
open Go.RowKit

/-- bytes that can be read -/
def Rd (w : World) (a : Option Addr) (xs : List Int) : Prop := ∀ j u, xs[j]? = some u → ∃ g, a = some ⟨g, 0, none⟩ ∧ g < w.heap.size ∧ w.cell? ⟨g, j, none⟩ = some (.int .u8 u)
theorem Outs.rd {w : World} {base : Nat} {a : Option Addr} {cap : Nat} {xs : List Int} (h : Outs w base a cap xs) : Rd w a xs := fun j u hu => by
  have hp : 0 < xs.length := by
    cases xs with
    | nil => simp at hu
    | cons => simp
  obtain ⟨g, rfl⟩ := h.some hp
  refine ⟨g, rfl, (h.1.lt g rfl).2, ?_⟩
  have := h.1.cells (g := g) rfl j (.int .u8 u) (by simp only [u8s, List.getElem?_map, hu, Option.map_some])
  rw [addr_add] at this; simpa using this
theorem Rd.same {w w' : World} {a : Option Addr} {xs : List Int} (h : Rd w a xs) (hb : Below w.heap.size w w') : Rd w' a xs := fun j u hu => by
  obtain ⟨g, e, hg, hc⟩ := h j u hu
  exact ⟨g, e, Nat.lt_of_lt_of_le hg hb.size, by rw [hb.cell (p := ⟨g, j, none⟩) hg]; exact hc⟩

set_option maxRecDepth 100000 in
set_option maxHeartbeats 1000000 in
theorem wsame_any (xs : List Int) (a b : Option Addr) (ca cb : Nat) (w : World) (hl : xs.length ≤ 140737488355328) (ha : Rd w a xs) (hb : Rd w b xs) :
    Calls Try.prog 25 #[.slice a xs.length ca, .slice b xs.length cb] w fun e w' => e = .returned (.bool true) ∧ Below w.heap.size w w' := by
  have HA : Hid (Rd w a xs ∧ Rd w b xs) := ⟨ha, hb⟩
  clear ha hb
  go_enter Try.func25, Try.ntmps25
  go_wp2_with fail
  go_loopw [5] (fun i wr => ∃ k : Nat, i = .int .i64 k ∧ k ≤ xs.length ∧ Hid (Below w.heap.size w wr)) (fun i _ => xs.length - (intOf i).toNat)
  case atStart => exact ⟨0, rfl, by omega, Below.refl _ _⟩
  case round =>
    obtain ⟨k, rfl, hk, HB⟩ := hrel
    by_cases hlt : k < xs.length
    · obtain ⟨g1, rfl, hg1, c1⟩ := HA.out.1 k xs[k] (List.getElem?_eq_getElem hlt)
      obtain ⟨g2, rfl, hg2, c2⟩ := HA.out.2 k xs[k] (List.getElem?_eq_getElem hlt)
      have d1 : wr.cell? ⟨g1, k, none⟩ = some (.int .u8 xs[k]) := by rw [HB.out.cell (p := ⟨g1, k, none⟩) hg1]; exact c1
      have d2 : wr.cell? ⟨g2, k, none⟩ = some (.int .u8 xs[k]) := by rw [HB.out.cell (p := ⟨g2, k, none⟩) hg2]; exact c2
      generalize xs[k] = x at d1 d2 c1 c2
      clear c1 c2
      go_wp2_with fail
      go_quiet (fail)
      go_wp2_with fail
      go_roundw
      case rel => exact ⟨k + 1, by go_num, by omega, HB.out.trans (below_drewN' _ _ _)⟩
      case measure => simp [intOf]; omega
    · have h1 : xs.length ≤ k := by omega
      go_wp2_with fail
      go_ret
      exact ⟨rfl, HB.out⟩
end Go.Proofs.Ytdklpdclbedceaa

/- tenonlaw03.full: it writes into its own row and new memory alone. -/
namespace Go.Proofs.Ytdklpdclbedceaa
open Go.RowKit

theorem outs_set {w : World} {base g cap : Nat} {xs : List Int} (h : Outs w base (some ⟨g, 0, none⟩) cap xs) (k : Nat) (hk : k < xs.length) (c : Int) :
    (∃ u, w.cell? ⟨g, k, none⟩ = some (.int .u8 u)) ∧ w.frozen? ⟨g, k, none⟩ = false ∧ Outs (w.setCell ⟨g, k, none⟩ (.int .u8 c)) base (some ⟨g, 0, none⟩) cap (xs.set k c) ∧ Gr base (some ⟨g, 0, none⟩) (some ⟨g, 0, none⟩) w (w.setCell ⟨g, k, none⟩ (.int .u8 c)) := by
  have hc := h.1.cells (g := g) rfl k (.int .u8 xs[k]) (by simp [u8s, hk])
  rw [addr_add] at hc
  simp only [Nat.zero_add] at hc
  have hlt := h.1.lt g rfl
  have hb := h.2
  rcases h.1.2 with ⟨e, _⟩ | ⟨g1, cap1, cur, e, hbg, hg, hnc, hcm, hcs, htake⟩
  · simp at e
  simp only [Value.slice.injEq, Option.some.injEq, Addr.mk.injEq, and_true, true_and] at e
  obtain ⟨rfl, rfl⟩ := e
  refine ⟨⟨_, hc⟩, frozen_of_row _ _ k _ _ hg, ⟨⟨by simp [u8s], .inr ⟨g, cap, _, by simp, hbg, heap_setCell_same w g k _ _ _ hg, by simpa using hnc, hcm, by simpa using hcs, ?_⟩⟩, by simpa using hb⟩, ?_⟩
  · simp only [Array.toList_setIfInBounds, List.length_set, List.take_set, htake]
    simp [u8s, List.map_set]
  · refine ⟨(Below.refl base w).setCell (p := ⟨g, k, none⟩) hbg _, fun j hj hn => Below.heap_setCell w ⟨g, k, none⟩ _ j (fun e => hn (by rw [e]; rfl)), fun j hj => .inl hj⟩

set_option maxRecDepth 100000 in
set_option maxHeartbeats 1000000 in
theorem full_any (xs : List Int) (a : Option Addr) (cap base : Nat) (c : Int) (w : World) (hl : xs.length ≤ 70368744177664) (h : Outs w base a cap xs) :
    Calls Try.prog 27 #[.slice a xs.length cap, .int .u8 c] w fun e w' => e = .returned (.tuple #[]) ∧ ∃ a', Gr base a a' w w' := by
  obtain ⟨i0, hi, hz0, hz1, hz2⟩ := info_parts Try.infoB
  have H0 : Hid (Outs w base a cap xs) := h
  clear h
  go_enter Try.func27, Try.ntmps27
  go_wp2_with fail
  go_loopw [4] (fun x wr => ∃ (k : Nat) (ys : List Int), x = .int .i64 k ∧ k ≤ xs.length ∧ Hid (ys.length = xs.length ∧ Outs wr base a cap ys ∧ Gr base a a w wr)) (fun x _ => xs.length - (intOf x).toNat)
  case atStart => exact ⟨0, xs, rfl, by omega, rfl, H0.out, Gr.refl _ _ _⟩
  case round =>
    obtain ⟨k, ys, rfl, hk, HD⟩ := hrel
    have hi0 : (0 : Int) ≤ (k : Int) := Int.natCast_nonneg _
    by_cases hkl : k < xs.length
    · have hi1 : (k : Int) < (xs.length : Int) := by omega
      obtain ⟨g, rfl⟩ := HD.out.2.1.some (by have := HD.out.1; omega)
      obtain ⟨⟨u, c0⟩, f0, ho, hg⟩ := outs_set HD.out.2.1 k (by have := HD.out.1; omega) c
      have HN : Hid ((ys.set k c).length = xs.length ∧ Outs (wr.setCell ⟨g, k, none⟩ (.int .u8 c)) base (some ⟨g, 0, none⟩) cap (ys.set k c) ∧ Gr base (some ⟨g, 0, none⟩) (some ⟨g, 0, none⟩) w (wr.setCell ⟨g, k, none⟩ (.int .u8 c))) := ⟨by rw [List.length_set]; exact HD.out.1, ho, HD.out.2.2.trans hg⟩
      clear ho hg
      go_wp2_with fail
      go_roundw
      case rel => exact ⟨k + 1, ys.set k c, by go_num, by omega, HN.out⟩
      case measure => simp [intOf]; omega
    · have hi1 : ¬ ((k : Int) < (xs.length : Int)) := by omega
      have HG0 : Hid (∃ zs : List Int, zs.length = xs.length + 0 ∧ Outs wr base a cap zs ∧ Gr base a a w wr) := ⟨ys, HD.out⟩
      go_wp2_with fail
      go_loopw [0, 5] (fun v x wr => ∃ (k : Nat) (a' : Option Addr) (cap' : Nat), v = .slice a' (xs.length + k) cap' ∧ x = .int .i64 k ∧ k ≤ 90 ∧ Hid (∃ zs : List Int, zs.length = xs.length + k ∧ Outs wr base a' cap' zs ∧ Gr base a a' w wr)) (fun _ x _ => 90 - (intOf x).toNat)
      case atStart => exact ⟨0, a, cap, rfl, rfl, by omega, HG0.out⟩
      case round =>
        obtain ⟨j, a', cap', rfl, rfl, hj, HR⟩ := hrel
        by_cases hj9 : j < 90
        · obtain ⟨zs, hz, ho, hgr⟩ := HR.out
          have HOW : Hid (wr.ownsRow base 5 1 (.slice a' (xs.length + j) cap') (xs.length + j) (u8s zs)) := by have := ho.1; rw [hz] at this; exact this
          have hbz := ho.2
          have HST : Hid (Outs wr base a' cap' zs ∧ zs.length = xs.length + j ∧ Gr base a a' w wr) := ⟨ho, hz, hgr⟩
          clear hz ho hgr
          go_wp2_with (at_builtin; refine wpList_app _ rfl _ _ 23 rfl base 5 i0 (.int .u8 0) 1 1 Try.undB hi hz0 hz1 hz2 rfl (by decide) _ _ _ rfl (HOW.out.alloc _) ⟨wr.heap.size, 0, none⟩ 1 1 [.int .u8 c] rfl rfl (cell_one_new _ _ _) (fun u hu => by simp at hu; subst hu; rfl) (by decide) (by unfold maxLen; omega) (by omega) (by simp; omega) ?_; intro g' cap2 w3 hown' hgrow hor')
          have hzz := HST.out.2.1
          obtain ⟨h1, h2⟩ := HST.out.1.step (ys := [c]) (n := xs.length + j + 1) (m := xs.length + j + 1) hown' rfl (by simp; omega) (by rw [hzz]; exact hgrow) (by rw [hzz]; exact hor')
          have HN : Hid (∃ zs : List Int, zs.length = xs.length + (j + 1) ∧ Outs w3 base (some ⟨g', 0, none⟩) cap2 zs ∧ Gr base a (some ⟨g', 0, none⟩) w w3) := ⟨zs ++ [c], by simp; omega, h1, HST.out.2.2.trans h2⟩
          clear hzz h1 h2 hown' hgrow hor'
          go_roundw
          case rel => exact ⟨j + 1, some ⟨g', 0, none⟩, cap2, rfl, by go_num, by omega, HN.out⟩
          case measure => simp [intOf]; omega
        · go_wp2_with fail
          go_end0
          obtain ⟨_, _, _, hg⟩ := HR.out
          exact ⟨rfl, a', hg⟩
end Go.Proofs.Ytdklpdclbedceaa
