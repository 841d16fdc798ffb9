/- tenonlaw03.lent and kept. -/
import Derived.Test.YtkomcebknllaiaaL34
import Derived.Laws.MakeOwn
import Derived.Test.YtkomcebknllaiaaL33
namespace Go.Proofs.Ytkomcebknllaiaa
open Go.RowKit

/-- the first k marks that stand behind what is lent -/
def Sp.marks : Nat → List Int
  | 0 => []
  | k + 1 => Sp.marks k ++ [(171 + k : Int)]
theorem marks_len : ∀ k, (Sp.marks k).length = k
  | 0 => rfl
  | k + 1 => by simp [Sp.marks, marks_len k]
theorem marks_get : ∀ (k j : Nat), j < k → (Sp.marks k)[j]? = some (171 + j : Int)
  | 0, _, h => absurd h (by omega)
  | k + 1, j, h => by
    rw [Sp.marks]
    by_cases hj : j < k
    · rw [List.getElem?_append_left (by rw [marks_len]; exact hj)]; exact marks_get k j hj
    · have : j = k := by omega
      subst this
      rw [List.getElem?_append_right (by rw [marks_len]; omega), marks_len]; simp

set_option maxRecDepth 100000 in
set_option maxHeartbeats 1000000 in
theorem lent_any (l : ByteArray) (ab : Option Addr) (cb : Nat) (w : World) (hl : l.size ≤ 140737488351232) (hab : BytesAt w (Lo w.heap.size) ab l) :
    Calls Try.prog 28 #[.slice ab l.size cb] w fun e w' => ∃ g cap, e = .returned (.tuple #[.slice (some ⟨g, 0, none⟩) l.size cap, .slice (some ⟨g, 0, none⟩) (l.size + 32) cap]) ∧ Outs w' w.heap.size (some ⟨g, 0, none⟩) cap (Sp.bts l ++ Sp.marks 32) ∧ Below w.heap.size w w' := by
  obtain ⟨i0, hi, hz0, hz1, hz2⟩ := info_parts Try.infoB
  have HS : Hid (∀ W, Below w.heap.size w W → Src Try.prog 1 23 (.slice ab l.size cb) l.size (u8s (Sp.bts l)) W) := fun W hW =>
    src_bytes l ab cb (Lo w.heap.size) W (fun j hj => by
      obtain ⟨g, o, e, hg, hc⟩ := hab j hj
      exact ⟨g, o, e, hg, by rw [hW.cell (p := ⟨g, o + j, none⟩) hg]; exact hc⟩)
  obtain ⟨wm, hmk, hown, hgr⟩ := run_make_own (P := Try.prog) w w.heap.size 23 5 i0 (.int .u8 0) 1 Try.undB hi hz0 hz1 .i64 .i64 (l.size + 32) (by rw [hz2]; omega) (by unfold maxLen; omega) (Nat.le_refl _)
  have hmk2 : (Instr.makeSlice 23 (.int .i64 0) (.int .i64 ((l.size : Int) + 32))).run Try.prog w = .ok (.slice (some ⟨w.heap.size, 0, none⟩) 0 (l.size + 32)) wm := hmk
  have hw : IntKind.i64.wrap ((l.size : Int) + 32) = (l.size : Int) + 32 := by rw [IntKind.wrap_i64]; omega
  have HM : Hid (wm.ownsRow w.heap.size 5 1 (.slice (some ⟨w.heap.size, 0, none⟩) 0 (l.size + 32)) 0 [] ∧ w.grownBy wm none) := ⟨hown, hgr⟩
  have HB : Hid (Below w.heap.size w wm) := (Below.refl _ _).grown hgr (Nat.le_refl _) (fun k e => by cases e)
  clear hmk hown hgr hab
  go_enter Try.func28, Try.ntmps28
  go_wp2_with (at_builtin; refine wpList_app_src _ rfl _ _ 23 23 rfl w.heap.size 5 i0 (.int .u8 0) 1 1 Try.undB hi hz0 hz1 hz2 rfl _ _ _ _ rfl HM.out.1 _ _ _ rfl (HS.out _ HB.out) (by unfold maxLen; omega) (by omega) HB.out.size ?_; intro g0 cap0 w3 hown' hgrow hor)
  have H3 : Hid (Outs w3 w.heap.size (some ⟨g0, 0, none⟩) cap0 (Sp.bts l ++ Sp.marks 0) ∧ Below w.heap.size w w3) := by
    have hb3 : Below w.heap.size w w3 := HB.out.grown hgrow HB.out.size (fun k e => by injection e with e; omega)
    refine ⟨⟨?_, hb3.size⟩, hb3⟩
    have e1 : (Sp.bts l ++ Sp.marks 0).length = 0 + l.size := by simp [Sp.marks, Sp.bts_len]
    rw [e1]
    simpa [Sp.marks] using hown'
  clear hown' hgrow hor HM HB HS
  go_wp2_with fail
  go_loopw [4, 5] (fun u x wr => ∃ (k g cap : Nat), u = .slice (some ⟨g, 0, none⟩) (l.size + k) cap ∧ x = .int .i64 k ∧ k ≤ 32 ∧ Hid (Outs wr w.heap.size (some ⟨g, 0, none⟩) cap (Sp.bts l ++ Sp.marks k) ∧ Below w.heap.size w wr)) (fun _ x _ => 32 - (intOf x).toNat)
  case atStart => exact ⟨0, g0, cap0, by simp, rfl, by omega, H3.out⟩
  case round =>
    obtain ⟨k, g, cap, rfl, rfl, hk, HR⟩ := hrel
    clear H3
    by_cases hlt : k < 32
    · have hlt' : (k : Int) < 32 := by omega
      have hwk : IntKind.i64.wrap (171 + (k : Int)) = 171 + (k : Int) := by rw [IntKind.wrap_i64]; omega
      have hwb : IntKind.u8.wrap (171 + (k : Int)) = 171 + (k : Int) := by rw [IntKind.wrap_u8]; omega
      have HOW : Hid (wr.ownsRow w.heap.size 5 1 (.slice (some ⟨g, 0, none⟩) (l.size + k) cap) (l.size + k) (u8s (Sp.bts l ++ Sp.marks k))) := by
        have := HR.out.1.1
        rw [show (Sp.bts l ++ Sp.marks k).length = l.size + k by rw [List.length_append, Sp.bts_len, marks_len]] at this
        exact this
      have hsz := HR.out.1.2
      go_wp2_with (at_builtin; refine wpList_app _ rfl _ _ 23 rfl w.heap.size 5 i0 (.int .u8 0) 1 1 Try.undB hi hz0 hz1 hz2 rfl (by decide) _ _ _ rfl (HOW.out.alloc _) ⟨wr.heap.size, 0, none⟩ 1 1 [.int .u8 (171 + (k : Int))] rfl rfl (cell_one_new _ _ _) (fun u hu => by simp at hu; subst hu; rfl) (by decide) (by unfold maxLen; omega) (by omega) (by simp; omega) ?_; intro g' cap' w4 hown' hgrow hor)
      have HN := HR.out.1.step (ys := [171 + (k : Int)]) hown' (by rfl) (by rw [List.length_append, List.length_append, Sp.bts_len, marks_len]; rfl) (by rw [show (Sp.bts l ++ Sp.marks k).length = l.size + k by rw [List.length_append, Sp.bts_len, marks_len]]; exact hgrow) (by rw [show (Sp.bts l ++ Sp.marks k).length = l.size + k by rw [List.length_append, Sp.bts_len, marks_len]]; exact hor)
      go_roundw
      case rel => exact ⟨k + 1, g', cap', rfl, by go_num, by omega, show _ ∧ _ from ⟨by rw [Sp.marks, ← List.append_assoc]; exact HN.1, HR.out.2.trans HN.2.1⟩⟩
      case measure => simp [intOf]; omega
    · have hlt' : ¬ (k : Int) < 32 := by omega
      have h32 : 32 ≤ k := by omega
      have hcap : l.size ≤ cap := by
        have := (outs_rd HR.out.1).2
        rw [List.length_append, Sp.bts_len] at this; omega
      have q1 : (l.size : Int) ≤ (cap : Int) := by omega
      have q0 : (0 : Int) ≤ (l.size : Int) := Int.natCast_nonneg _
      have q2 : IntKind.i64.wrap (l.size : Int) = (l.size : Int) := by rw [IntKind.wrap_i64]; omega
      have hk32 : k = 32 := by omega
      have HK : Hid (k = 32) := hk32
      clear hk32
      go_wp2_with fail
      go_ret2
      have e := HK.out
      subst e
      exact ⟨g, cap, rfl, HR.out.1, HR.out.2⟩
end Go.Proofs.Ytkomcebknllaiaa

/- tenonlaw03.kept. -/
namespace Go.Proofs.Ytkomcebknllaiaa
open Go.RowKit

set_option maxRecDepth 100000 in
set_option maxHeartbeats 2000000 in
theorem kept_any (l : ByteArray) (ab : Option Addr) (cb g cap : Nat) (w : World) (hl : l.size ≤ 140737488351232) (hab : BytesAt w (Lo w.heap.size) ab l) (hr : RdB w (Lo w.heap.size) (some ⟨g, 0, none⟩) (Sp.bts l ++ Sp.marks 32)) :
    Calls Try.prog 32 #[.slice (some ⟨g, 0, none⟩) (l.size + 32) cap, .slice ab l.size cb] w fun e w' => e = .returned (.bool true) ∧ Below w.heap.size w w' := by
  have HA : Hid (BytesAt w (Lo w.heap.size) ab l ∧ ∀ k, k < l.size + 32 → ∃ x : Int, g < w.heap.size ∧ w.cell? ⟨g, k, none⟩ = some (.int .u8 x) ∧ (k < l.size → x = Sp.byte l k) ∧ (l.size ≤ k → x = 171 + ((k : Int) - (l.size : Int)))) := by
    refine ⟨hab, fun k hk => ?_⟩
    by_cases h : k < l.size
    · obtain ⟨g', o, e, hg, hc⟩ := hr k (Sp.byte l k) (by rw [List.getElem?_append_left (by rw [Sp.bts_len]; exact h)]; simp [Sp.bts, h])
      simp only [Option.some.injEq, Addr.mk.injEq, and_true] at e
      obtain ⟨rfl, rfl⟩ := e
      exact ⟨_, hg, by simpa using hc, fun _ => rfl, fun h2 => by omega⟩
    · obtain ⟨g', o, e, hg, hc⟩ := hr k (171 + ((k - l.size : Nat) : Int)) (by rw [List.getElem?_append_right (by rw [Sp.bts_len]; omega), Sp.bts_len]; exact marks_get 32 _ (by omega))
      simp only [Option.some.injEq, Addr.mk.injEq, and_true] at e
      obtain ⟨rfl, rfl⟩ := e
      exact ⟨_, hg, by simpa using hc, fun h2 => absurd h2 h, fun _ => by omega⟩
  clear hab hr
  go_enter Try.func32, Try.ntmps32
  go_wp2_with fail
  go_loopw [5] (fun i wr => ∃ k : Nat, i = .int .i64 k ∧ k ≤ l.size + 32 ∧ Hid (Below w.heap.size w wr)) (fun i _ => l.size + 32 - (intOf i).toNat)
  case atStart => exact ⟨0, rfl, by omega, Below.refl _ _⟩
  case round =>
    obtain ⟨k, rfl, hk, HB⟩ := hrel
    by_cases hlt : k < l.size + 32
    · obtain ⟨x, hg, hc, hx1, hx2⟩ := HA.out.2 k hlt
      have d1 : wr.cell? ⟨g, k, none⟩ = some (.int .u8 x) := by rw [HB.out.cell (p := ⟨g, k, none⟩) hg]; exact hc
      have HX : Hid ((k < l.size → x = Sp.byte l k) ∧ (l.size ≤ k → x = 171 + ((k : Int) - (l.size : Int)))) := ⟨hx1, hx2⟩
      clear hc hx1 hx2
      have hlt2 : (k : Int) < (l.size : Int) + 32 := by omega
      have hk0 : (0 : Int) ≤ (k : Int) := Int.natCast_nonneg _
      by_cases hn : k < l.size
      · obtain ⟨g2, o2, rfl, hg2, c2⟩ := HA.out.1 k hn
        have d2 : wr.cell? ⟨g2, o2 + k, none⟩ = some (.int .u8 x) := by rw [HB.out.cell (p := ⟨g2, o2 + k, none⟩) hg2, HX.out.1 hn]; exact c2
        clear c2
        have hn2 : (k : Int) < (l.size : Int) := by omega
        have hn3 : decide ((l.size : Int) ≤ (k : Int)) = false := decide_eq_false (by omega)
        have hn5 : ¬ l.size ≤ k := by omega
        have hn6 : decide (l.size ≤ k) = false := decide_eq_false hn5
        go_wp2_with fail
        go_quiet (fail)
        go_wp2_with fail
        go_roundw
        case rel => exact ⟨k + 1, by go_num, by omega, HB.out.trans (below_drewN' _ _ _)⟩
        case measure => simp [intOf]; omega
      · have hn2 : ¬ (k : Int) < (l.size : Int) := by omega
        have hn4 : l.size ≤ k := by omega
        have hn3 : decide ((k : Int) < (l.size : Int)) = false := decide_eq_false (by omega)
        have hw1 : IntKind.i64.wrap (171 + (k : Int)) = 171 + (k : Int) := by rw [IntKind.wrap_i64]; omega
        have hw2 : IntKind.i64.wrap (171 + (k : Int) - (l.size : Int)) = x := by rw [HX.out.2 hn4, IntKind.wrap_i64]; omega
        have hw3 : IntKind.u8.wrap x = x := by rw [HX.out.2 hn4, IntKind.wrap_u8]; omega
        go_wp2_with fail
        go_quiet (fail)
        go_wp2_with fail
        go_roundw
        case rel => exact ⟨k + 1, by go_num, by omega, HB.out.trans (below_drewN' _ _ _)⟩
        case measure => simp [intOf]; omega
    · have h1 : l.size + 32 ≤ k := by omega
      go_wp2_with fail
      go_ret
      exact ⟨rfl, HB.out⟩
end Go.Proofs.Ytkomcebknllaiaa

/- tenonref03.Number and tenonref03.text: new bytes. -/
namespace Go.Proofs.Ytkomcebknllaiaa
open Go.RowKit

end Go.Proofs.Ytkomcebknllaiaa

/- tenonlaw03.same and tenonlaw03.full. -/
namespace Go.Proofs.Ytkomcebknllaiaa
open Go.RowKit

/-- bytes that can be read -/
def Rd (w : World) (a : Option Addr) (xs : List Int) : Prop := ∀ j u, xs[j]? = some u → ∃ g, a = some ⟨g, 0, none⟩ ∧ g < w.heap.size ∧ w.cell? ⟨g, j, none⟩ = some (.int .u8 u)
theorem Outs.rd {w : World} {base : Nat} {a : Option Addr} {cap : Nat} {xs : List Int} (h : Outs w base a cap xs) : Rd w a xs := fun j u hu => by
  have hp : 0 < xs.length := by
    cases xs with
    | nil => simp at hu
    | cons => simp
  obtain ⟨g, rfl⟩ := h.some hp
  refine ⟨g, rfl, (h.1.lt g rfl).2, ?_⟩
  have := h.1.cells (g := g) rfl j (.int .u8 u) (by simp only [u8s, List.getElem?_map, hu, Option.map_some])
  rw [addr_add] at this; simpa using this
theorem Rd.same {w w' : World} {a : Option Addr} {xs : List Int} (h : Rd w a xs) (hb : Below w.heap.size w w') : Rd w' a xs := fun j u hu => by
  obtain ⟨g, e, hg, hc⟩ := h j u hu
  exact ⟨g, e, Nat.lt_of_lt_of_le hg hb.size, by rw [hb.cell (p := ⟨g, j, none⟩) hg]; exact hc⟩

end Go.Proofs.Ytkomcebknllaiaa

/- tenonlaw03.full: it writes into its own row and new memory alone. -/
namespace Go.Proofs.Ytkomcebknllaiaa
open Go.RowKit

theorem outs_set {w : World} {base g cap : Nat} {xs : List Int} (h : Outs w base (some ⟨g, 0, none⟩) cap xs) (k : Nat) (hk : k < xs.length) (c : Int) :
    (∃ u, w.cell? ⟨g, k, none⟩ = some (.int .u8 u)) ∧ w.frozen? ⟨g, k, none⟩ = false ∧ Outs (w.setCell ⟨g, k, none⟩ (.int .u8 c)) base (some ⟨g, 0, none⟩) cap (xs.set k c) ∧ Gr base (some ⟨g, 0, none⟩) (some ⟨g, 0, none⟩) w (w.setCell ⟨g, k, none⟩ (.int .u8 c)) := by
  have hc := h.1.cells (g := g) rfl k (.int .u8 xs[k]) (by simp [u8s, hk])
  rw [addr_add] at hc
  simp only [Nat.zero_add] at hc
  have hlt := h.1.lt g rfl
  have hb := h.2
  rcases h.1.2 with ⟨e, _⟩ | ⟨g1, cap1, cur, e, hbg, hg, hnc, hcm, hcs, htake⟩
  · simp at e
  simp only [Value.slice.injEq, Option.some.injEq, Addr.mk.injEq, and_true, true_and] at e
  obtain ⟨rfl, rfl⟩ := e
  refine ⟨⟨_, hc⟩, frozen_of_row _ _ k _ _ hg, ⟨⟨by simp [u8s], .inr ⟨g, cap, _, by simp, hbg, heap_setCell_same w g k _ _ _ hg, by simpa using hnc, hcm, by simpa using hcs, ?_⟩⟩, by simpa using hb⟩, ?_⟩
  · simp only [Array.toList_setIfInBounds, List.length_set, List.take_set, htake]
    simp [u8s, List.map_set]
  · refine ⟨(Below.refl base w).setCell (p := ⟨g, k, none⟩) hbg _, fun j hj hn => Below.heap_setCell w ⟨g, k, none⟩ _ j (fun e => hn (by rw [e]; rfl)), fun j hj => .inl hj⟩

set_option maxRecDepth 100000 in
set_option maxHeartbeats 1000000 in
theorem full_any (xs : List Int) (a : Option Addr) (cap base : Nat) (c : Int) (w : World) (hl : xs.length ≤ 140737488351232) (h : Outs w base a cap xs) :
    Calls Try.prog 27 #[.slice a xs.length cap, .int .u8 c] w fun e w' => e = .returned (.tuple #[]) ∧ ∃ a', Gr base a a' w w' := by
  obtain ⟨i0, hi, hz0, hz1, hz2⟩ := info_parts Try.infoB
  have H0 : Hid (Outs w base a cap xs) := h
  clear h
  go_enter Try.func27, Try.ntmps27
  go_wp2_with fail
  go_loopw [4] (fun x wr => ∃ (k : Nat) (ys : List Int), x = .int .i64 k ∧ k ≤ xs.length ∧ Hid (ys.length = xs.length ∧ Outs wr base a cap ys ∧ Gr base a a w wr)) (fun x _ => xs.length - (intOf x).toNat)
  case atStart => exact ⟨0, xs, rfl, by omega, rfl, H0.out, Gr.refl _ _ _⟩
  case round =>
    obtain ⟨k, ys, rfl, hk, HD⟩ := hrel
    have hi0 : (0 : Int) ≤ (k : Int) := Int.natCast_nonneg _
    by_cases hkl : k < xs.length
    · have hi1 : (k : Int) < (xs.length : Int) := by omega
      obtain ⟨g, rfl⟩ := HD.out.2.1.some (by have := HD.out.1; omega)
      obtain ⟨⟨u, c0⟩, f0, ho, hg⟩ := outs_set HD.out.2.1 k (by have := HD.out.1; omega) c
      have HN : Hid ((ys.set k c).length = xs.length ∧ Outs (wr.setCell ⟨g, k, none⟩ (.int .u8 c)) base (some ⟨g, 0, none⟩) cap (ys.set k c) ∧ Gr base (some ⟨g, 0, none⟩) (some ⟨g, 0, none⟩) w (wr.setCell ⟨g, k, none⟩ (.int .u8 c))) := ⟨by rw [List.length_set]; exact HD.out.1, ho, HD.out.2.2.trans hg⟩
      clear ho hg
      go_wp2_with fail
      go_roundw
      case rel => exact ⟨k + 1, ys.set k c, by go_num, by omega, HN.out⟩
      case measure => simp [intOf]; omega
    · have hi1 : ¬ ((k : Int) < (xs.length : Int)) := by omega
      have HG0 : Hid (∃ zs : List Int, zs.length = xs.length + 0 ∧ Outs wr base a cap zs ∧ Gr base a a w wr) := ⟨ys, HD.out⟩
      go_wp2_with fail
      go_loopw [0, 5] (fun v x wr => ∃ (k : Nat) (a' : Option Addr) (cap' : Nat), v = .slice a' (xs.length + k) cap' ∧ x = .int .i64 k ∧ k ≤ 90 ∧ Hid (∃ zs : List Int, zs.length = xs.length + k ∧ Outs wr base a' cap' zs ∧ Gr base a a' w wr)) (fun _ x _ => 90 - (intOf x).toNat)
      case atStart => exact ⟨0, a, cap, rfl, rfl, by omega, HG0.out⟩
      case round =>
        obtain ⟨j, a', cap', rfl, rfl, hj, HR⟩ := hrel
        by_cases hj9 : j < 90
        · obtain ⟨zs, hz, ho, hgr⟩ := HR.out
          have HOW : Hid (wr.ownsRow base 5 1 (.slice a' (xs.length + j) cap') (xs.length + j) (u8s zs)) := by have := ho.1; rw [hz] at this; exact this
          have hbz := ho.2
          have HST : Hid (Outs wr base a' cap' zs ∧ zs.length = xs.length + j ∧ Gr base a a' w wr) := ⟨ho, hz, hgr⟩
          clear hz ho hgr
          go_wp2_with (at_builtin; refine wpList_app _ rfl _ _ 23 rfl base 5 i0 (.int .u8 0) 1 1 Try.undB hi hz0 hz1 hz2 rfl (by decide) _ _ _ rfl (HOW.out.alloc _) ⟨wr.heap.size, 0, none⟩ 1 1 [.int .u8 c] rfl rfl (cell_one_new _ _ _) (fun u hu => by simp at hu; subst hu; rfl) (by decide) (by unfold maxLen; omega) (by omega) (by simp; omega) ?_; intro g' cap2 w3 hown' hgrow hor')
          have hzz := HST.out.2.1
          obtain ⟨h1, h2⟩ := HST.out.1.step (ys := [c]) (n := xs.length + j + 1) (m := xs.length + j + 1) hown' rfl (by simp; omega) (by rw [hzz]; exact hgrow) (by rw [hzz]; exact hor')
          have HN : Hid (∃ zs : List Int, zs.length = xs.length + (j + 1) ∧ Outs w3 base (some ⟨g', 0, none⟩) cap2 zs ∧ Gr base a (some ⟨g', 0, none⟩) w w3) := ⟨zs ++ [c], by simp; omega, h1, HST.out.2.2.trans h2⟩
          clear hzz h1 h2 hown' hgrow hor'
          go_roundw
          case rel => exact ⟨j + 1, some ⟨g', 0, none⟩, cap2, rfl, by go_num, by omega, HN.out⟩
          case measure => simp [intOf]; omega
        · go_wp2_with fail
          go_end0
          obtain ⟨_, _, _, hg⟩ := HR.out
          exact ⟨rfl, a', hg⟩
theorem full_at (xs : List Int) (a : Option Addr) (cap base : Nat) (c : Int) (w : World) (m : Nat) (hm : m = xs.length) (hl : xs.length ≤ 140737488351232) (h : Outs w base a cap xs) :
    Calls Try.prog 27 #[.slice a m cap, .int .u8 c] w fun e w' => e = .returned (.tuple #[]) ∧ ∃ a', Gr base a a' w w' := by subst hm; exact full_any xs a cap base c w hl h
end Go.Proofs.Ytkomcebknllaiaa

