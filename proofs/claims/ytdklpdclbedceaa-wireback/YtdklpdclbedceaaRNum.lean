/- tenonref03.Number and tenonref03.text: new bytes. -/
import Derived.Test.YtdklpdclbedceaaEncH
namespace Go.Proofs.Ytdklpdclbedceaa
open Go.RowKit

/-- what a function that makes bytes answers -/
def NewB (w : World) (ys : List Int) (e : Ending) (w' : World) : Prop := ∃ g cap, e = .returned (.slice (some ⟨g, 0, none⟩) ys.length cap) ∧ Outs w' w.heap.size (some ⟨g, 0, none⟩) cap ys ∧ Below w.heap.size w w'
theorem u8s_one (ys : List Int) : ∀ u ∈ u8s ys, u.oneCell' = true := fun u hu => by
  simp only [u8s, List.mem_map] at hu
  obtain ⟨x, _, rfl⟩ := hu; rfl
theorem outs_src {w : World} {base g cap : Nat} {ys : List Int} (h : Outs w base (some ⟨g, 0, none⟩) cap ys) : Src Try.prog 1 23 (.slice (some ⟨g, 0, none⟩) ys.length cap) ys.length (u8s ys) w :=
  Src.ofSlice _ Try.undB ⟨g, 0, none⟩ ys.length cap _ (by simp [u8s]) (fun j u hu => h.1.cells (g := g) rfl j u hu) (u8s_one ys)
theorem outs_call {w w' : World} {base : Nat} {a : Option Addr} {cap : Nat} {xs : List Int} (h : Outs w base a cap xs) (hb : Below w.heap.size w w') : Outs w' base a cap xs :=
  ⟨owns_below hb h.1, Nat.le_trans h.2 hb.size⟩
theorem outs_join {w1 w2 w3 : World} {base g1 cap1 : Nat} {xs ys : List Int} {g' cap' n : Nat} (h : Outs w1 base (some ⟨g1, 0, none⟩) cap1 xs) (hb : Below w1.heap.size w1 w2) (ho : w3.ownsRow base 5 1 (.slice (some ⟨g', 0, none⟩) n cap') n (u8s xs ++ u8s ys)) (hn : n = (xs ++ ys).length) (hg : w2.grownBy w3 (some g1)) : Outs w3 base (some ⟨g', 0, none⟩) cap' (xs ++ ys) ∧ Below base w1 w3 := by
  have hz := hg.size
  have hz2 := hb.size
  have h2 := h.2
  refine ⟨⟨by rw [u8s_app, ← hn]; exact ho, by omega⟩, ?_⟩
  exact (hb.mono h.2).grown hg (by omega) (fun k e => by injection e with e; subst e; exact (h.1.lt g1 rfl).1)
theorem outs_none (w : World) : Outs (w.alloc (.cells #[] 5)) w.heap.size (some ⟨w.heap.size, 0, none⟩) 0 [] :=
  ⟨⟨rfl, .inr ⟨w.heap.size, 0, #[], rfl, Nat.le_refl _, heap_alloc_new w _, Nat.le_refl _, by simp [maxLen], rfl, rfl⟩⟩, by simp⟩

set_option maxRecDepth 100000 in
set_option maxHeartbeats 1000000 in
theorem number_any (n : Nat) (w : World) (hn : n < 18446744073709551616) :
    Calls Try.prog 90 #[.int .u64 n] w (NewB w (Sp.numB n)) := by
  obtain ⟨i0, hi, hz0, hz1, hz2⟩ := info_parts Try.infoB
  have hlen := Sp.numB_64 hn
  have H0 : Hid (Outs (w.alloc (.cells #[] 5)) w.heap.size (some ⟨w.heap.size, 0, none⟩) 0 [] ∧ Below w.heap.size w (w.alloc (.cells #[] 5))) := ⟨outs_none w, (Below.refl _ _).alloc (Nat.le_refl _) _⟩
  go_enter Try.func90, Try.ntmps90
  go_wp2_with fail
  go_loopw [0, 3] (fun x u wr => ∃ (m g : Nat) (ys : List Int) (cap' : Nat), u = .slice (some ⟨g, 0, none⟩) ys.length cap' ∧ x = .int .u64 m ∧ m < 18446744073709551616 ∧ Hid (Sp.numB n = ys ++ Sp.numB m) ∧ Hid (Outs wr w.heap.size (some ⟨g, 0, none⟩) cap' ys ∧ Below w.heap.size w wr)) (fun x _ _ => (intOf x).toNat)
  case atStart => exact ⟨n, w.heap.size, [], 0, rfl, rfl, hn, rfl, H0.out⟩
  case round =>
    obtain ⟨m, g, ys, cap', rfl, rfl, hm, HE, HO⟩ := hrel
    have hl : ys.length + (Sp.numB m).length ≤ 10 := by rw [HE.out, List.length_append] at hlen; omega
    have hp := Sp.numB_pos m
    have HOW : Hid (wr.ownsRow w.heap.size 5 1 (.slice (some ⟨g, 0, none⟩) ys.length cap') ys.length (u8s ys)) := HO.out.1.1
    by_cases hm' : m < 128
    · have hi1 : ¬ ((128 : Int) ≤ (m : Int)) := by omega
      go_wp2_with (at_builtin; refine wpList_app _ rfl _ _ 23 rfl w.heap.size 5 i0 (.int .u8 0) 1 1 Try.undB hi hz0 hz1 hz2 rfl (by decide) _ _ _ rfl (HOW.out.alloc _) ⟨wr.heap.size, 0, none⟩ 1 1 [.int .u8 (m : Int)] rfl rfl (cell_one_new _ _ _) (fun u hu => by simp at hu; subst hu; rfl) (by decide) (by unfold maxLen; omega) (by omega) (by have := HO.out.1.2; simp; omega) ?_; intro g' cap2 w3 hown' hgrow hor)
      go_wp2_with fail
      go_ret
      obtain ⟨h1, h2⟩ := HO.out.1.step (ys := [(m : Int)]) hown' rfl (by simp) hgrow hor
      have e1 := Sp.numB_lt hm'
      refine ⟨g', cap2, by rw [HE.out, e1, List.length_append]; rfl, by rw [HE.out, e1]; exact h1, HO.out.2.trans h2.1⟩
    · have hi1 : (128 : Int) ≤ (m : Int) := by omega
      go_wp2_with (at_builtin; refine wpList_app _ rfl _ _ 23 rfl w.heap.size 5 i0 (.int .u8 0) 1 1 Try.undB hi hz0 hz1 hz2 rfl (by decide) _ _ _ rfl (HOW.out.alloc _) ⟨wr.heap.size, 0, none⟩ 1 1 [.int .u8 ((m % 128 + 128 : Nat) : Int)] rfl rfl (cell_one_new _ _ _) (fun u hu => by simp at hu; subst hu; rfl) (by decide) (by unfold maxLen; omega) (by omega) (by have := HO.out.1.2; simp; omega) ?_; intro g' cap2 w3 hown' hgrow hor')
      obtain ⟨h1, h2⟩ := HO.out.1.step (ys := [((m % 128 + 128 : Nat) : Int)]) hown' rfl (by simp) hgrow hor'
      refine ⟨⟨m / 128, g', ys ++ [((m % 128 + 128 : Nat) : Int)], cap2, by simp, by simp, by omega, ?_, h1, HO.out.2.trans h2.1⟩, by simp [intOf]; omega⟩
      show _ = _
      rw [HE.out, Sp.numB_ge hm', List.append_assoc]; rfl

set_option maxRecDepth 100000 in
set_option maxHeartbeats 1000000 in
theorem rtext_any (s : ByteArray) (w : World) (hs : s.size ≤ 70368744177664) :
    Calls Try.prog 91 #[.string s] w (NewB w (Sp.txtB s)) := by
  obtain ⟨i0, hi, hz0, hz1, hz2⟩ := info_parts Try.infoB
  have hl : (Sp.txtB s).length = (Sp.numB s.size).length + s.size := by simp [Sp.txtB, Sp.bts_len]
  have HN : Hid (∀ W, Calls Try.prog 90 #[.int .u64 (s.size : Int)] W (NewB W (Sp.numB s.size))) := fun W => number_any s.size W (by omega)
  have hp := Sp.numB_pos s.size
  have hp' := Sp.numB_64 (n := s.size) (by omega)
  go_enter Try.func91, Try.ntmps91
  go_wp2_with fail
  refine (HN.out _).mono ?_
  rintro e w1 ⟨g1, cap1, rfl, ho1, hb1⟩
  have HO : Hid (Outs w1 w.heap.size (some ⟨g1, 0, none⟩) cap1 (Sp.numB s.size) ∧ Below w.heap.size w w1) := ⟨ho1, hb1⟩
  clear ho1 hb1 HN
  go_wp2_with (at_builtin; refine wpList_app_src _ rfl _ _ 23 9 rfl w.heap.size 5 i0 (.int .u8 0) 1 1 Try.undB hi hz0 hz1 hz2 rfl _ _ _ _ rfl HO.out.1.1 _ _ _ rfl (Src.ofString _ Try.underlying9 s) (by unfold maxLen; omega) (by omega) HO.out.1.2 ?_; intro g' cap2 w3 hown' hgrow _)
  go_wp2_with fail
  go_ret
  rw [byteCells_bts] at hown'
  obtain ⟨h1, h2⟩ := outs_join HO.out.1 (ys := Sp.bts s) (Below.refl _ _) hown' (by simp [Sp.bts_len]) hgrow
  exact ⟨g', cap2, by rw [hl]; rfl, h1, HO.out.2.trans h2⟩
end Go.Proofs.Ytdklpdclbedceaa
