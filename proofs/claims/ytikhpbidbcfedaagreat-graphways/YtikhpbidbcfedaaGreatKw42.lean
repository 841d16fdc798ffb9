/- tenonlaw14.lives: the document's first example. -/
import Derived.Test.YtikhpbidbcfedaaGreatKw36
import Derived.Test.YtikhpbidbcfedaaGreatKw29
import Derived.Test.YtikhpbidbcfedaaGreatKw38
import Derived.Test.YtikhpbidbcfedaaGreatKw41
import Derived.Test.YtikhpbidbcfedaaGreatKw30
namespace Go.Proofs.YtikhpbidbcfedaaGreat
open Go.RowKit Go.ChangeMaps

def E0 : List (Int × Int) := [(1, 2), (2, 3), (3, 2), (1, 4)]
def N0 : List Int := [1, 2, 3, 4]
theorem ex_srt : Sp.srt [4, 2, 3, 1] = N0 := ext_ltI (srt_lt (by decide)) (by decide) fun x => by rw [srt_mem, N0]; simp; omega
theorem ex_mk : Sp.mkE [4, 2, 3, 1] E0 = 0 := by decide +kernel
theorem ex_rgs : Sp.rgs (Sp.nx N0 E0) 4 4 = [1, 2] := by decide
theorem ex_npt : Sp.npt (Sp.nx N0 E0) 4 = 3 := by decide
theorem ex_ord : Sp.ord (Sp.nx N0 E0) 4 4 = none := by decide +kernel
theorem ex_path : Sp.path N0 (Sp.nx N0 E0) 1 3 = some [1, 2, 3] := by decide
theorem ex_keeps : Sp.keeps N0 (Sp.nx N0 E0) [1] 2 = some [2, 3] := by decide
theorem ex_nb (i x : Nat) (h : x ∈ Sp.nx N0 E0 i) : x < N0.length := (nx_mem.1 h).1
theorem ex_rch (wo : Int) (x : Nat) : Rch (Sp.nx N0 E0) wo [0] x ↔ x ∈ (Bf.all (Sp.nx N0 E0) wo 4 [0]).ord := (all_rch (L := 4) (nx_lt N0 E0) (fun i x h => ex_nb i x h) (by decide)).symm
theorem ex_krp : KrP N0 (Sp.nx N0 E0) [1] 3 2 true 0 := by
  refine .inr (.inr ⟨[0], 1, by decide, by decide, by decide, ?_, rfl, .inr ⟨1, rfl, rfl, rfl⟩⟩)
  have e : Sp.wy (Bf.all (Sp.nx N0 E0) (-1) N0.length [0]) (N0.idxOf 3) = [0, 1, 2] := by decide
  rw [e]
  refine .inr ⟨1, 1, by decide, rfl, rfl, ⟨by decide, (ex_rch _ _).2 (by decide), fun h => ?_⟩, fun i x h1 h2 _ => ?_⟩
  · have := (ex_rch _ _).1 h
    revert this; decide
  · simp at h2; omega

set_option maxRecDepth 100000 in
set_option maxHeartbeats 8000000 in
theorem lives_any (w : World) : Calls Tryz.prog 8 #[] w fun e w' => e = .returned (.bool true) ∧ Below w.heap.size w w' := by
  obtain ⟨W2, hW2⟩ : ∃ W2, (w.alloc (.cells #[.int .u64 4, .int .u64 2, .int .u64 3, .int .u64 1] 25)).alloc (.cells #[.int .u64 1, .int .u64 2, .int .u64 2, .int .u64 3, .int .u64 3, .int .u64 2, .int .u64 1, .int .u64 4] 38) = W2 := ⟨_, rfl⟩
  have hb2 : Below w.heap.size w W2 := by rw [← hW2]; exact ((Below.refl _ _).alloc (Nat.le_refl _) _).alloc (by rw [al_size]; omega) _
  have hz2 : W2.heap.size = w.heap.size + 1 + 1 := by rw [← hW2, al_size, al_size]
  have h20 : W2.heap[w.heap.size]? = some (.cells #[.int .u64 4, .int .u64 2, .int .u64 3, .int .u64 1] 25 (0, 0)) := by rw [← hW2]; exact (Below.heap_alloc _ _ _ (by rw [al_size]; omega)).trans (heap_alloc_new w _)
  have h21 : W2.heap[w.heap.size + 1]? = some (.cells #[.int .u64 1, .int .u64 2, .int .u64 2, .int .u64 3, .int .u64 3, .int .u64 2, .int .u64 1, .int .u64 4] 38 (0, 0)) := by
    rw [← hW2]; have := heap_alloc_new (w.alloc (.cells #[.int .u64 4, .int .u64 2, .int .u64 3, .int .u64 1] 25)) (.cells #[.int .u64 1, .int .u64 2, .int .u64 2, .int .u64 3, .int .u64 3, .int .u64 2, .int .u64 1, .int .u64 4] 38 (0, 0)); rwa [al_size] at this
  have hRA : RefsAt W2 W2.heap.size (some ⟨w.heap.size, 0, none⟩) [4, 2, 3, 1] := by
    refine ⟨fun t u hu => ⟨w.heap.size, 0, rfl, by omega, ?_⟩, fun h => (by cases h), fun x hx => by simp at hx; omega⟩
    rcases t with _ | _ | _ | _ | t <;> simp [World.cell?, h20, rv] at hu ⊢
    all_goals exact hu
  have hEA : EdgesAt W2 W2.heap.size (some ⟨w.heap.size + 1, 0, none⟩) E0 := by
    refine ⟨fun t e he => ⟨w.heap.size + 1, 0, rfl, by omega, ?_⟩, fun h => (by cases h), fun x hx => by simp [E0] at hx; rcases hx with rfl | rfl | rfl | rfl <;> decide⟩
    rcases t with _ | _ | _ | _ | t <;> simp [World.cell?, h21, E0] at he ⊢
    all_goals subst he; exact ⟨rfl, rfl⟩
  have HM := Make_any (some ⟨w.heap.size, 0, none⟩) 4 [4, 2, 3, 1] (some ⟨w.heap.size + 1, 0, none⟩) 4 E0 W2.heap.size W2 hRA hEA (Nat.le_refl _) (by decide) (by decide)
  rw [ex_mk] at HM
  have HM : Hid (Calls Tryz.prog 9 #[.slice (some ⟨w.heap.size, 0, none⟩) 4 4, .slice (some ⟨w.heap.size + 1, 0, none⟩) 4 4] W2 fun e w' => ∃ p, e = .returned (.tuple #[.pointer p, .int .i64 0]) ∧ MkE W2 [4, 2, 3, 1] E0 p w') := HM
  have HB2 : Hid (Below w.heap.size w W2) := hb2
  clear hb2 h20 h21 hRA hEA
  go_enter Tryz.func8, Tryz.ntmps8
  go_wp2_with fail
  refine HM.out.mono ?_
  rintro e w3 ⟨p, rfl, hb3, hok, -⟩
  obtain ⟨gb, rfl, hg⟩ := hok ex_mk
  rw [ex_srt] at hg
  have hnl : ∀ p, (Sp.nx N0 E0 p).length ≤ 4096 := fun p => by
    have := List.length_filter_le (fun j => decide ((N0.getD p 0, N0.getD j 0) ∈ E0)) (List.range N0.length)
    simp [Sp.nx] at this ⊢
    have h4 : N0.length = 4 := rfl
    omega
  have HGE : Hid (∀ W : World, Below w3.heap.size w3 W → ∃ D, GrE W D gb N0 (Sp.nx N0 E0)) := fun W hW => ⟨_, hg.keep (fun k hk => hW.block k hk.2)⟩
  have HKP : Hid (∀ (W : World) (a : Nat), Below w3.heap.size w3 W → RefsAt W W.heap.size (some ⟨a, 0, none⟩) [1] → Calls Tryz.prog 20 #[.pointer (some ⟨gb, 0, none⟩), .slice (some ⟨a, 0, none⟩) 1 1, .int .u64 2] W (ReE W (some [2, 3]) 140)) := fun W a hW hr => by
    obtain ⟨D, h⟩ := HGE.out W hW
    have := pKeeps_any D gb N0 (Sp.nx N0 E0) (some ⟨a, 0, none⟩) 1 [1] 2 W h hr (by decide) (by decide) (by decide) (by decide) ex_nb hnl
    rwa [ex_keeps] at this
  have HKR : Hid (∀ (W : World) (a : Nat), Below w3.heap.size w3 W → RefsAt W W.heap.size (some ⟨a, 0, none⟩) [1] → Calls Tryz.prog 21 #[.pointer (some ⟨gb, 0, none⟩), .slice (some ⟨a, 0, none⟩) 1 1, .int .u64 3] W fun e w' => e = .returned (.tuple #[.int .u64 2, .bool true, .int .i64 0]) ∧ Below W.heap.size W w') := fun W a hW hr => by
    obtain ⟨D, h⟩ := HGE.out W hW
    refine (pKeeper_any D gb N0 (Sp.nx N0 E0) (some ⟨a, 0, none⟩) 1 [1] 3 W h hr (by decide) (by decide) (by decide) (by decide) ex_nb hnl (nx_lt N0 E0)).mono ?_
    rintro e w' ⟨q1, y, b, er, rfl, q2⟩
    obtain ⟨rfl, rfl, rfl⟩ := q2.one ex_krp
    exact ⟨rfl, q1⟩
  have HRI : Hid (∀ W : World, Below w3.heap.size w3 W → Calls Tryz.prog 19 #[.pointer (some ⟨gb, 0, none⟩)] W (RiE W [2, 3])) := fun W hW => by
    obtain ⟨D, h⟩ := HGE.out W hW
    have := Ring_any gb N0 (Sp.nx N0 E0) W h.gr ex_nb (by decide) hnl (nx_lt N0 E0)
    rwa [show N0.length = 4 from rfl, ex_rgs, show Sp.rfs N0 [1, 2] = [2, 3] from rfl] at this
  have HPA : Hid (∀ W : World, Below w3.heap.size w3 W → Calls Tryz.prog 11 #[.pointer (some ⟨gb, 0, none⟩), .int .u64 1, .int .u64 3] W (ReE W (some [1, 2, 3]) (Sp.pathE N0 1 3))) := fun W hW => by
    obtain ⟨D, h⟩ := HGE.out W hW
    have := pPath_any D gb N0 (Sp.nx N0 E0) 1 3 W h (by decide) (by decide) (by decide) ex_nb hnl (nx_lt N0 E0)
    rwa [ex_path] at this
  have HOR : Hid (∀ W : World, Below w3.heap.size w3 W → Calls Tryz.prog 18 #[.pointer (some ⟨gb, 0, none⟩)] W (OrE W none)) := fun W hW => by
    obtain ⟨D, h⟩ := HGE.out W hW
    have := Order_any gb N0 (Sp.nx N0 E0) W h.gr ex_nb (by decide) hnl
    rwa [show N0.length = 4 from rfl, ex_ord] at this
  have HPT : Hid (∀ W : World, Below w3.heap.size w3 W → Calls Tryz.prog 15 #[.pointer (some ⟨gb, 0, none⟩)] W fun e w' => ∃ a c, e = .returned (.slice a 3 c) ∧ Below W.heap.size W w') := fun W hW => by
    obtain ⟨D, h⟩ := HGE.out W hW
    have := Parts_any gb N0 (Sp.nx N0 E0) W h.grp ex_nb (by decide) hnl (nx_lt N0 E0)
    rwa [show N0.length = 4 from rfl, ex_npt] at this
  have HB3 : Hid (Below w.heap.size w w3) := belT HB2.out hb3
  have HRN : Hid (∀ W : World, RefsAt (W.alloc (.cells #[.int .u64 1] 25)) (W.alloc (.cells #[.int .u64 1] 25)).heap.size (some ⟨W.heap.size, 0, none⟩) [1]) := fun W => by
    have hn := heap_alloc_new W (.cells #[.int .u64 1] 25 (0, 0))
    refine ⟨fun t u hu => ⟨W.heap.size, 0, rfl, by rw [al_size]; omega, ?_⟩, fun h => (by cases h), fun x hx => by simp at hx; omega⟩
    rcases t with _ | t
    · simp only [World.cell?, hn]; simp [rv] at hu ⊢; exact hu
    · simp [rv] at hu
  have HZ : Hid (∀ W : World, Below w3.heap.size w3 W → Below w3.heap.size w3 (W.alloc (.cells #[.int .u64 1] 25))) := fun W hW => hW.alloc hW.size _
  clear hb3 hok hg hnl HM HGE hW2 hz2
  go_wp2_with fail
  have HC1 := HKP.out _ w3.heap.size (HZ.out w3 (Below.refl _ _)) (HRN.out w3)
  refine HC1.mono ?_
  rintro e w4 ⟨hb4, h⟩
  rcases h with ⟨h, _⟩ | ⟨l, gs, c, hl, rfl, hn1, _⟩
  · cases h
  injection hl with hl
  subst hl
  have HB4 : Hid (Below w3.heap.size w3 w4 ∧ NdR w4 gs c [2, 3]) := ⟨belT (HZ.out w3 (Below.refl _ _)) hb4, hn1⟩
  clear hb4 hn1 HC1
  go_wp2_with fail
  have HC2 := HKR.out _ w4.heap.size (HZ.out w4 HB4.out.1) (HRN.out w4)
  refine HC2.mono ?_
  rintro e w5 ⟨rfl, hb5⟩
  have hb45 : Below w4.heap.size w4 w5 := by
    have h1 : Below w4.heap.size w4 (w4.alloc (.cells #[.int .u64 1] 25)) := (Below.refl _ _).alloc (Nat.le_refl _) _
    exact belT h1 hb5
  have HB5 : Hid (Below w3.heap.size w3 w5 ∧ NdR w5 gs c [2, 3]) := ⟨belT HB4.out.1 hb45, HB4.out.2.keep (fun g hg => hb45.block g (HB4.out.2.2 g hg).lt)⟩
  clear hb5 hb45 HC2 HB4
  go_wp2_with fail
  refine (HRI.out w5 HB5.out.1).mono ?_
  rintro e w6 ⟨gs6, c6, rfl, hn6, _, hb6⟩
  have HB6 : Hid (Below w3.heap.size w3 w6 ∧ NdR w6 gs c [2, 3] ∧ NdR w6 gs6 c6 [2, 3]) := ⟨belT HB5.out.1 hb6, HB5.out.2.keep (fun g hg => hb6.block g (HB5.out.2.2 g hg).lt), hn6⟩
  clear hn6 hb6 HB5
  go_wp2_with fail
  refine (HPA.out w6 HB6.out.1).mono ?_
  rintro e w7 ⟨hb7, h⟩
  rcases h with ⟨h, _⟩ | ⟨l7, gs7, c7, hl7, rfl, hn7, _⟩
  · cases h
  injection hl7 with hl7
  subst hl7
  have HB7 : Hid (Below w3.heap.size w3 w7 ∧ NdR w7 gs c [2, 3] ∧ NdR w7 gs6 c6 [2, 3] ∧ NdR w7 gs7 c7 [1, 2, 3]) := ⟨belT HB6.out.1 hb7, HB6.out.2.1.keep (fun g hg => hb7.block g (HB6.out.2.1.2 g hg).lt), HB6.out.2.2.keep (fun g hg => hb7.block g (HB6.out.2.2.2 g hg).lt), hn7⟩
  clear hn7 hb7 HB6
  go_wp2_with fail
  refine (HOR.out w7 HB7.out.1).mono ?_
  rintro e w8 ⟨hb8, h⟩
  rcases h with ⟨_, rfl⟩ | ⟨l8, gs8, c8, h, _⟩
  rotate_left
  · cases h
  have HB8 : Hid (Below w3.heap.size w3 w8 ∧ NdR w8 gs c [2, 3] ∧ NdR w8 gs6 c6 [2, 3] ∧ NdR w8 gs7 c7 [1, 2, 3]) := ⟨belT HB7.out.1 hb8, HB7.out.2.1.keep (fun g hg => hb8.block g (HB7.out.2.1.2 g hg).lt), HB7.out.2.2.1.keep (fun g hg => hb8.block g (HB7.out.2.2.1.2 g hg).lt), HB7.out.2.2.2.keep (fun g hg => hb8.block g (HB7.out.2.2.2.2 g hg).lt)⟩
  clear hb8 HB7
  obtain ⟨g1, rfl, x10⟩ := HB8.out.2.1.at_ (i := 0) (x := 2) rfl
  obtain ⟨g2, rfl, x20⟩ := HB8.out.2.2.1.at_ (i := 0) (x := 2) rfl
  obtain ⟨g3, rfl, x31⟩ := HB8.out.2.2.2.at_ (i := 1) (x := 2) rfl
  have x11 : w8.cell? ⟨g1, 1, none⟩ = some (.int .u64 3) := by
    obtain ⟨g, e, h⟩ := HB8.out.2.1.at_ (i := 1) (x := 3) rfl
    injection e with e; subst e; exact h
  have ad1 : adr (some g1) = some ⟨g1, 0, none⟩ := rfl
  have ad2 : adr (some g2) = some ⟨g2, 0, none⟩ := rfl
  have ad3 : adr (some g3) = some ⟨g3, 0, none⟩ := rfl
  have HC := HPT.out w8 HB8.out.1
  have HCC : Hid (Calls Tryz.prog 15 #[.pointer (some ⟨gb, 0, none⟩)] w8 fun e w' => ∃ a c, e = .returned (.slice a 3 c) ∧ Below w8.heap.size w8 w') := HC
  clear HC
  go_wp2_with fail
  refine HCC.out.mono ?_
  rintro e w9 ⟨a9, c9, rfl, hb9⟩
  have HF : Hid (Below w.heap.size w w9) := belT (belT HB3.out HB8.out.1) hb9
  clear hb9
  go_wp2_with fail
  go_ret
  exact ⟨rfl, HF.out⟩
end Go.Proofs.YtikhpbidbcfedaaGreat

/- Plain mathematics: a shortest way, its ends, and what is reached. -/
namespace Go.Proofs.YtikhpbidbcfedaaGreat
open Go.RowKit Go.ChangeMaps

section
variable {N : List Int} {nx : Nat → List Nat} (hN : N.Pairwise (· < ·)) (hb : ∀ i, ∀ x ∈ nx i, x < N.length) (hlt : ∀ i, (nx i).Pairwise (· < ·))
include hN hb hlt
theorem pw1 {a b : Nat} {x y : Int} {W : List Int} (hx : N[a]? = some x) (hy : N[b]? = some y) (h : Sp.path N nx x y = some W) : ∃ p, W = Sp.rfs N p ∧ WayF nx N.length [a] b p := by
  obtain ⟨h1, h2⟩ := path_at hN hb hlt hx hy
  by_cases hin : b ∈ (Bf.all nx (-1) N.length [a]).ord
  · have e := (h2 hin).symm.trans h
    injection e with e
    have H : BI nx (-1) N.length [a] (Bf.all nx (-1) N.length [a]) (Bf.all nx (-1) N.length [a]).ord.length [] := all_BI hlt hb (by simpa using (idx_at hN hx).2.2)
    exact ⟨_, e.symm, (chn_way H _ b hin (Nat.le_refl _)).1⟩
  · rw [h1 hin] at h; cases h
theorem pw2 {a b : Nat} {x y : Int} (hx : N[a]? = some x) (hy : N[b]? = some y) {f : Nat → Nat} {n : Nat} (h0 : f 0 = a) (hn : f n = b) (hf : ∀ i, i < n → f (i + 1) ∈ nx (f i)) : ∃ W, Sp.path N nx x y = some W ∧ W.length ≤ n + 1 := by
  have H : BI nx (-1) N.length [a] (Bf.all nx (-1) N.length [a]) (Bf.all nx (-1) N.length [a]).ord.length [] := all_BI hlt hb (by simpa using (idx_at hN hx).2.2)
  have hl := walk_lv H h0 hf n (Nat.le_refl _)
  rw [hn] at hl
  refine ⟨_, (path_at hN hb hlt hx hy).2 hl.1, ?_⟩
  have := chn_lv H hl.1
  simp only [Sp.rfs, List.length_map, List.length_reverse]
  omega
omit hN hb hlt in
theorem WayF.fn {L a b : Nat} {p : List Nat} (h : WayF nx L [a] b p) : p.getD 0 0 = a ∧ p.getD (p.length - 1) 0 = b ∧ ∀ i, i < p.length - 1 → p.getD (i + 1) 0 ∈ nx (p.getD i 0) := by
  have hp := h.pos
  refine ⟨?_, by rw [List.getD_eq_getElem?_getD, h.la]; rfl, fun i hi => ?_⟩
  · have e : p[0]? = some (p[0]'hp) := List.getElem?_eq_getElem hp
    have := h.hd _ e
    rw [List.getD_eq_getElem?_getD, e]
    simpa using this
  · have e1 : p[i]? = some (p[i]'(by omega)) := List.getElem?_eq_getElem (by omega)
    have e2 : p[i + 1]? = some (p[i + 1]'(by omega)) := List.getElem?_eq_getElem (by omega)
    rw [List.getD_eq_getElem?_getD, List.getD_eq_getElem?_getD, e1, e2]
    exact h.ed i _ _ e1 e2
theorem pw_tri {a b c : Nat} {x y z : Int} (hx : N[a]? = some x) (hy : N[b]? = some y) (hz : N[c]? = some z) {W X : List Int} (hW : Sp.path N nx x y = some W) (hX : Sp.path N nx z y = some X) {f : Nat → Nat} {n : Nat} (h0 : f 0 = a) (hn : f n = c) (hf : ∀ i, i < n → f (i + 1) ∈ nx (f i)) : W.length ≤ n + X.length := by
  obtain ⟨q, rfl, hq⟩ := pw1 hN hb hlt hz hy hX
  obtain ⟨q0, q1, q2⟩ := hq.fn
  have hp := hq.pos
  obtain ⟨W', hW', hl⟩ := pw2 hN hb hlt hx hy (f := fun j => if j ≤ n then f j else q.getD (j - n) 0) (n := n + (q.length - 1)) (by simp [h0])
    (by
      by_cases h : q.length - 1 = 0
      · rw [h] at q1
        simp only [h, Nat.add_zero, Nat.le_refl, if_true, hn, ← q1, ← q0]
      · rw [if_neg (by omega), show n + (q.length - 1) - n = q.length - 1 by omega]; exact q1)
    (fun i hi => by
      by_cases h : i < n
      · simp only [if_pos (show i + 1 ≤ n by omega), if_pos (show i ≤ n by omega)]; exact hf i h
      · rw [if_neg (show ¬ i + 1 ≤ n by omega), show i + 1 - n = (i - n) + 1 by omega]
        have e : (if i ≤ n then f i else q.getD (i - n) 0) = q.getD (i - n) 0 := by
          split
          · have : i = n := by omega
            subst this; rw [hn, Nat.sub_self, q0]
          · rfl
        show q.getD (i - n + 1) 0 ∈ nx (if i ≤ n then f i else q.getD (i - n) 0)
        rw [e]; exact q2 (i - n) (by omega))
  rw [hW] at hW'
  injection hW' with e
  subst e
  simp only [Sp.rfs, List.length_map] at hl ⊢
  omega
theorem ways_step {a b : Nat} {x y : Int} (hx : N[a]? = some x) (hy : N[b]? = some y) {W : List Int} (hW : Sp.path N nx x y = some W) {i : Nat} {u v : Int} (hu : W[i]? = some u) (hv : W[i + 1]? = some v) :
    ∃ c d : Nat, N[c]? = some u ∧ N[d]? = some v ∧ d ∈ nx c ∧ (∃ X, Sp.path N nx v y = some X ∧ X.length = W.length - i - 1) ∧ u ∉ W.take i := by
  obtain ⟨p, rfl, hp⟩ := pw1 hN hb hlt hx hy hW
  obtain ⟨p0, p1, p2⟩ := hp.fn
  have hpos := hp.pos
  have hget : ∀ {t : Nat} {v : Int}, (Sp.rfs N p)[t]? = some v → ∃ j, p[t]? = some j ∧ N[j]? = some v := fun {t v} h => by
    simp only [Sp.rfs, List.getElem?_map, Option.map_eq_some_iff] at h
    obtain ⟨j, hj, e⟩ := h
    have hjl := hp.bd j (List.mem_of_getElem? hj)
    refine ⟨j, hj, ?_⟩
    rw [List.getD_eq_getElem?_getD, List.getElem?_eq_getElem hjl] at e
    rw [List.getElem?_eq_getElem hjl, ← e]; rfl
  obtain ⟨c, hc, hcu⟩ := hget hu
  obtain ⟨d, hd, hdv⟩ := hget hv
  have hil : i + 1 < p.length := (List.getElem?_eq_some_iff.1 hd).1
  have hlen : (Sp.rfs N p).length = p.length := by simp [Sp.rfs]
  refine ⟨c, d, hcu, hdv, hp.ed i c d hc hd, ?_, ?_⟩
  · obtain ⟨X, hX, hXl⟩ := pw2 hN hb hlt hdv hy (f := fun j => p.getD (i + 1 + j) 0) (n := p.length - 2 - i) (by simp [List.getD_eq_getElem?_getD, hd]) (by show p.getD _ 0 = b; rw [show i + 1 + (p.length - 2 - i) = p.length - 1 by omega]; exact p1) (fun j hj => by show p.getD (i + 1 + (j + 1)) 0 ∈ _; exact p2 (i + 1 + j) (by omega))
    have h2 := pw_tri hN hb hlt hx hy hdv hW hX (f := fun j => p.getD j 0) (n := i + 1) p0 (by simp [List.getD_eq_getElem?_getD, hd]) (fun j hj => p2 j (by omega))
    rw [hlen] at h2
    exact ⟨X, hX, by rw [hlen]; omega⟩
  · intro hm
    obtain ⟨t, ht, e⟩ := List.mem_iff_getElem.1 hm
    have ht2 : t < i := by rw [List.length_take] at ht; omega
    have e2 : (Sp.rfs N p)[t]? = some u := by
      rw [List.getElem_take] at e
      rw [← e]; exact List.getElem?_eq_getElem _
    obtain ⟨c', hc', hcu'⟩ := hget e2
    have e3 : c' = c := by rw [← (idx_at hN hcu').2.1, ← (idx_at hN hcu).2.1]
    subst e3
    have := nd_at hp.nd hc' hc
    omega
theorem ways_ends {a b : Nat} {x y : Int} (hx : N[a]? = some x) (hy : N[b]? = some y) {W : List Int} (hW : Sp.path N nx x y = some W) : 0 < W.length ∧ W[0]? = some x ∧ W[W.length - 1]? = some y := by
  obtain ⟨p, rfl, hp⟩ := pw1 hN hb hlt hx hy hW
  obtain ⟨p0, p1, p2⟩ := hp.fn
  have hpos := hp.pos
  have hlen : (Sp.rfs N p).length = p.length := by simp [Sp.rfs]
  refine ⟨by rw [hlen]; exact hpos, ?_, ?_⟩
  · rw [List.getD_eq_getElem?_getD, List.getElem?_eq_getElem hpos] at p0
    simp only [Option.getD_some] at p0
    simp [Sp.rfs, List.getElem?_eq_getElem hpos, p0, List.getD_eq_getElem?_getD, hx]
  · rw [hlen]
    simp [Sp.rfs, hp.la, List.getD_eq_getElem?_getD, hy]
theorem ways_reach {x y : Int} : (Sp.path N nx x y = none → Sp.reach N nx [x] = none ∨ y ∉ (Sp.reach N nx [x]).getD []) ∧ ∀ W, Sp.path N nx x y = some W → (∃ a b : Nat, N[a]? = some x ∧ N[b]? = some y) ∧ ∃ R, Sp.reach N nx [x] = some R ∧ y ∈ R := by
  have hmem : ∀ {v : Int}, v ∈ N → ∃ j, N[j]? = some v := fun {v} h => by
    obtain ⟨j, hj, e⟩ := List.mem_iff_getElem.1 h
    exact ⟨j, by rw [← e]; exact List.getElem?_eq_getElem hj⟩
  by_cases hx : x ∈ N
  · obtain ⟨a, ha⟩ := hmem hx
    have ea := (idx_at hN ha).2.1
    have er : Sp.reach N nx [x] = some (Sp.rfs N (Sp.upn N.length (Bf.all nx (-1) N.length [a]).ord)) := by simp [Sp.reach, Sp.pls, hx, ea]
    have hin : ∀ {b : Nat}, N[b]? = some y → (y ∈ Sp.rfs N (Sp.upn N.length (Bf.all nx (-1) N.length [a]).ord) ↔ b ∈ (Bf.all nx (-1) N.length [a]).ord) := fun {b} hb' => by
      simp only [Sp.rfs, List.mem_map, upn_mem]
      constructor
      · rintro ⟨j, ⟨h1, h2⟩, e⟩
        have hj : N[j]? = some y := by
          rw [List.getD_eq_getElem?_getD, List.getElem?_eq_getElem h1] at e
          rw [List.getElem?_eq_getElem h1, ← e]; rfl
        have e3 : j = b := by rw [← (idx_at hN hj).2.1, ← (idx_at hN hb').2.1]
        exact e3 ▸ h2
      · intro h
        exact ⟨b, ⟨(idx_at hN hb').2.2, h⟩, by rw [List.getD_eq_getElem?_getD, hb']; rfl⟩
    refine ⟨fun h => .inr ?_, fun W hW => ?_⟩
    · rw [er, Option.getD_some]
      intro hy
      by_cases hyN : y ∈ N
      · obtain ⟨b, hb'⟩ := hmem hyN
        have := (path_at hN hb hlt ha hb').2 ((hin hb').1 hy)
        rw [this] at h; cases h
      · obtain ⟨j, hj, e⟩ := List.mem_map.1 hy
        have hjl := (upn_mem.1 hj).1
        rw [List.getD_eq_getElem?_getD, List.getElem?_eq_getElem hjl] at e
        exact hyN (by rw [← e]; exact List.getElem_mem hjl)
    · have hyN : y ∈ N := by
        unfold Sp.path at hW
        split at hW
        · rename_i h; exact h.2
        · cases hW
      obtain ⟨b, hb'⟩ := hmem hyN
      refine ⟨⟨a, b, ha, hb'⟩, _, er, (hin hb').2 ?_⟩
      apply Classical.byContradiction; intro h
      rw [(path_at hN hb hlt ha hb').1 h] at hW; cases hW
  · refine ⟨fun _ => .inl (by simp [Sp.reach, Sp.pls, hx]), fun W hW => ?_⟩
    unfold Sp.path at hW
    rw [if_neg (fun h => hx h.1)] at hW; cases hW
end
theorem upn_le2 (L : Nat) (l : List Nat) : (Sp.upn L l).length ≤ L := by
  have := List.length_filter_le (fun i => decide (i ∈ l)) (List.range L); simpa [Sp.upn] using this
theorem reach_le2 {N : List Int} {nx : Nat → List Nat} {l : List Int} (hn : N.length ≤ 4096) : ((Sp.reach N nx l).getD []).length ≤ 8192 := by
  unfold Sp.reach
  cases Sp.pls N l with
  | none => simp
  | some ps => simp only [Option.map_some, Option.getD_some, rfs_len2]; have := upn_le2 N.length (Bf.all nx (-1) N.length ps).ord; omega
end Go.Proofs.YtikhpbidbcfedaaGreat

