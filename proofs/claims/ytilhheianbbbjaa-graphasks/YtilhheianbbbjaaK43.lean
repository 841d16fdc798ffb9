/- tenonlaw14.GraphAsks returns true. -/
import Derived.Test.YtilhheianbbbjaaK33
import Derived.Test.YtilhheianbbbjaaK39
import Derived.Test.YtilhheianbbbjaaK40
import Derived.Test.YtilhheianbbbjaaK42
import Derived.Test.YtilhheianbbbjaaK41
namespace Go.Proofs.Ytilhheianbbbjaa
open Go.RowKit Go.ChangeMaps

theorem RefsAt.mono2 {w : World} {B B' : Nat} {a : Option Addr} {l : List Int} (h : RefsAt w B a l) (hb : B ≤ B') : RefsAt w B' a l := ⟨h.row.same (fun _ _ => rfl) (fun _ hk => Nat.lt_of_lt_of_le hk hb), h.nil, h.bd⟩
def AnE (W : World) (l : List Int) (er : Int) (e : Ending) (w' : World) : Prop := ∃ gs c, e = .returned (.tuple #[.slice (adr gs) l.length c, .int .i64 er]) ∧ NdR w' gs c l ∧ (∀ g, gs = some g → W.heap.size ≤ g) ∧ Below W.heap.size W w'
theorem ReE.an {W w' : World} {r : Option (List Int)} {er : Int} {e : Ending} (h : ReE W r er e w') : AnE W (r.getD []) (if r = none then er else 0) e w' := by
  obtain ⟨hb, h⟩ := h
  rcases h with ⟨rfl, rfl⟩ | ⟨l, gs, c, rfl, rfl, h1, h2⟩
  · exact ⟨none, 0, rfl, ⟨fun _ => ⟨rfl, rfl⟩, fun g hg => by cases hg⟩, (fun g hg => by cases hg), hb⟩
  · exact ⟨gs, c, rfl, h1, h2, hb⟩
theorem upn_le (L : Nat) (l : List Nat) : (Sp.upn L l).length ≤ L := by
  have := List.length_filter_le (fun i => decide (i ∈ l)) (List.range L); simpa [Sp.upn] using this
theorem rfs_len (N : List Int) (l : List Nat) : (Sp.rfs N l).length = l.length := by simp [Sp.rfs]
theorem lst_le {nx : Nat → List Nat} {d : Nat → Int} {b : Nat} : ∀ f n, (Sp.lst nx d b f n).length ≤ f + 1
  | 0, n => by simp [Sp.lst]
  | f + 1, n => by
    rw [Sp.lst]
    split
    · simp
    · have := lst_le (nx := nx) (d := d) (b := b) f (Sp.stp nx d n); simp; omega
theorem reach_le {N : List Int} {nx : Nat → List Nat} {l : List Int} (hn : N.length ≤ 4096) : ((Sp.reach N nx l).getD []).length ≤ 8192 := by
  unfold Sp.reach
  cases Sp.pls N l with
  | none => simp
  | some ps => simp only [Option.map_some, Option.getD_some, rfs_len]; have := upn_le N.length (Bf.all nx (-1) N.length ps).ord; omega
theorem keeps_le {N : List Int} {nx : Nat → List Nat} {l : List Int} {x : Int} (hn : N.length ≤ 4096) : ((Sp.keeps N nx l x).getD []).length ≤ 8192 := by
  unfold Sp.keeps
  cases Sp.pls N l with
  | none => simp
  | some ps =>
    dsimp only
    split
    · simp only [Option.getD_some, rfs_len]
      have := upn_le N.length (Sp.wo (Bf.all nx (N.idxOf x : Int) N.length ps) (Bf.all nx (-1) N.length ps).ord); omega
    · simp
theorem path_le {N : List Int} {nx : Nat → List Nat} {x y : Int} (hn : N.length ≤ 4096) (hb : ∀ i, ∀ x ∈ nx i, x < N.length) (hlt : ∀ i, (nx i).Pairwise (· < ·)) : ((Sp.path N nx x y).getD []).length ≤ 8192 := by
  unfold Sp.path
  split
  · rename_i h
    dsimp only
    split
    · rename_i hin
      have hx := List.idxOf_lt_length_of_mem h.1
      have hy := List.idxOf_lt_length_of_mem h.2
      have H := twoW nx N.length _ _ hb hlt hx hy
      have h1 := (H.ds hn).bd (N.idxOf x)
      simp only [Bf.dst, if_pos hin] at h1
      simp only [Option.getD_some, rfs_len]
      exact Nat.le_trans (lst_le _ _) (by omega)
    · simp
  · simp

set_option maxRecDepth 100000 in
set_option maxHeartbeats 16000000 in
theorem GraphAsks_any (a : Option Addr) (cap : Nat) (nodes : List Int) (a2 : Option Addr) (cap2 : Nat) (E : List (Int × Int)) (a3 : Option Addr) (cap3 : Nat) (fr : List Int) (x y : Int) (w : World)
    (h1 : RefsAt w w.heap.size a nodes) (h2 : EdgesAt w w.heap.size a2 E) (h3 : RefsAt w w.heap.size a3 fr) (hx : 0 ≤ x ∧ x < 18446744073709551616) (hy : 0 ≤ y ∧ y < 18446744073709551616) (hl1 : nodes.length * 8 ≤ 140737488355328) (hl2 : E.length * 16 ≤ 140737488355328) (hl3 : fr.length * 8 ≤ 140737488355328) :
    Calls Try.prog 3 #[.slice a nodes.length cap, .slice a2 E.length cap2, .slice a3 fr.length cap3, .int .u64 x, .int .u64 y] w fun e w' => e = .returned (.bool true) ∧ Below w.heap.size w w' := by
  have HF3 : Hid (RefsAt w w.heap.size a3 fr) := h3
  have hmd := made_any a cap nodes a2 cap2 E w.heap.size w h1 h2 (Nat.le_refl _) hl1 hl2
  clear h1 h2 h3 hl1 hl2
  go_enter Try.func3, Try.ntmps3
  go_wp2_with fail
  refine hmd.mono ?_
  rintro e w1 ⟨p, d, rfl, hmE⟩
  have HM : Hid (MdE w nodes E p d w1) := hmE
  have H1 : Hid (Below w.heap.size w w1) := hmE.1
  clear hmE hmd
  by_cases hk : Sp.mkE nodes E ≠ 0
  · obtain ⟨rfl, rfl⟩ := HM.out.2.1 hk
    clear hk
    go_wp2_with fail
    go_ret
    exact ⟨rfl, H1.out⟩
  have hk0 : Sp.mkE nodes E = 0 := Classical.byContradiction fun h => hk h
  clear hk
  obtain ⟨gb, db, rfl, rfl, hGE, hRE⟩ := HM.out.2.2 hk0
  have hRN : nodes.length ≤ 4096 ∧ nodes.Nodup := by
    refine ⟨?_, ?_⟩
    · apply Classical.byContradiction; intro h
      unfold Sp.mkE at hk0; rw [if_pos (.inl (by omega))] at hk0; cases hk0
    · apply Classical.byContradiction; intro h
      unfold Sp.mkE at hk0
      split at hk0
      · cases hk0
      · rw [if_pos (.inr h)] at hk0; cases hk0
  have hN0 : (Sp.srt nodes).length ≤ 4096 ∧ (Sp.srt nodes).Pairwise (· < ·) := ⟨by rw [srt_len]; exact hRN.1, srt_lt hRN.2⟩
  obtain ⟨N, hN⟩ : ∃ N, Sp.srt nodes = N := ⟨_, rfl⟩
  obtain ⟨nx, hnx⟩ : ∃ nx, Sp.nx N E = nx := ⟨_, rfl⟩
  rw [hN] at hGE hRE hN0
  rw [hnx] at hGE hRE
  have hNX : (∀ i, ∀ x ∈ nx i, x < N.length) ∧ (∀ p, (nx p).length ≤ 4096) ∧ ∀ i, (nx i).Pairwise (· < ·) := by
    rw [← hnx]
    exact ⟨fun t j hj => (nx_mem.1 hj).1, fun t => Nat.le_trans (by unfold Sp.nx; exact List.length_filter_le _ _) (by simp; exact hN0.1), fun i => List.Pairwise.filter _ List.pairwise_lt_range⟩
  have hh := hand_any a3 cap3 fr w.heap.size w1 (HF3.out.keep H1.out) H1.out.size hl3
  have HGG : Hid (∀ W, Below w1.heap.size w1 W → GrE W (fun k => w.heap.size ≤ k ∧ k < w1.heap.size) gb N nx ∧ RgE W (fun k => w.heap.size ≤ k ∧ k < w1.heap.size) db N nx ∧ RefsAt W W.heap.size a3 fr) := fun W hW => ⟨hGE.keep (fun k hk => hW.block k hk.2), hRE.keep (fun k hk => hW.block k hk.2), ((HF3.out.keep H1.out).mono2 H1.out.size).keep hW |>.mono2 hW.size⟩
  have HNN : Hid ((N.length ≤ 4096 ∧ N.Pairwise (· < ·)) ∧ (∀ i, ∀ x ∈ nx i, x < N.length) ∧ (∀ p, (nx p).length ≤ 4096) ∧ ∀ i, (nx i).Pairwise (· < ·)) := ⟨hN0, hNX⟩
  clear hGE hRE hk0 HM hRN hN hnx hN0 hNX
  go_wp2_with fail
  refine hh.mono ?_
  rintro e w2 ⟨g, c, rfl, hgl, hown, hb2⟩
  have hgl2 := hown.lt
  have hcc : fr.length ≤ c := by
    obtain ⟨cur, _, h2, _⟩ := hown.blk
    omega
  have HO : Hid (OwnR w2 25 g (fr.length + 1) c (rv (fr ++ [99]))) := hown
  have HW : Hid (∀ W, Below w2.heap.size w2 W → Below w1.heap.size w1 W ∧ Below w.heap.size w W ∧ RefsAt W W.heap.size (some ⟨g, 0, none⟩) fr) := fun W hW => by
    have hb : Below w1.heap.size w1 W := belT hb2 hW
    refine ⟨hb, belT H1.out hb, fun t u hu => ?_, fun _ => .inr ⟨g, 0, rfl⟩, HF3.out.bd⟩
    refine ⟨g, 0, rfl, Nat.lt_of_lt_of_le hgl2 hW.size, ?_⟩
    have := (hown.keep (hW.block g hgl2)).cell (t := t) (x := u) (by
      have ht := (List.getElem?_eq_some_iff.1 hu).1
      rw [List.length_map] at ht
      simp only [rv, List.map_append]
      rw [List.getElem?_append_left (by simpa using ht)]
      exact hu)
    simpa using this
  obtain ⟨L1, hL1⟩ : ∃ l, (Sp.reach N nx fr).getD [] = l := ⟨_, rfl⟩
  obtain ⟨L2, hL2⟩ : ∃ l, (Sp.path N nx x y).getD [] = l := ⟨_, rfl⟩
  obtain ⟨L3, hL3⟩ : ∃ l, (Sp.keeps N nx fr x).getD [] = l := ⟨_, rfl⟩
  obtain ⟨e1, he1⟩ : ∃ l, (if Sp.reach N nx fr = none then (140 : Int) else 0) = l := ⟨_, rfl⟩
  obtain ⟨e2, he2⟩ : ∃ l, (if Sp.path N nx x y = none then Sp.pathE N x y else 0) = l := ⟨_, rfl⟩
  obtain ⟨e3, he3⟩ : ∃ l, (if Sp.keeps N nx fr x = none then (140 : Int) else 0) = l := ⟨_, rfl⟩
  have HC1 : Hid (∀ W c', Below w2.heap.size w2 W → Calls Try.prog 6 #[.pointer (some ⟨gb, 0, none⟩), .slice (some ⟨g, 0, none⟩) fr.length c'] W (AnE W L1 e1)) := fun W c' hW => (pReach_any _ gb N nx _ c' fr W (HGG.out W (HW.out W hW).1).1 (HW.out W hW).2.2 hl3 HNN.out.1.1 HNN.out.2.1 HNN.out.2.2.1).mono fun _ _ h => by rw [← hL1, ← he1]; exact h.an
  have HC2 : Hid (∀ W, Below w2.heap.size w2 W → Calls Try.prog 7 #[.pointer (some ⟨db, 0, none⟩), .slice a3 fr.length cap3] W (AnE W L1 e1)) := fun W hW => (rReach_any _ db N nx _ cap3 fr W (HGG.out W (HW.out W hW).1).2.1 (HGG.out W (HW.out W hW).1).2.2 hl3 HNN.out.1.1 HNN.out.1.2 HNN.out.2.1 HNN.out.2.2.1).mono fun _ _ h => by rw [← hL1, ← he1]; exact h.an
  have HC3 : Hid (∀ W, Below w2.heap.size w2 W → Calls Try.prog 8 #[.pointer (some ⟨gb, 0, none⟩), .int .u64 x, .int .u64 y] W (AnE W L2 e2)) := fun W hW => (pPath_any _ gb N nx x y W (HGG.out W (HW.out W hW).1).1 hx hy HNN.out.1.1 HNN.out.2.1 HNN.out.2.2.1 HNN.out.2.2.2).mono fun _ _ h => by rw [← hL2, ← he2]; exact h.an
  have HC4 : Hid (∀ W, Below w2.heap.size w2 W → Calls Try.prog 9 #[.pointer (some ⟨db, 0, none⟩), .int .u64 x, .int .u64 y] W (AnE W L2 e2)) := fun W hW => (rPath_any _ db N nx x y W (HGG.out W (HW.out W hW).1).2.1 HNN.out.1.1 HNN.out.1.2 HNN.out.2.1 HNN.out.2.2.1 HNN.out.2.2.2).mono fun _ _ h => by rw [← hL2, ← he2]; exact h.an
  have HC5 : Hid (∀ W c', Below w2.heap.size w2 W → Calls Try.prog 10 #[.pointer (some ⟨gb, 0, none⟩), .slice (some ⟨g, 0, none⟩) fr.length c', .int .u64 x] W (AnE W L3 e3)) := fun W c' hW => (pKeeps_any _ gb N nx _ c' fr x W (HGG.out W (HW.out W hW).1).1 (HW.out W hW).2.2 hx.1 hx.2 hl3 HNN.out.1.1 HNN.out.2.1 HNN.out.2.2.1).mono fun _ _ h => by rw [← hL3, ← he3]; exact h.an
  have HC6 : Hid (∀ W, Below w2.heap.size w2 W → Calls Try.prog 11 #[.pointer (some ⟨db, 0, none⟩), .slice a3 fr.length cap3, .int .u64 x] W (AnE W L3 e3)) := fun W hW => (rKeeps_any _ db N nx _ cap3 fr x W (HGG.out W (HW.out W hW).1).2.1 (HGG.out W (HW.out W hW).1).2.2 hl3 HNN.out.1.1 HNN.out.1.2 HNN.out.2.1 HNN.out.2.2.1 HNN.out.2.2.2).mono fun _ _ h => by rw [← hL3, ← he3]; exact h.an
  have HC7 : Hid (∀ W c', Below w2.heap.size w2 W → Calls Try.prog 12 #[.pointer (some ⟨gb, 0, none⟩), .slice (some ⟨g, 0, none⟩) fr.length c', .int .u64 y] W (KrE W N nx fr y)) := fun W c' hW => pKeeper_any _ gb N nx _ c' fr y W (HGG.out W (HW.out W hW).1).1 (HW.out W hW).2.2 hy.1 hy.2 hl3 HNN.out.1.1 HNN.out.2.1 HNN.out.2.2.1 HNN.out.2.2.2
  have HC8 : Hid (∀ W, Below w2.heap.size w2 W → Calls Try.prog 13 #[.pointer (some ⟨db, 0, none⟩), .slice a3 fr.length cap3, .int .u64 y] W (KrE W N nx fr y)) := fun W hW => rKeeper_any _ db N nx _ cap3 fr y W (HGG.out W (HW.out W hW).1).2.1 (HGG.out W (HW.out W hW).1).2.2 hl3 HNN.out.1.1 HNN.out.1.2 HNN.out.2.1 HNN.out.2.2.1 HNN.out.2.2.2
  have HC9 : Hid (∀ W, Below w2.heap.size w2 W → Calls Try.prog 15 #[.slice (some ⟨g, 0, none⟩) (fr.length + 1) c, .slice a3 fr.length cap3] W fun e w' => e = .returned (.bool true) ∧ Below W.heap.size W w') := fun W hW => left_any g c a3 cap3 fr w.heap.size W (HF3.out.keep (HW.out W hW).2.1) (HW.out W hW).2.1.size (HO.out.keep (hW.block g HO.out.lt)) hl3
  have HLE : Hid (L1.length ≤ 8192 ∧ L2.length ≤ 8192 ∧ L3.length ≤ 8192) := ⟨by rw [← hL1]; exact reach_le HNN.out.1.1, by rw [← hL2]; exact path_le HNN.out.1.1 HNN.out.2.1 HNN.out.2.2.2, by rw [← hL3]; exact keeps_le HNN.out.1.1⟩
  have H2 : Hid (∀ W, Below w2.heap.size w2 W → Below w.heap.size w W) := fun W hW => (HW.out W hW).2.1
  clear hL1 hL2 hL3 he1 he2 he3 hown hb2 hgl hh HGG HW hgl2 HO HNN HF3 H1 hx hy
  go_wp2_with fail
  go_loopw [15] (fun v15 wr => ∃ i : Nat, v15 = .int .i64 i ∧ i ≤ 2 ∧ Hid (Below w2.heap.size w2 wr)) (fun v15 _ => 2 - (intOf v15).toNat)
  case atStart => exact ⟨0, rfl, by omega, Below.refl _ _⟩
  case round =>
    obtain ⟨i, rfl, hi, HS⟩ := hrel
    by_cases hlt : i < 2
    · have hltz : (i : Int) < 2 := by omega
      have HQ : Hid (Calls Try.prog 6 #[.pointer (some ⟨gb, 0, none⟩), .slice (some ⟨g, 0, none⟩) fr.length c] wr (AnE wr L1 e1)) := HC1.out wr c HS.out
      go_wp2_with fail
      refine HQ.out.mono ?_
      rintro e wa ⟨ga, ca, rfl, hna, hla, hba⟩
      have HA : Hid (Below w2.heap.size w2 wa ∧ NdR wa ga ca L1 ∧ (∀ g, ga = some g → w2.heap.size ≤ g)) := ⟨belT HS.out hba, hna, fun g hg => Nat.le_trans HS.out.size (hla g hg)⟩
      clear hna hla hba HQ
      have HQ := HC2.out wa HA.out.1
      go_wp2_with fail
      refine HQ.mono ?_
      rintro e wb ⟨gb2, cb2, rfl, hnb, hlb, hbb⟩
      have HB : Hid (Below wa.heap.size wa wb ∧ NdR wb gb2 cb2 L1 ∧ (∀ g, gb2 = some g → wa.heap.size ≤ g)) := ⟨hbb, hnb, hlb⟩
      clear hnb hlb hbb HQ
      have HQ := HC3.out wb (belT HA.out.1 HB.out.1)
      go_wp2_with fail
      refine HQ.mono ?_
      rintro e wc ⟨gc, cc, rfl, hnc, hlc, hbc⟩
      have HCC : Hid (Below wb.heap.size wb wc ∧ NdR wc gc cc L2 ∧ (∀ g, gc = some g → wb.heap.size ≤ g)) := ⟨hbc, hnc, hlc⟩
      clear hnc hlc hbc HQ
      have HB2 : Hid (Below w2.heap.size w2 wc) := belT (belT HA.out.1 HB.out.1) HCC.out.1
      have HQ := HC4.out wc (HB2.out)
      go_wp2_with fail
      refine HQ.mono ?_
      rintro e wd ⟨gd, cd, rfl, hn', hl', hb'⟩
      have HDD : Hid (Below wc.heap.size wc wd ∧ NdR wd gd cd L2 ∧ (∀ g, gd = some g → wc.heap.size ≤ g)) := ⟨hb', hn', hl'⟩
      clear hn' hl' hb' HQ
      have HQ := (fun W => HC5.out W c) wd (belT HB2.out HDD.out.1)
      go_wp2_with fail
      refine HQ.mono ?_
      rintro e we ⟨ge, ce, rfl, hn', hl', hb'⟩
      have HE : Hid (Below wd.heap.size wd we ∧ NdR we ge ce L3 ∧ (∀ g, ge = some g → wd.heap.size ≤ g)) := ⟨hb', hn', hl'⟩
      clear hn' hl' hb' HQ
      have HQ := HC6.out we (belT (belT HB2.out HDD.out.1) HE.out.1)
      go_wp2_with fail
      refine HQ.mono ?_
      rintro e wf ⟨gf, cf, rfl, hn', hl', hb'⟩
      have HF : Hid (Below we.heap.size we wf ∧ NdR wf gf cf L3 ∧ (∀ g, gf = some g → we.heap.size ≤ g)) := ⟨hb', hn', hl'⟩
      clear hn' hl' hb' HQ
      have HB3 : Hid (Below w2.heap.size w2 wf) := belT (belT (belT HB2.out HDD.out.1) HE.out.1) HF.out.1
      have HQ := HC7.out wf c HB3.out
      go_wp2_with fail
      refine HQ.mono ?_
      rintro e wg ⟨hbg, y1, b1, er1, rfl, hk1⟩
      have HG1 : Hid (Below wf.heap.size wf wg ∧ KrP N nx fr y y1 b1 er1) := ⟨hbg, hk1⟩
      clear hbg hk1 HQ
      have HQ := HC8.out wg (belT HB3.out HG1.out.1)
      go_wp2_with fail
      refine HQ.mono ?_
      rintro e wh ⟨hbh, y2, b2, er2, rfl, hk2⟩
      obtain ⟨rfl, rfl, rfl⟩ := hk2.one HG1.out.2
      have HB4 : Hid (Below w2.heap.size w2 wh) := belT (belT HB3.out HG1.out.1) hbh
      have bfh : Below wf.heap.size wf wh := belT HG1.out.1 hbh
      have beh := belT HF.out.1 bfh
      have bdh := belT HE.out.1 beh
      have bch := belT HDD.out.1 bdh
      have bbh := belT HCC.out.1 bch
      have bah := belT HB.out.1 bbh
      have HRW : Hid ((NdR wh ga ca L1 ∧ NdR wh gb2 cb2 L1) ∧ (NdR wh gc cc L2 ∧ NdR wh gd cd L2) ∧ (NdR wh ge ce L3 ∧ NdR wh gf cf L3)) :=
        ⟨⟨HA.out.2.1.keep (fun g hg => bah.block g (HA.out.2.1.2 g hg).lt), HB.out.2.1.keep (fun g hg => bbh.block g (HB.out.2.1.2 g hg).lt)⟩, ⟨HCC.out.2.1.keep (fun g hg => bch.block g (HCC.out.2.1.2 g hg).lt), HDD.out.2.1.keep (fun g hg => bdh.block g (HDD.out.2.1.2 g hg).lt)⟩, HE.out.2.1.keep (fun g hg => beh.block g (HE.out.2.1.2 g hg).lt), HF.out.2.1.keep (fun g hg => bfh.block g (HF.out.2.1.2 g hg).lt)⟩
      have sab : wa.heap.size ≤ wb.heap.size := HB.out.1.size
      have sbc : wb.heap.size ≤ wc.heap.size := HCC.out.1.size
      have scd : wc.heap.size ≤ wd.heap.size := HDD.out.1.size
      have sde : wd.heap.size ≤ we.heap.size := HE.out.1.size
      have s2a : w2.heap.size ≤ wa.heap.size := HA.out.1.size
      have HAP : Hid ((∀ g, ga = some g → w2.heap.size ≤ g ∧ gc ≠ some g ∧ gd ≠ some g ∧ ge ≠ some g ∧ gf ≠ some g) ∧ (∀ g, gc = some g → w2.heap.size ≤ g ∧ ge ≠ some g ∧ gf ≠ some g) ∧ ∀ g, ge = some g → w2.heap.size ≤ g) := by
        refine ⟨fun g hg => ⟨HA.out.2.2 g hg, ?_, ?_, ?_, ?_⟩, fun g hg => ⟨?_, ?_, ?_⟩, fun g hg => ?_⟩
        · intro e; have := (HA.out.2.1.2 g hg).lt; have := HCC.out.2.2 g e; omega
        · intro e; have := (HA.out.2.1.2 g hg).lt; have := HDD.out.2.2 g e; omega
        · intro e; have := (HA.out.2.1.2 g hg).lt; have := HE.out.2.2 g e; omega
        · intro e; have := (HA.out.2.1.2 g hg).lt; have := HF.out.2.2 g e; omega
        · have := HCC.out.2.2 g hg; omega
        · intro e; have := (HCC.out.2.1.2 g hg).lt; have := HE.out.2.2 g e; omega
        · intro e; have := (HCC.out.2.1.2 g hg).lt; have := HF.out.2.2 g e; omega
        · have := HE.out.2.2 g hg; omega
      clear hk2 hbh bfh beh bdh bch bbh bah sab sbc scd sde s2a HQ HA HB HCC HDD HE HF HG1 HB2 HB3 HS
      have HQ := same_any w2.heap.size ga gb2 ca cb2 L1 wh HRW.out.1.1 HRW.out.1.2 (fun g hg => (HAP.out.1 g hg).1) HB4.out.size HLE.out.1
      go_wp2_with fail
      refine HQ.mono ?_
      rintro e ws ⟨rfl, hs1, hs2⟩
      have HB5 : Hid (Below w2.heap.size w2 ws) := HB4.out.trans hs1
      have HRW2 : Hid ((NdR ws gc cc L2 ∧ NdR ws gd cd L2) ∧ (NdR ws ge ce L3 ∧ NdR ws gf cf L3)) :=
        ⟨⟨HRW.out.2.1.1.keep (fun g hg => hs2 g (HRW.out.2.1.1.2 g hg).lt (fun e => (HAP.out.1 g e).2.1 hg)), HRW.out.2.1.2.keep (fun g hg => hs2 g (HRW.out.2.1.2.2 g hg).lt (fun e => (HAP.out.1 g e).2.2.1 hg))⟩, HRW.out.2.2.1.keep (fun g hg => hs2 g (HRW.out.2.2.1.2 g hg).lt (fun e => (HAP.out.1 g e).2.2.2.1 hg)), HRW.out.2.2.2.keep (fun g hg => hs2 g (HRW.out.2.2.2.2 g hg).lt (fun e => (HAP.out.1 g e).2.2.2.2 hg))⟩
      clear hs1 hs2 HB4 HRW HQ
      have HQ := same_any w2.heap.size gc gd cc cd L2 ws HRW2.out.1.1 HRW2.out.1.2 (fun g hg => (HAP.out.2.1 g hg).1) HB5.out.size HLE.out.2.1
      go_wp2_with fail
      refine HQ.mono ?_
      rintro e wt ⟨rfl, hs1, hs2⟩
      have HB6 : Hid (Below w2.heap.size w2 wt) := HB5.out.trans hs1
      have HRW3 : Hid (NdR wt ge ce L3 ∧ NdR wt gf cf L3) :=
        ⟨HRW2.out.2.1.keep (fun g hg => hs2 g (HRW2.out.2.1.2 g hg).lt (fun e => (HAP.out.2.1 g e).2.1 hg)), HRW2.out.2.2.keep (fun g hg => hs2 g (HRW2.out.2.2.2 g hg).lt (fun e => (HAP.out.2.1 g e).2.2 hg))⟩
      clear hs1 hs2 HB5 HRW2 HQ
      have HQ := same_any w2.heap.size ge gf ce cf L3 wt HRW3.out.1 HRW3.out.2 (fun g hg => HAP.out.2.2 g hg) HB6.out.size HLE.out.2.2
      go_wp2_with fail
      refine HQ.mono ?_
      rintro e wu ⟨rfl, hs1, _⟩
      have HB7 : Hid (Below w2.heap.size w2 wu) := HB6.out.trans hs1
      clear hs1 HB6 HRW3 HQ
      have HQ := HC9.out wu HB7.out
      go_wp2_with fail
      refine HQ.mono ?_
      rintro e wv ⟨rfl, hb9⟩
      have HB8 : Hid (Below w2.heap.size w2 wv) := belT HB7.out hb9
      clear hb9 HQ HB7
      go_wp2_with fail
      go_roundw
      case rel => exact ⟨i + 1, by go_num, by omega, HB8.out⟩
      case measure => simp [intOf]; omega
    · go_wp2_with fail
      go_ret
      exact ⟨rfl, H2.out wr HS.out⟩
end Go.Proofs.Ytilhheianbbbjaa

