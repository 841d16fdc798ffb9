/- tenonref14.least: the least of the shortest ways. -/
import Derived.Test.YtilhheianbbbjaaK30
import Derived.Test.YtilhheianbbbjaaK25
import Derived.Test.YtilhheianbbbjaaK28
import Derived.Test.YtilhheianbbbjaaK21
namespace Go.Proofs.Ytilhheianbbbjaa
open Go.RowKit Go.ChangeMaps

structure DsK (nx : Nat → List Nat) (L b : Nat) (d : Nat → Int) : Prop where
  bd : ∀ x, -1 ≤ d x ∧ d x ≤ 4096
  stp : ∀ n, n < L → 0 ≤ d n → n ≠ b → ∃ v ∈ nx n, d v = d n - 1 ∧ 0 ≤ d v
  b0 : d b = 0
  lt : ∀ i, ∀ x ∈ nx i, x < L
theorem DsK.fnd {nx : Nat → List Nat} {L b : Nat} {d : Nat → Int} (H : DsK nx L b d) {n : Nat} (hn : n < L) (h0 : 0 ≤ d n) (hb : n ≠ b) : ∃ k v : Nat, (nx n)[k]? = some v ∧ d v = d n - 1 ∧ (∀ j u : Nat, j < k → (nx n)[j]? = some u → d u ≠ d n - 1) ∧ Sp.stp nx d n = v ∧ 0 ≤ d v := by
  obtain ⟨v0, h1, h2, h3⟩ := H.stp n hn h0 hb
  cases hf : (nx n).find? fun v => d v == d n - 1 with
  | none => have := List.find?_eq_none.1 hf v0 h1; simp [h2] at this
  | some v =>
    obtain ⟨hp, pre, bs, hl, hno⟩ := List.find?_eq_some_iff_append.1 hf
    have hd : d v = d n - 1 := by simpa using hp
    refine ⟨pre.length, v, by rw [hl]; simp, hd, fun j u hj hu => ?_, by unfold Sp.stp; rw [hf]; rfl, by omega⟩
    rw [hl, List.getElem?_append_left hj] at hu
    have := hno u (List.mem_of_getElem? hu)
    simpa using this
theorem lst_ne {nx : Nat → List Nat} {d : Nat → Int} {b : Nat} : ∀ f n, ∃ r, Sp.lst nx d b f n = n :: r
  | 0, n => ⟨[], rfl⟩
  | f + 1, n => by
    by_cases h : n = b
    · exact ⟨[], by rw [Sp.lst, if_pos h]⟩
    · exact ⟨_, by rw [Sp.lst, if_neg h]⟩
def LsI (nx : Nat → List Nat) (d : Nat → Int) (b a : Nat) (l : List Nat) (n f : Nat) : Prop := l ++ (Sp.lst nx d b f n).drop 1 = Sp.lst nx d b (d a).toNat a ∧ l.length + f = (d a).toNat + 1
theorem LsI.ini {nx : Nat → List Nat} {d : Nat → Int} {b a : Nat} : LsI nx d b a [a] a (d a).toNat := by
  obtain ⟨r, hr⟩ := lst_ne (nx := nx) (d := d) (b := b) (d a).toNat a
  exact ⟨by rw [hr]; rfl, by simp; omega⟩
theorem LsI.step {nx : Nat → List Nat} {d : Nat → Int} {b a n f v : Nat} {l : List Nat} (h : LsI nx d b a l n (f + 1)) (hb : n ≠ b) (hv : Sp.stp nx d n = v) : LsI nx d b a (l ++ [v]) v f := by
  obtain ⟨r, hr⟩ := lst_ne (nx := nx) (d := d) (b := b) f v
  obtain ⟨h1, h2⟩ := h
  refine ⟨?_, by rw [List.length_append, List.length_singleton]; omega⟩
  rw [Sp.lst, if_neg hb, hv] at h1
  rw [← h1, hr]; simp
theorem LsI.fin {nx : Nat → List Nat} {d : Nat → Int} {b a f : Nat} {l : List Nat} (h : LsI nx d b a l b f) (h0 : f = 0) : l = Sp.lst nx d b (d a).toNat a := by
  have := h.1; rw [h0] at this; simpa [Sp.lst] using this

set_option maxRecDepth 100000 in
set_option maxHeartbeats 4000000 in
theorem least_any (gb : Nat) (N : List Int) (nx : Nat → List Nat) (gn : Option Nat) (cn lo xb : Nat) (bl : Nat → Option Nat) (cp : Nat → Nat) (gd a b : Nat) (D : List Int) (d : Nat → Int) (w : World) (h : GR w gb N nx gn cn lo xb bl cp) (hD : OwnR w 3 gd N.length N.length (iv D)) (hDd : ∀ x, x < N.length → D[x]? = some (d x)) (H : DsK nx N.length b d) (ha : a < N.length) (hb : b < N.length) (ha0 : 0 ≤ d a) (hn : N.length ≤ 4096) (hnl : ∀ p, (nx p).length ≤ 4096) :
    Calls Try.prog 30 #[.pointer (some ⟨gb, 0, none⟩), .int .i64 (a : Nat), .int .i64 (b : Nat), .slice (some ⟨gd, 0, none⟩) N.length N.length] w (RfE w (Sp.rfs N (Sp.lst nx d b (d a).toNat a))) := by
  have HG : Hid (GR w gb N nx gn cn lo xb bl cp ∧ OwnR w 3 gd N.length N.length (iv D) ∧ ∀ x, x < N.length → D[x]? = some (d x)) := ⟨h, hD, hDd⟩
  have HB : Hid (DsK nx N.length b d ∧ ∀ p, (nx p).length ≤ 4096) := ⟨H, hnl⟩
  have hc0 := h.c0
  obtain ⟨gN, rfl⟩ : ∃ g, gn = some g := by
    cases gn with
    | some g => exact ⟨g, rfl⟩
    | none => have := h.nds.1 rfl; subst this; simp at ha
  have hadN : adr (some gN) = some ⟨gN, 0, none⟩ := rfl
  obtain ⟨y, hy⟩ : ∃ y, N[a]? = some y := ⟨_, List.getElem?_eq_getElem ha⟩
  have hcy : w.cell? ⟨gN, a, none⟩ = some (.int .u64 y) := (h.nds.2 gN rfl).cell (by simp [rv, hy])
  have haz : (a : Int) < (N.length : Int) := by omega
  clear h hD hDd H hnl
  go_enter Try.func30, Try.ntmps30
  go_wp2_with fail
  go_loopw [9, 10] (fun v9 v10 wr => ∃ (n m f : Nat) (gs : Option Nat) (c : Nat) (l : List Nat), v10 = .int .i64 n ∧ n < N.length ∧ v9 = .slice (adr gs) m c ∧ Hid (m = l.length ∧ d n = f ∧ LsI nx d b a l n f) ∧ Hid (RfI w (Sp.rfs N l) gs c wr)) (fun _ v10 _ => (d (intOf v10).toNat).toNat)
  case atStart =>
    refine ⟨a, 1, (d a).toNat, some w.heap.size, 1, [a], rfl, ha, rfl, ⟨rfl, by omega, LsI.ini⟩, ?_⟩
    have e : Sp.rfs N [a] = [y] := by simp [Sp.rfs, List.getD_eq_getElem?_getD, hy]
    rw [e]
    refine ⟨⟨(fun e => by cases e), fun g hg => ?_⟩, fun g hg => ?_, (Below.refl _ _).alloc (Nat.le_refl _) _⟩
    · injection hg with hg; subst hg
      exact ⟨rfl, _, heap_alloc_new _ _, Nat.le_refl _, by decide, rfl, rfl⟩
    · injection hg with hg; omega
  case round =>
    obtain ⟨n, m, f, gs, c, l, rfl, hnL, rfl, HM, HS⟩ := hrel
    have hnz : (n : Int) < (N.length : Int) := by omega
    by_cases hnb : n = b
    · subst hnb
      have hf0 : f = 0 := by have := HM.out.2.1; have := HB.out.1.b0; omega
      have hfin := LsI.fin HM.out.2.2 hf0
      clear hcy hy
      go_wp2_with fail
      go_ret
      exact ⟨gs, c, by rw [← hfin]; simp [Sp.rfs, HM.out.1], by rw [← hfin]; exact HS.out.row, HS.out.lo, HS.out.bel⟩
    · have hnbz : ((n : Int) != (b : Int)) = true := by simp; omega
      obtain ⟨k, v, hk, hdv, hno, hst, hv0⟩ := HB.out.1.fnd hnL (by have := HM.out.2.1; omega) hnb
      have hdn := HM.out.2.1
      obtain ⟨f, rfl⟩ : ∃ f', f = f' + 1 := ⟨f - 1, by omega⟩
      have hfb := HB.out.1.bd n
      have hvL : v < N.length := HB.out.1.lt n v (List.mem_of_getElem? hk)
      have hkl := (List.getElem?_eq_some_iff.1 hk).1
      have hnl1 := HB.out.2 n
      have HGk : Hid (GR wr gb N nx (some gN) cn lo xb bl cp) := HG.out.1.keep HS.out.bel
      have hc2 : wr.cell? ⟨gb, 2, none⟩ = some (.slice (some ⟨xb, 0, none⟩) N.length N.length) := HGk.out.c2
      obtain ⟨hcr, hrow⟩ := HGk.out.row hnL
      have HRW : Hid (∀ j u, (nx n)[j]? = some u → ∃ g, bl n = some g ∧ wr.cell? ⟨g, j, none⟩ = some (.int .i64 (u : Nat))) := hrow
      have hdc : wr.cell? ⟨gd, n, none⟩ = some (.int .i64 ((f + 1 : Nat) : Int)) := by
        rw [World.cell?_of_block (w := w) (HS.out.bel.block gd HG.out.2.1.lt)]
        exact HG.out.2.1.cell (by simp [iv, HG.out.2.2 n hnL, hdn])
      have HK : Hid ((nx n)[k]? = some v ∧ d v = d n - 1 ∧ (∀ j u, j < k → (nx n)[j]? = some u → d u ≠ d n - 1) ∧ Sp.stp nx d n = v ∧ 0 ≤ d v) := ⟨hk, hdv, hno, hst, hv0⟩
      clear hk hdv hno hst hv0 hrow hcy hy
      go_wp2_with fail
      clear hdc hc2 hcr
      go_loopw [10, 13] (fun v10 v13 wr2 => ∃ i : Nat, v10 = .int .i64 n ∧ v13 = .int .i64 i ∧ i ≤ k ∧ Hid (wr2 = wr)) (fun _ v13 _ => k - (intOf v13).toNat)
      case atStart => exact ⟨0, rfl, rfl, Nat.zero_le _, rfl⟩
      case round =>
        obtain ⟨i, rfl, rfl, hik, HW⟩ := hrel
        have hwe := HW.out
        subst hwe
        have hilz : (i : Int) < ((nx n).length : Int) := by omega
        obtain ⟨u, hu⟩ : ∃ u, (nx n)[i]? = some u := ⟨_, List.getElem?_eq_getElem (by omega)⟩
        obtain ⟨g, hg, hcu⟩ := HRW.out i u hu
        have hadg : adr (bl n) = some ⟨g, 0, none⟩ := by rw [hg]; rfl
        clear hg
        have huL : u < N.length := HB.out.1.lt n u (List.mem_of_getElem? hu)
        have huz : (u : Int) < (N.length : Int) := by omega
        have hdu : wr.cell? ⟨gd, u, none⟩ = some (.int .i64 (d u)) := by
          rw [World.cell?_of_block (w := w) (HS.out.bel.block gd HG.out.2.1.lt)]
          exact HG.out.2.1.cell (by simp [iv, HG.out.2.2 u huL])
        by_cases he : i = k
        · subst he
          have huv : u = v := by have := HK.out.1; rw [hu] at this; injection this
          subst huv
          have hdf : d u = f := by have := HK.out.2.1; omega
          rw [hdf] at hdu
          have hc0k : wr.cell? ⟨gb, 0, none⟩ = some (.slice (adr (some gN)) N.length cn) := HGk.out.c0
          obtain ⟨y2, hy2⟩ : ∃ y, N[u]? = some y := ⟨_, List.getElem?_eq_getElem huL⟩
          have hcy2 : wr.cell? ⟨gN, u, none⟩ = some (.int .u64 y2) := (HGk.out.nds.2 gN rfl).cell (by simp [rv, hy2])
          have HN : Hid (Sp.rfs N (l ++ [u]) = Sp.rfs N l ++ [y2]) := by
            show _ = _
            simp [Sp.rfs, List.getD_eq_getElem?_getD, hy2]
          have hll : (Sp.rfs N l).length = m := by rw [HM.out.1]; simp [Sp.rfs]
          have hmb : m ≤ 8192 := by
            have h1 := HM.out.2.2.2
            have h2 := (HB.out.1.bd a).2
            have h3 := HM.out.1
            omega
          obtain ⟨g', c', w4, hap, ho4, hgr4, hor4⟩ := appR gs c (Sp.rfs N l) wr HS.out.row y2 (by rw [hll]; omega) 22
          rw [hll] at hap
          have HF2 : Hid (RfI w (Sp.rfs N l ++ [y2]) (some g') c' w4) := HS.out.put ho4 hgr4 hor4
          have HL2 : Hid (LsI nx d b a (l ++ [u]) u f) := LsI.step HM.out.2.2 hnb HK.out.2.2.2.1
          clear ho4 hgr4 hor4 hy2 hll hu
          go_wp2_with (at_builtin; refine wpList_ranS _ rfl _ _ 22 22 rfl _ _ _ _ rfl rfl hap ?_)
          go_roundw
          case rel => exact ⟨u, m + 1, f, some g', c', l ++ [u], rfl, huL, rfl, ⟨by rw [HM.out.1, List.length_append]; rfl, hdf, HL2.out⟩, by show RfI _ _ _ _ _; rw [HN.out]; exact HF2.out⟩
          case measure => simp [intOf]; omega
        · have hne := HK.out.2.2.1 i u (by omega) hu
          have hnez : (d u == (f : Int)) = false := by simp; omega
          go_wp2_with fail
          refine ⟨⟨i + 1, rfl, by go_num, by omega, by first | trivial | rfl⟩, by simp [intOf]; omega⟩
end Go.Proofs.Ytilhheianbbbjaa

/- tenonref14.Path: the least of the shortest ways between two nodes. -/
namespace Go.Proofs.Ytilhheianbbbjaa
open Go.RowKit Go.ChangeMaps

theorem plc_in {N : List Int} {x : Int} (h : x ∈ N) : ∃ a : Nat, Sp.plc N x = (a : Int) ∧ a < N.length := ⟨N.idxOf x, by simp [Sp.plc, h], List.idxOf_lt_length_iff.2 h⟩
theorem plc_no {N : List Int} {x : Int} (h : x ∉ N) : Sp.plc N x = -1 := by simp [Sp.plc, h]
def Sp.path (N : List Int) (nx : Nat → List Nat) (x y : Int) : Option (List Int) :=
  if x ∈ N ∧ y ∈ N then
    let t := Bf.all (Sp.bkn nx N.length) (-1) N.length [N.idxOf y]
    if N.idxOf x ∈ t.ord then some (Sp.rfs N (Sp.lst nx t.dst (N.idxOf y) (t.lv (N.idxOf x)) (N.idxOf x))) else none
  else none
def Sp.pathE (N : List Int) (x y : Int) : Int := if x ∈ N ∧ y ∈ N then 142 else 140
theorem twoW (nx : Nat → List Nat) (L a b : Nat) (hb : ∀ i, ∀ x ∈ nx i, x < L) (hlt : ∀ i, (nx i).Pairwise (· < ·)) (ha : a < L) (hbL : b < L) : TwoW nx (Sp.bkn nx L) L a b (Bf.all nx (-1) L [a]) (Bf.all (Sp.bkn nx L) (-1) L [b]) :=
  ⟨all_BI hlt hb (by simpa using ha), all_BI (fun i => bkn_lt nx L i) (fun i x hx => (bkn_mem.1 hx).1) (by simpa using hbL), fun x y hx _ => by rw [bkn_mem]; exact ⟨fun h => ⟨hx, h⟩, fun h => h.2⟩, hb, fun i x hx => (bkn_mem.1 hx).1, hlt⟩
theorem BI.lvps {nx : Nat → List Nat} {L : Nat} {wo : Int} {src : List Nat} {s : Bf} (H : BI nx wo L src s s.ord.length []) : ∀ n, ∀ x ∈ s.ord, s.ps x ≤ n → s.lv x ≤ s.ps x := by
  intro n
  induction n with
  | zero =>
    intro x hx hn
    rcases H.st x hx with ⟨_, _, h⟩ | ⟨_, h2, _⟩ <;> omega
  | succ n ih =>
    intro x hx hn
    rcases H.st x hx with ⟨_, _, h⟩ | ⟨h1, h2, _, h4, _⟩
    · omega
    · have := ih _ h1 (by omega); omega
theorem TwoW.ds {nx bk : Nat → List Nat} {L a b : Nat} {s t : Bf} (H : TwoW nx bk L a b s t) (hL : L ≤ 4096) : DsK nx L b t.dst where
  bd x := by
    unfold Bf.dst
    split
    · rename_i h
      have h1 := nd_len H.ht.nd H.ht.bd
      have h2 := H.ht.lvps _ x h (Nat.le_refl _)
      have h3 := H.ht.pslt h
      omega
    · omega
  stp n hn h0 hb := by
    have hno : n ∈ t.ord := Classical.byContradiction fun h => by simp [Bf.dst, h] at h0
    obtain ⟨y, h1, h2, h3⟩ := H.d3 hno hb
    exact ⟨y, h1, by simp [Bf.dst, hno, h2, h3], by simp [Bf.dst, h2]⟩
  b0 := by simp [Bf.dst, H.bin, H.lb]
  lt := H.nb

set_option maxRecDepth 100000 in
set_option maxHeartbeats 4000000 in
theorem rPath_any (D : Nat → Prop) (gb : Nat) (N : List Int) (nx : Nat → List Nat) (x y : Int) (w : World) (hg : RgE w D gb N nx) (hn : N.length ≤ 4096) (hpw : N.Pairwise (· < ·)) (hb : ∀ i, ∀ x ∈ nx i, x < N.length) (hnl : ∀ p, (nx p).length ≤ 4096) (hlt : ∀ i, (nx i).Pairwise (· < ·)) :
    Calls Try.prog 9 #[.pointer (some ⟨gb, 0, none⟩), .int .u64 x, .int .u64 y] w (ReE w (Sp.path N nx x y) (Sp.pathE N x y)) := by
  obtain ⟨gn, cn, lo, xb, bl, cp, hG⟩ := hg.gr
  have HG : Hid (GR w gb N nx gn cn lo xb bl cp) := hG
  have HPL : Hid (∀ z, Calls Try.prog 27 #[.pointer (some ⟨gb, 0, none⟩), .int .u64 z] w fun e w' => e = .returned (.int .i64 (Sp.plc N z)) ∧ w' = w) := fun z => place_any gb gn cn N z w ⟨hG.c0, hG.nds⟩ hpw hn
  have HTU : Hid (Calls Try.prog 29 #[.pointer (some ⟨gb, 0, none⟩)] w fun e w' => ∃ tb, e = .returned (.pointer (some ⟨tb, 0, none⟩)) ∧ GRE w' tb N (Sp.bkn nx N.length) ∧ Below w.heap.size w w') := Turned_any gb N nx gn cn lo xb bl cp w hG hb hn hnl hlt
  have HFA : Hid (∀ (tb b : Nat) (W : World), GRE W tb N (Sp.bkn nx N.length) → b < N.length → Calls Try.prog 28 #[.pointer (some ⟨tb, 0, none⟩), .int .i64 (b : Int)] W (FarE W N.length (Bf.all (Sp.bkn nx N.length) (-1) N.length [b]))) := fun tb b W ⟨gn', cn', lo', xb', bl', cp', h⟩ hbL => far_any tb N _ gn' cn' lo' xb' bl' cp' b W h hbL (fun i x hx => (bkn_mem.1 hx).1) hn (fun p => Nat.le_trans (bkn_len nx N.length p) hn)
  have HLE : Hid (∀ (gd a b : Nat) (t : Bf) (W : World), Below w.heap.size w W → OwnR W 3 gd N.length N.length (iv (Sp.dsl N.length t)) → DsK nx N.length b t.dst → a < N.length → b < N.length → 0 ≤ t.dst a → Calls Try.prog 30 #[.pointer (some ⟨gb, 0, none⟩), .int .i64 (a : Nat), .int .i64 (b : Nat), .slice (some ⟨gd, 0, none⟩) N.length N.length] W (RfE W (Sp.rfs N (Sp.lst nx t.dst b (t.dst a).toNat a)))) := fun gd a b t W hW ho hd ha hbL h0 => least_any gb N nx gn cn lo xb bl cp gd a b (Sp.dsl N.length t) t.dst W (hG.keep hW) ho (fun x hx => dsl_at t hx) hd ha hbL h0 hn hnl
  have HTW : Hid (∀ a b, a < N.length → b < N.length → DsK nx N.length b (Bf.all (Sp.bkn nx N.length) (-1) N.length [b]).dst) := fun a b ha hbL => (twoW nx N.length a b hb hlt ha hbL).ds hn
  clear hg hG hb hnl hlt HG
  go_enter Try.func9, Try.ntmps9
  go_wp2_with fail
  refine (HPL.out x).mono ?_
  rintro e w' ⟨rfl, hw⟩
  have hw := hw.symm
  subst hw
  go_wp2_with fail
  refine (HPL.out y).mono ?_
  rintro e w' ⟨rfl, hw⟩
  have hw := hw.symm
  subst hw
  by_cases hx : x ∈ N
  · obtain ⟨a, ha, haL⟩ := plc_in hx
    have hidx : N.idxOf x = a := by have h := ha; simp [Sp.plc, hx] at h; omega
    rw [ha]
    have haz : ¬ ((a : Int) < 0) := by omega
    have hazL : (a : Int) < (N.length : Int) := by omega
    by_cases hy : y ∈ N
    · obtain ⟨b, hb, hbL⟩ := plc_in hy
      have hidy : N.idxOf y = b := by have h := hb; simp [Sp.plc, hy] at h; omega
      rw [hb]
      have hbz : ¬ ((b : Int) < 0) := by omega
      obtain ⟨t, ht⟩ : ∃ t, Bf.all (Sp.bkn nx N.length) (-1) N.length [b] = t := ⟨_, rfl⟩
      have HF0 : Hid (a ∉ t.ord → Sp.path N nx x y = none ∧ Sp.pathE N x y = 142) := fun h => by
        unfold Sp.path Sp.pathE
        simp only [hx, hy, and_self, if_true, hidx, hidy, ht, if_neg h]
      have HF1 : Hid (a ∈ t.ord → Sp.path N nx x y = some (Sp.rfs N (Sp.lst nx t.dst b (t.dst a).toNat a))) := fun h => by
        have e : (t.dst a).toNat = t.lv a := by simp [Bf.dst, h]
        unfold Sp.path
        simp only [hx, hy, and_self, if_true, hidx, hidy, ht, if_pos h, e]
      have HDS : Hid (DsK nx N.length b t.dst) := by have := HTW.out a b haL hbL; rwa [ht] at this
      have HFB : Hid (∀ (tb : Nat) (W : World), GRE W tb N (Sp.bkn nx N.length) → Calls Try.prog 28 #[.pointer (some ⟨tb, 0, none⟩), .int .i64 (b : Int)] W (FarE W N.length t)) := fun tb W h => by have := HFA.out tb b W h hbL; rwa [ht] at this
      clear HTW HFA HPL hx hy hidx hidy ha hb ht
      go_wp2_with fail
      refine HTU.out.mono ?_
      rintro e w1 ⟨tb, rfl, hgt, hb1⟩
      have HFR : Hid (Calls Try.prog 28 #[.pointer (some ⟨tb, 0, none⟩), .int .i64 (b : Int)] w1 (FarE w1 N.length t)) := HFB.out tb w1 hgt
      have HB1 : Hid (Below w.heap.size w w1) := hb1
      clear hgt hb1 HFB HTU
      go_wp2_with fail
      refine HFR.out.mono ?_
      rintro e w2 ⟨gi, rfl, ho, _, hb2⟩
      have hbb := belT HB1.out hb2
      have hca : w2.cell? ⟨gi, a, none⟩ = some (.int .i64 (t.dst a)) := ho.cell (by simp [iv, dsl_at t haL])
      by_cases hin : a ∈ t.ord
      · have hd0 : 0 ≤ t.dst a := by simp [Bf.dst, hin]
        have hdz : ¬ (t.dst a < 0) := by omega
        have HL2 : Hid (Calls Try.prog 30 #[.pointer (some ⟨gb, 0, none⟩), .int .i64 (a : Nat), .int .i64 (b : Nat), .slice (some ⟨gi, 0, none⟩) N.length N.length] w2 (RfE w2 (Sp.rfs N (Sp.lst nx t.dst b (t.dst a).toNat a)))) := HLE.out gi a b t w2 hbb ho HDS.out haL hbL hd0
        have HFF : Hid (Below w.heap.size w w2 ∧ Sp.path N nx x y = some (Sp.rfs N (Sp.lst nx t.dst b (t.dst a).toNat a))) := ⟨hbb, HF1.out hin⟩
        clear hbb hb2 ho HF0 HF1 HFR HB1 HLE hd0 hin
        go_wp2_with fail
        refine HL2.out.mono ?_
        rintro e w3 ⟨gs3, c3, rfl, h1, h2, h3⟩
        have HF3 : Hid (NdR w3 gs3 c3 (Sp.rfs N (Sp.lst nx t.dst b (t.dst a).toNat a)) ∧ (∀ g, gs3 = some g → w.heap.size ≤ g) ∧ Below w.heap.size w w3) := ⟨h1, fun g hg => Nat.le_trans HFF.out.1.size (h2 g hg), belT HFF.out.1 h3⟩
        clear h1 h2 h3 HL2
        go_wp2_with fail
        go_ret2
        exact ⟨HF3.out.2.2, .inr ⟨_, gs3, c3, HFF.out.2, rfl, HF3.out.1, HF3.out.2.1⟩⟩
      · have hd0 : t.dst a = -1 := by simp [Bf.dst, hin]
        rw [hd0] at hca
        have HFF : Hid (Below w.heap.size w w2 ∧ Sp.path N nx x y = none ∧ Sp.pathE N x y = 142) := ⟨hbb, HF0.out hin⟩
        clear hbb hb2 ho HF0 HF1 HFR HB1 HLE hin
        go_wp2_with fail
        go_ret2
        exact ⟨HFF.out.1, .inl ⟨HFF.out.2.1, by rw [HFF.out.2.2]; rfl⟩⟩
    · have HF0 : Hid (Sp.path N nx x y = none ∧ Sp.pathE N x y = 140) := ⟨by unfold Sp.path; rw [if_neg (fun h => hy h.2)], by unfold Sp.pathE; rw [if_neg (fun h => hy h.2)]⟩
      rw [plc_no hy]
      clear HTW HFA HPL hx hy hidx ha HTU HLE
      go_wp2_with fail
      go_ret2
      exact ⟨Below.refl _ _, .inl ⟨HF0.out.1, by rw [HF0.out.2]; rfl⟩⟩
  · have HF0 : Hid (Sp.path N nx x y = none ∧ Sp.pathE N x y = 140) := ⟨by unfold Sp.path; rw [if_neg (fun h => hx h.1)], by unfold Sp.pathE; rw [if_neg (fun h => hx h.1)]⟩
    rw [plc_no hx]
    clear HTW HFA HPL hx HTU HLE
    go_wp2_with fail
    go_ret2
    exact ⟨Below.refl _ _, .inl ⟨HF0.out.1, by rw [HF0.out.2]; rfl⟩⟩
end Go.Proofs.Ytilhheianbbbjaa

