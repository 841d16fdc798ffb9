/- graph.way: the way back from a node to where the search began, turned about. -/
import Derived.Test.YtikhpbidbcfedaaGreatKp17
import Derived.Test.YtikhpbidbcfedaaGreatKp16
namespace Go.Proofs.YtikhpbidbcfedaaGreat
open Go.RowKit Go.ChangeMaps

structure RwI (w : World) (l : List Int) (g c : Nat) (wr : World) : Prop where
  row : OwnR wr 3 g l.length c (iv l)
  lo : w.heap.size ≤ g
  bel : Below w.heap.size w wr
theorem RwI.nd {w wr : World} {l : List Int} {g c : Nat} (h : RwI w l g c wr) : NdI wr (some g) c l := ⟨(fun e => by cases e), fun g' hg => by injection hg with hg; subst hg; exact h.row⟩
theorem RwI.put {w wr w4 : World} {l : List Int} {g c g' c' : Nat} {x : Int} (h : RwI w l g c wr) (ho : OwnR w4 3 g' (l.length + 1) c' (iv (l ++ [x]))) (hg : (wr.alloc (.cells #[.int .i64 x] 3)).grownBy w4 (some g)) (hor : some g = some g' ∨ wr.heap.size < g') : RwI w (l ++ [x]) g' c' w4 := by
  have hb := h.bel.alloc h.bel.size (.cells #[.int .i64 x] 3)
  refine ⟨by simpa using ho, ?_, hb.grown hg hb.size (fun k hk => by injection hk with hk; subst hk; exact h.lo)⟩
  rcases hor with h1 | h1
  · injection h1 with h1; subst h1; exact h.lo
  · have := h.bel.size; omega
def WayE (w : World) (l : List Nat) (e : Ending) (w' : World) : Prop := ∃ g c, e = .returned (.slice (some ⟨g, 0, none⟩) l.length c) ∧ OwnR w' 3 g l.length c (iv (l.map fun j : Nat => (j : Int))) ∧ w.heap.size ≤ g ∧ Below w.heap.size w w'
theorem chn_len {nx : Nat → List Nat} {wo : Int} {L : Nat} {src : List Nat} {s : Bf} (H : BI nx wo L src s s.ord.length []) {x : Nat} (hx : x ∈ s.ord) : (s.chn (s.ps x) x).length ≤ L := by
  have h := (chn_way H (s.ps x) x hx (Nat.le_refl _)).1
  have := nd_len h.nd h.bd
  simpa using this

set_option maxRecDepth 100000 in
set_option maxHeartbeats 8000000 in
theorem way_gen (L : Nat) (s : Bf) (hbd : ∀ x ∈ s.ord, x < L) (hup : ∀ x ∈ s.ord, s.bq x ≠ x → s.bq x ∈ s.ord ∧ s.ps (s.bq x) < s.ps x) (gi : Nat) (o : Value) (x0 : Nat) (w : World) (hx : x0 ∈ s.ord) (hln : (s.chn (s.ps x0) x0).length ≤ L) (ho : OwnR w 3 gi L L (iv (Sp.byl L s))) (hL : L ≤ 4096) :
    Calls Tryz.prog 33 #[.agg #[.slice (some ⟨gi, 0, none⟩) L L, o], .int .i64 (x0 : Int)] w (WayE w (s.chn (s.ps x0) x0).reverse) := by
  have HLN : Hid ((s.chn (s.ps x0) x0).length ≤ L) := hln
  have HB : Hid ((∀ x ∈ s.ord, x < L) ∧ ∀ x ∈ s.ord, s.bq x ≠ x → s.bq x ∈ s.ord ∧ s.ps (s.bq x) < s.ps x) := ⟨hbd, hup⟩
  have HO : Hid (OwnR w 3 gi L L (iv (Sp.byl L s))) := ho
  have hgi := ho.lt
  obtain ⟨T, hT⟩ : ∃ T, s.chn (s.ps x0) x0 = T := ⟨_, rfl⟩
  have HT : Hid (s.chn (s.ps x0) x0 = T) := hT
  rw [hT] at HLN ⊢
  obtain ⟨W1, hW1⟩ : ∃ W1, w.alloc (.cells #[.slice (some ⟨gi, 0, none⟩) L L, o] 65) = W1 := ⟨_, rfl⟩
  have HW1 : Hid (W1.heap[w.heap.size]? = some (.cells #[.slice (some ⟨gi, 0, none⟩) L L, o] 65 (0, 0)) ∧ W1.heap.size = w.heap.size + 1 ∧ Below w.heap.size w W1) := by
    show _ ∧ _ ∧ _
    rw [← hW1]; exact ⟨heap_alloc_new w _, al_size _ _, (Below.refl _ _).alloc (Nat.le_refl _) _⟩
  have H1 : Hid (RwI W1 [(x0 : Int)] W1.heap.size 1 (W1.alloc (.cells #[.int .i64 (x0 : Int)] 3))) := by
    refine ⟨⟨rfl, _, heap_alloc_new _ _, Nat.le_refl _, by simp [maxLen], rfl, rfl⟩, Nat.le_refl _, (Below.refl _ _).alloc (Nat.le_refl _) _⟩
  have hz : W1.heap.size = w.heap.size + 1 := HW1.out.2.1
  clear hT hbd hup hln ho
  go_enter Tryz.func33, Tryz.ntmps33
  clear hz
  go_upto_region 1 with fail
  clear hW1
  go_wp2_with fail
  go_loopw [1, 5] (fun v1 v5 wr => ∃ (x f : Nat) (pre : List Nat) (g c m : Nat), v1 = .int .i64 (x : Int) ∧ v5 = .slice (some ⟨g, 0, none⟩) m c ∧ x < L ∧ Hid (x ∈ s.ord ∧ s.ps x ≤ f ∧ pre ++ s.chn f x = T) ∧ Hid (m = pre.length + 1) ∧ Hid (RwI W1 ((pre ++ [x]).map fun j : Nat => (j : Int)) g c wr)) (fun v1 _ _ => s.ps (intOf v1).toNat)
  case atStart => exact ⟨x0, s.ps x0, [], _, _, 1, rfl, rfl, HB.out.1 x0 hx, ⟨hx, Nat.le_refl _, HT.out⟩, rfl, H1.out⟩
  case round =>
    clear H1
    obtain ⟨x, f, pre, g, c, m, rfl, rfl, hxL, HX, HM, HR⟩ := hrel
    have hxz : (x : Int) < (L : Int) := by omega
    have hbox : wr.heap[w.heap.size]? = some (.cells #[.slice (some ⟨gi, 0, none⟩) L L, o] 65 (0, 0)) := (HR.out.bel.block w.heap.size (by have := HW1.out.2.1; omega)).trans HW1.out.1
    have hc0 : wr.cell? ⟨w.heap.size, 0, none⟩ = some (.slice (some ⟨gi, 0, none⟩) L L) := by simp [World.cell?, hbox]
    have hgb : wr.heap[gi]? = w.heap[gi]? := (HR.out.bel.block gi (by have := HW1.out.2.1; omega)).trans (HW1.out.2.2.block gi hgi)
    have hcx : wr.cell? ⟨gi, x, none⟩ = some (.int .i64 (s.bq x : Int)) := by
      have := (HO.out.keep hgb).cell (t := x) (x := .int .i64 (s.bq x : Int)) (by
        simp only [iv, List.getElem?_map, byl_at s hxL, if_pos HX.out.1, Option.map_some])
      exact this
    clear hbox hgb
    by_cases hb : s.bq x = x
    · have hbz : (((s.bq x : Nat) : Int) != (x : Int)) = false := by simp [hb]
      have HTT : Hid (T = pre ++ [x]) := by
        show _ = _
        rw [← HX.out.2.2]
        cases f with
        | zero => rfl
        | succ f => rw [Bf.chn, if_pos hb]
      have hml : (T.map fun j : Nat => (j : Int)).length = m := by rw [HTT.out, HM.out]; simp
      have HV : Hid (Calls Tryz.prog 54 #[.slice (some ⟨g, 0, none⟩) m c] wr fun e w' => e = .returned (.tuple #[]) ∧ OwnR w' 3 g m c (iv (T.reverse.map fun j : Nat => (j : Int))) ∧ Below W1.heap.size W1 w') := by
        have hro : OwnR wr 3 g m c (iv (T.map fun j : Nat => (j : Int))) := by
          have := HR.out.row
          rw [← HTT.out, hml] at this; exact this
        have h1 := Tryz.slices_Reverse_int g 0 c (T.map fun j : Nat => (j : Int)) wr hro.holdsI (by have := HLN.out; simp; omega)
        rw [hml] at h1
        refine h1.mono ?_
        rintro e w' ⟨rfl, q, rfl⟩
        have hp := put_own hro (T.map fun j : Nat => (j : Int)).reverse (by rw [List.length_reverse, hml]) q #[]
        rw [Sort.grow_empty] at hp
        refine ⟨rfl, by simpa using hp.1, ?_⟩
        have hbl := HR.out.bel
        exact ⟨hp.2.1.trans hbl.os, hp.2.2.1.trans hbl.tape, hp.2.2.2.1.trans hbl.output, Nat.le_trans hbl.size hp.2.2.2.2.1, fun k hk => (hp.2.2.2.2.2 k (Nat.lt_of_lt_of_le hk hbl.size) (fun e => by injection e with e; have := HR.out.lo; omega)).trans (hbl.block k hk)⟩
      have hmT : T.length = m := by simpa using hml
      clear hml
      go_wp2_with fail
      refine HV.out.mono ?_
      rintro e w' ⟨rfl, h1, h2⟩
      have HF : Hid (OwnR w' 3 g m c (iv (T.reverse.map fun j : Nat => (j : Int))) ∧ Below w.heap.size w w') := ⟨h1, HW1.out.2.2.trans (h2.mono (by have := HW1.out.2.1; omega))⟩
      clear h1 h2
      go_wp2_with fail
      go_ret
      exact ⟨g, c, by rw [List.length_reverse, hmT]; rfl, by rw [List.length_reverse, hmT]; exact HF.out.1, by have := HR.out.lo; have := HW1.out.2.1; omega, HF.out.2⟩
    · have hbz : (((s.bq x : Nat) : Int) != (x : Int)) = true := by simp; omega
      obtain ⟨hu1, hu2⟩ := HB.out.2 _ HX.out.1 hb
      have hbL : s.bq x < L := HB.out.1 _ hu1
      have hml : ((pre ++ [x]).map fun j : Nat => (j : Int)).length = m := by rw [HM.out]; simp
      have hm4 : m ≤ 4096 := by
        have := HLN.out
        rw [← HX.out.2.2, List.length_append] at this
        have h2 : 1 ≤ (s.chn f x).length := by cases f <;> simp only [Bf.chn]; simp; split <;> simp
        rw [HM.out]; omega
      obtain ⟨g', c', w4, hap, ho4, hgr4, hor4⟩ := appI (some g) c ((pre ++ [x]).map fun j : Nat => (j : Int)) wr HR.out.nd ((s.bq x : Nat) : Int) (by rw [hml]; omega) 60
      rw [hml] at hap
      have hadg : adr (some g) = some ⟨g, 0, none⟩ := rfl
      rw [hadg] at hap
      have HF : Hid (RwI W1 (((pre ++ [x]) ++ [s.bq x]).map fun j : Nat => (j : Int)) g' c' w4) := by
        show RwI _ _ _ _ _
        have := HR.out.put ho4 hgr4 hor4
        simpa using this
      have HX2 : Hid (s.bq x ∈ s.ord ∧ s.ps (s.bq x) ≤ f - 1 ∧ (pre ++ [x]) ++ s.chn (f - 1) (s.bq x) = T) := by
        obtain ⟨f', rfl⟩ : ∃ f', f = f' + 1 := ⟨f - 1, by have := HX.out.2.1; omega⟩
        have h3 := HX.out.2.2
        rw [Bf.chn, if_neg hb] at h3
        exact ⟨hu1, by have := HX.out.2.1; omega, by simpa using h3⟩
      have HPS : Hid (s.ps (s.bq x) < s.ps x) := hu2
      clear ho4 hgr4 hor4 hu1 hu2
      go_wp2_with (at_builtin; refine wpList_ranS _ rfl _ _ 60 60 rfl _ _ _ _ rfl rfl hap ?_)
      go_roundw
      case rel => exact ⟨s.bq x, f - 1, pre ++ [x], g', c', m + 1, rfl, rfl, hbL, HX2.out, by show _ = _; rw [HM.out]; simp, HF.out⟩
      case measure => simp [intOf]; exact HPS.out
theorem way_any (nx : Nat → List Nat) (wo : Int) (L : Nat) (src : List Nat) (s : Bf) (H : BI nx wo L src s s.ord.length []) (gi : Nat) (o : Value) (x0 : Nat) (w : World) (hx : x0 ∈ s.ord) (ho : OwnR w 3 gi L L (iv (Sp.byl L s))) (hL : L ≤ 4096) :
    Calls Tryz.prog 33 #[.agg #[.slice (some ⟨gi, 0, none⟩) L L, o], .int .i64 (x0 : Int)] w (WayE w (s.chn (s.ps x0) x0).reverse) :=
  way_gen L s H.bd (fun _ hx hb => ⟨(H.up hx hb).1, (H.up hx hb).2.1⟩) gi o x0 w hx (chn_len H hx) ho hL
end Go.Proofs.YtikhpbidbcfedaaGreat

/- Plain mathematics: a search that keeps to what is not less than where it begins, and the ring that it closes. -/
namespace Go.Proofs.YtikhpbidbcfedaaGreat

def Sp.ge (nx : Nat → List Nat) (a i : Nat) : List Nat := (nx i).filter fun x => decide (a ≤ x)
theorem ge_mem {nx : Nat → List Nat} {a i x : Nat} : x ∈ Sp.ge nx a i ↔ x ∈ nx i ∧ a ≤ x := by simp [Sp.ge]
def Sp.rs (nx : Nat → List Nat) (L a : Nat) : Bf := Bf.all (Sp.ge nx a) (-1) L [a]
def Sp.rfm (nx : Nat → List Nat) (L a : Nat) : List Nat :=
  match (Sp.rs nx L a).ord.find? (fun p => decide (a ∈ nx p)) with
  | some p => ((Sp.rs nx L a).chn ((Sp.rs nx L a).ps p) p).reverse
  | none => []
def Sp.rgs (nx : Nat → List Nat) (L : Nat) : Nat → List Nat
  | 0 => []
  | k + 1 => if Sp.rfm nx L k ≠ [] ∧ (Sp.rgs nx L k = [] ∨ (Sp.rfm nx L k).length < (Sp.rgs nx L k).length) then Sp.rfm nx L k else Sp.rgs nx L k

section
variable {nx : Nat → List Nat} {L a : Nat}
theorem rs_BI (hlt : ∀ i, (nx i).Pairwise (· < ·)) (hb : ∀ i, ∀ x ∈ nx i, x < L) (ha : a < L) : BI (Sp.ge nx a) (-1) L [a] (Sp.rs nx L a) (Sp.rs nx L a).ord.length [] :=
  all_BI (fun i => (hlt i).filter _) (fun i x hx => hb i x (ge_mem.1 hx).1) (by simpa using ha)
theorem one_root {nx : Nat → List Nat} {wo : Int} {L a : Nat} {s : Bf} (H : BI nx wo L [a] s s.ord.length []) {x : Nat} (hx : x ∈ s.ord) (h : s.bq x = x) : x = a := by have := (H.root hx h).1; simpa using this
theorem root_lv {nx : Nat → List Nat} {L a : Nat} {s : Bf} (H : BI nx (-1) L [a] s s.ord.length []) : a ∈ s.ord ∧ s.lv a = 0 := by
  have hm := H.sr a (by simp) nn
  refine ⟨hm, ?_⟩
  rcases H.st a hm with ⟨_, _, h⟩ | ⟨h1, h2, h3, h4, _⟩
  · exact h
  · by_cases hq : s.bq a = a
    · rw [hq] at h2; omega
    · obtain ⟨c, _, _, _, hc, hcb⟩ := chn_on H (s.ps a) a [] hm rfl (Nat.le_refl _)
      have := one_root H hc hcb
      subst this; exact absurd hcb hq
theorem chn_lv {nx : Nat → List Nat} {L a : Nat} {s : Bf} (H : BI nx (-1) L [a] s s.ord.length []) {b : Nat} (hb : b ∈ s.ord) : (s.chn (s.ps b) b).length = s.lv b + 1 := by
  obtain ⟨c, suf, h1, h2, hc, hcb⟩ := chn_on H (s.ps b) b [] hb rfl (Nat.le_refl _)
  have h3 := on_lv H suf c h2
  have h4 := (H.root hc hcb).2
  have := congrArg List.length h1
  simp at this
  omega
theorem walk_lv {nx : Nat → List Nat} {L a : Nat} {s : Bf} (H : BI nx (-1) L [a] s s.ord.length []) {f : Nat → Nat} (h0 : f 0 = a) {n : Nat} (hf : ∀ i, i < n → f (i + 1) ∈ nx (f i)) : ∀ i, i ≤ n → f i ∈ s.ord ∧ s.lv (f i) ≤ i
  | 0, _ => by rw [h0]; have := root_lv H; exact ⟨this.1, by omega⟩
  | i + 1, h => by
    have ih := walk_lv H h0 hf i (by omega)
    have h1 := hf i (by omega)
    have h2 := H.lip ih.1 h1 nn
    exact ⟨(H.fin ih.1 h1 nn).1, by omega⟩
theorem find_pos {l : List Nat} (hn : l.Nodup) {q : Nat → Bool} {p x : Nat} (h : l.find? q = some p) (hx : x ∈ l) (hq : q x = true) : ∃ i j : Nat, i ≤ j ∧ l[i]? = some p ∧ l[j]? = some x := by
  induction l with
  | nil => simp at hx
  | cons y l ih =>
    rw [List.find?_cons] at h
    cases hy : q y with
    | true =>
      rw [hy] at h; simp at h; subst h
      obtain ⟨j, hj, e⟩ := List.mem_iff_getElem.1 hx
      exact ⟨0, j, Nat.zero_le _, rfl, by rw [List.getElem?_eq_getElem hj, e]⟩
    | false =>
      rw [hy] at h
      rcases List.mem_cons.1 hx with e | hx
      · subst e; rw [hq] at hy; cases hy
      · obtain ⟨i, j, h1, h2, h3⟩ := ih (List.nodup_cons.1 hn).2 h hx
        exact ⟨i + 1, j + 1, by omega, by simpa using h2, by simpa using h3⟩
structure Rng (nx : Nat → List Nat) (L a : Nat) (r : List Nat) : Prop where
  way : ∃ p, WayF (Sp.ge nx a) L [a] p r ∧ a ∈ nx p
  ge : ∀ x ∈ r, a ≤ x
theorem rfm_rng (hlt : ∀ i, (nx i).Pairwise (· < ·)) (hb : ∀ i, ∀ x ∈ nx i, x < L) (ha : a < L) (h : Sp.rfm nx L a ≠ []) : Rng nx L a (Sp.rfm nx L a) := by
  have H := rs_BI hlt hb ha
  unfold Sp.rfm at h ⊢
  cases hf : (Sp.rs nx L a).ord.find? (fun p => decide (a ∈ nx p)) with
  | none => rw [hf] at h; exact absurd rfl h
  | some p =>
    have hp := List.mem_of_find?_eq_some hf
    have hq : a ∈ nx p := by simpa using List.find?_some hf
    have hw := (chn_way H ((Sp.rs nx L a).ps p) p hp (Nat.le_refl _)).1
    dsimp only
    refine ⟨⟨p, hw, hq⟩, fun x hx => ?_⟩
    obtain ⟨i, hi, e⟩ := List.mem_iff_getElem.1 hx
    cases i with
    | zero => have := hw.hd x (by rw [List.getElem?_eq_getElem hi, e]); simp at this; exact Nat.le_of_eq this.symm
    | succ i => exact (ge_mem.1 (hw.ed i _ x (List.getElem?_eq_getElem (Nat.lt_of_succ_lt hi)) (by rw [List.getElem?_eq_getElem hi, e]))).2
theorem rfm_least (hlt : ∀ i, (nx i).Pairwise (· < ·)) (hb : ∀ i, ∀ x ∈ nx i, x < L) (ha : a < L) {f : Nat → Nat} {n : Nat} (h0 : f 0 = a) (hn : f (n + 1) = a) (hge : ∀ i, a ≤ f i) (hf : ∀ i, f (i + 1) ∈ nx (f i)) : Sp.rfm nx L a ≠ [] ∧ (Sp.rfm nx L a).length ≤ n + 1 := by
  have H := rs_BI hlt hb ha
  have hw := walk_lv H h0 (n := n) (fun i _ => ge_mem.2 ⟨hf i, hge _⟩) n (Nat.le_refl _)
  have hq : a ∈ nx (f n) := by rw [← hn]; exact hf n
  unfold Sp.rfm
  cases hfd : (Sp.rs nx L a).ord.find? (fun p => decide (a ∈ nx p)) with
  | none => have := List.find?_eq_none.1 hfd (f n) hw.1; simp at this; exact absurd hq this
  | some p =>
    have hp := List.mem_of_find?_eq_some hfd
    have hl := chn_lv H hp
    obtain ⟨i, j, hij, hi, hj⟩ := find_pos H.nd hfd hw.1 (by simpa using hq)
    have e1 := nd_at H.nd hi (H.pl p hp)
    have e2 := nd_at H.nd hj (H.pl (f n) hw.1)
    have h3 := H.lvmono _ p hp (f n) hw.1 (Nat.le_refl _) (by omega)
    have hw2 := hw.2
    have hlen : ((Sp.rs nx L a).chn ((Sp.rs nx L a).ps p) p).reverse.length ≤ n + 1 := by rw [List.length_reverse, hl]; omega
    refine ⟨?_, hlen⟩
    intro e
    have := congrArg List.length e
    rw [List.length_reverse, hl] at this; simp at this
theorem fun_min (f : Nat → Nat) : ∀ v i, f i ≤ v → ∃ i0, ∀ j, f i0 ≤ f j
  | 0, i, h => ⟨i, fun j => by omega⟩
  | v + 1, i, h => by
    by_cases hj : ∃ j, f j ≤ v
    · obtain ⟨j, hj⟩ := hj; exact fun_min f v j hj
    · exact ⟨i, fun j => Nat.le_of_not_lt fun h2 => hj ⟨j, by omega⟩⟩
theorem rgs_nil : ∀ k, Sp.rgs nx L k = [] ↔ ∀ i, i < k → Sp.rfm nx L i = []
  | 0 => by simp [Sp.rgs]
  | k + 1 => by
    have ih := rgs_nil k
    rw [Sp.rgs]
    split
    · rename_i h
      exact ⟨fun e => absurd e h.1, fun e => absurd (e k (by omega)) h.1⟩
    · rename_i h
      refine ⟨fun e i hi => ?_, fun e => ih.2 fun i hi => e i (by omega)⟩
      rcases Nat.lt_or_ge i k with h1 | h1
      · exact ih.1 e i h1
      · have : i = k := by omega
        subst this
        exact Classical.byContradiction fun h2 => h ⟨h2, .inl e⟩
theorem rgs_min : ∀ k, Sp.rgs nx L k ≠ [] → (∃ i, i < k ∧ Sp.rgs nx L k = Sp.rfm nx L i) ∧ ∀ i, i < k → Sp.rfm nx L i ≠ [] → (Sp.rgs nx L k).length ≤ (Sp.rfm nx L i).length
  | 0, h => absurd rfl h
  | k + 1, h => by
    rw [Sp.rgs] at h ⊢
    split
    · rename_i hc
      refine ⟨⟨k, by omega, rfl⟩, fun i hi hne => ?_⟩
      rcases Nat.lt_or_ge i k with h1 | h1
      · rcases hc.2 with h2 | h2
        · exact absurd ((rgs_nil k).1 h2 i h1) hne
        · by_cases h3 : Sp.rgs nx L k = []
          · rw [h3] at h2; simp at h2
          · have := (rgs_min k h3).2 i h1 hne; omega
      · have : i = k := by omega
        subst this; exact Nat.le_refl _
    · rename_i hc
      rw [if_neg hc] at h
      obtain ⟨⟨i, hi, e⟩, h2⟩ := rgs_min k h
      refine ⟨⟨i, by omega, e⟩, fun j hj hne => ?_⟩
      rcases Nat.lt_or_ge j k with h1 | h1
      · exact h2 j h1 hne
      · have : j = k := by omega
        subst this
        exact Nat.le_of_not_lt fun h3 => hc ⟨hne, .inr h3⟩
theorem rgs_least (hlt : ∀ i, (nx i).Pairwise (· < ·)) (hb : ∀ i, ∀ x ∈ nx i, x < L) {f : Nat → Nat} {n : Nat} (hp : ∀ i, f (i + (n + 1)) = f i) (hL : ∀ i, f i < L) (hf : ∀ i, f (i + 1) ∈ nx (f i)) : Sp.rgs nx L L ≠ [] ∧ (Sp.rgs nx L L).length ≤ n + 1 := by
  obtain ⟨i0, hi⟩ := fun_min f (f 0) 0 (Nat.le_refl _)
  have h := rfm_least (a := f i0) hlt hb (hL i0) (f := fun j => f (i0 + j)) (n := n) rfl (hp i0) (fun j => hi _) (fun j => hf _)
  have hne : Sp.rgs nx L L ≠ [] := fun e => h.1 ((rgs_nil L).1 e _ (hL i0))
  exact ⟨hne, Nat.le_trans ((rgs_min L hne).2 _ (hL i0) h.1) h.2⟩
theorem way_round {a b : Nat} {w : List Nat} (hw : WayF nx L [a] b w) (hab : a ∈ nx b) : (∀ i, w.getD ((i + (w.length - 1 + 1)) % w.length) 0 = w.getD (i % w.length) 0) ∧ (∀ i, w.getD (i % w.length) 0 < L) ∧ ∀ i, w.getD ((i + 1) % w.length) 0 ∈ nx (w.getD (i % w.length) 0) := by
  have hpos := hw.pos
  have e : w.length - 1 + 1 = w.length := by omega
  refine ⟨fun i => ?_, fun i => ?_, fun i => ?_⟩
  · simp only [e, Nat.add_mod_right]
  · have h := Nat.mod_lt i hpos
    simp only [List.getD_eq_getElem?_getD, List.getElem?_eq_getElem h]
    exact hw.bd _ (List.getElem_mem h)
  · have h := Nat.mod_lt i hpos
    have hx := List.getElem?_eq_getElem h
    simp only [List.getD_eq_getElem?_getD]
    rw [hx]
    by_cases hl : i % w.length + 1 < w.length
    · have : (i + 1) % w.length = i % w.length + 1 := by
        rw [Nat.add_mod, Nat.mod_eq_of_lt (show 1 < w.length by omega), Nat.mod_eq_of_lt hl]
      rw [this]
      have hy := List.getElem?_eq_getElem hl
      rw [hy]
      exact hw.ed _ _ _ hx hy
    · have e1 : i % w.length = w.length - 1 := by omega
      have : (i + 1) % w.length = 0 := by
        rw [Nat.add_mod, e1]
        by_cases h1 : w.length = 1
        · rw [h1]
        · rw [Nat.mod_eq_of_lt (show 1 < w.length by omega), e, Nat.mod_self]
      rw [this]
      have hy := List.getElem?_eq_getElem hpos
      rw [hy]
      have h0 := hw.hd _ hy
      simp at h0
      have hla := hw.la
      rw [← e1, hx] at hla
      have hz := Option.some.inj hla
      simp only [Option.getD_some]
      rw [hz, h0]; exact hab
theorem WayF.wide {nx' : Nat → List Nat} {src : List Nat} {b : Nat} {w : List Nat} (h : WayF nx' L src b w) (hs : ∀ i, ∀ x ∈ nx' i, x ∈ nx i) : WayF nx L src b w := ⟨h.nd, h.hd, h.ne, fun i x y h1 h2 => hs _ _ (h.ed i x y h1 h2), h.la, h.bd⟩
end
end Go.Proofs.YtikhpbidbcfedaaGreat

/- Plain mathematics: no way back by an edge is shorter than the ring, and from each node of the ring it is as long. -/
namespace Go.Proofs.YtikhpbidbcfedaaGreat

section
variable {nx : Nat → List Nat} {L : Nat}
theorem short1 (hlt : ∀ i, (nx i).Pairwise (· < ·)) (hb : ∀ i, ∀ x ∈ nx i, x < L) {a b : Nat} (hbL : b < L) (hab : b ∈ nx a) (h : a ∈ (Bf.all nx (-1) L [b]).ord) : Sp.rgs nx L L ≠ [] ∧ (Sp.rgs nx L L).length ≤ ((Bf.all nx (-1) L [b]).chn ((Bf.all nx (-1) L [b]).ps a) a).reverse.length := by
  have H : BI nx (-1) L [b] (Bf.all nx (-1) L [b]) (Bf.all nx (-1) L [b]).ord.length [] := all_BI hlt hb (by simpa using hbL)
  generalize Bf.all nx (-1) L [b] = s at *
  have hw := (chn_way H (s.ps a) a h (Nat.le_refl _)).1
  have hpos := hw.pos
  obtain ⟨h1, h2, h3⟩ := way_round hw hab
  have h4 := rgs_least hlt hb (f := fun i => (s.chn (s.ps a) a).reverse.getD (i % (s.chn (s.ps a) a).reverse.length) 0) (n := (s.chn (s.ps a) a).reverse.length - 1) h1 h2 h3
  exact ⟨h4.1, by omega⟩
theorem rgs_way (hlt : ∀ i, (nx i).Pairwise (· < ·)) (hb : ∀ i, ∀ x ∈ nx i, x < L) (h : Sp.rgs nx L L ≠ []) : ∃ a p, a < L ∧ WayF nx L [a] p (Sp.rgs nx L L) ∧ a ∈ nx p := by
  obtain ⟨⟨i, hi, e⟩, _⟩ := rgs_min L h
  rw [e] at h ⊢
  obtain ⟨p, hw, hp⟩ := (rfm_rng hlt hb hi h).way
  exact ⟨i, p, hi, hw.wide (fun j x hx => (ge_mem.1 hx).1), hp⟩
end
end Go.Proofs.YtikhpbidbcfedaaGreat

