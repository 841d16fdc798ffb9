/- graph.ringFrom: the ring that begins at a node. -/
import Derived.Test.YtikhpbidbcfedaaGreatKp19
namespace Go.Proofs.YtikhpbidbcfedaaGreat
open Go.RowKit Go.ChangeMaps

def RnE (w : World) (L gi : Nat) (l : List Nat) (e : Ending) (w' : World) : Prop := ∃ gs c, e = .returned (.slice (adr gs) l.length c) ∧ NdI w' gs c (l.map fun j : Nat => (j : Int)) ∧ (∀ g, gs = some g → w.heap.size ≤ g) ∧ OwnR w' 3 gi L L (iv (List.replicate L (-1))) ∧ Kw (fun k => k = gi) w w'

theorem wp_np {P : Program} {c : Code} {Q : Exit → Act → World → Prop} {a : Act} {w : World} (h : Code.wp P c (fun e a w => (∀ p, e ≠ .panic p) ∧ Q e a w) a w) : Code.wp P c Q a w := Code.wp_mono (fun _ _ _ h => h.2) h
set_option maxRecDepth 100000 in
set_option maxHeartbeats 8000000 in
theorem ringFrom_any (w0 : World) (gb : Nat) (N : List Int) (nx : Nat → List Nat) (gn : Option Nat) (cn lo xb : Nat) (bl : Nat → Option Nat) (cp : Nat → Nat) (gi a : Nat) (w : World) (h : GR w0 gb N nx gn cn lo xb bl cp) (hw : Below w0.heap.size w0 w) (hgi : w0.heap.size ≤ gi) (ho : OwnR w 3 gi N.length N.length (iv (List.replicate N.length (-1)))) (ha : a < N.length) (hb : ∀ i, ∀ x ∈ nx i, x < N.length) (hn : N.length ≤ 4096) (hnl : ∀ p, (nx p).length ≤ 4096) (hlt : ∀ i, (nx i).Pairwise (· < ·)) :
    Calls Tryz.prog 39 #[.pointer (some ⟨gb, 0, none⟩), .int .i64 (a : Int), .slice (some ⟨gi, 0, none⟩) N.length N.length] w (RnE w N.length gi (Sp.rfm nx N.length a)) := by
  have HG : Hid (∀ W : World, Kw (fun k => k = gi) w W → GR W gb N nx gn cn lo xb bl cp) := fun W hW => h.keep (kw_below hw hW hgi hw.size)
  have HB : Hid ((∀ i, ∀ x ∈ nx i, x < N.length) ∧ (∀ p, (nx p).length ≤ 4096) ∧ ∀ i, (nx i).Pairwise (· < ·)) := ⟨hb, hnl, hlt⟩
  have HFD : Hid (∀ {k p : Nat}, k ≤ N.length → (Sp.rk nx a k).ord[k]? = some p → a ∈ nx p → Sp.nbk nx a k → Sp.rfm nx N.length a = ((Sp.rk nx a k).chn ((Sp.rk nx a k).ps p) p).reverse) := fun hk hp hq hn => rfm_found hlt hb ha hk hp hq hn
  have HNO : Hid (∀ {k : Nat}, k ≤ N.length → (Sp.rk nx a k).ord.length ≤ k → Sp.nbk nx a k → Sp.rfm nx N.length a = []) := fun hk hl hn => rfm_no hk hl hn
  have HW : Hid (∀ k, k ≤ N.length → Bok N.length (Sp.rk nx a k) ∧ (∀ x ∈ (Sp.rk nx a k).ord, (Sp.rk nx a k).bq x ≠ x → (Sp.rk nx a k).bq x ∈ (Sp.rk nx a k).ord ∧ (Sp.rk nx a k).ps ((Sp.rk nx a k).bq x) < (Sp.rk nx a k).ps x) ∧ ∀ x ∈ (Sp.rk nx a k).ord, ((Sp.rk nx a k).chn ((Sp.rk nx a k).ps x) x).length ≤ N.length) := fun k hk => by
    have h1 := rk_wy hlt hb ha k
    exact ⟨⟨h1.2.2.2, h1.1⟩, h1.2.1, fun x hx => rk_chn hlt hb ha hk hx⟩
  have hgl := ho.lt
  have haz : (a : Int) < (N.length : Int) := by omega
  obtain ⟨L, hL⟩ : ∃ L, N.length = L := ⟨_, rfl⟩
  have HL : Hid (N.length = L) := hL
  rw [hL] at hn HFD HNO HW ho ha haz ⊢
  obtain ⟨W1, hW1⟩ : ∃ W1, w.alloc (.cells #[.slice (some ⟨gi, 0, none⟩) L L] 60) = W1 := ⟨_, rfl⟩
  have hb1 : Below w.heap.size w W1 := by rw [← hW1]; exact (Below.refl _ _).alloc (Nat.le_refl _) _
  have hz1 : W1.heap.size = w.heap.size + 1 := by rw [← hW1]; exact al_size _ _
  have h10 : W1.heap[w.heap.size]? = some (.cells #[.slice (some ⟨gi, 0, none⟩) L L] 60 (0, 0)) := by rw [← hW1]; exact heap_alloc_new _ _
  have hc1 : W1.cell? ⟨w.heap.size, 0, none⟩ = some (.slice (some ⟨gi, 0, none⟩) L L) := by simp [World.cell?, h10]
  have ho1 := ho.keep (hb1.block gi hgl)
  have hca : W1.cell? ⟨gi, a, none⟩ = some (.int .i64 (-1)) := ho1.cell (by simp [iv, ha])
  have hfa := ho1.free a
  have H0 : Hid (∀ W : World, W = ((W1.setCell ⟨gi, a, none⟩ (.int .i64 (a : Int))).alloc (.cells #[.int .i64 (a : Int)] 3)).alloc (.cells #[.slice (some ⟨w.heap.size + 1, 0, none⟩) 1 1] 60) → RnI w L gi w.heap.size (w.heap.size + 1 + 1) (Sp.byl L (Sp.rk nx a 0)) (Sp.rk nx a 0).ord (w.heap.size + 1) 1 W) := fun W hW => RnI.start ho1 hb1 hz1 h10 hgl hW
  have HDF : Hid (∀ (s : Bf) (g c : Nat) (W : World), RnI w L gi w.heap.size (w.heap.size + 1 + 1) (Sp.byl L s) s.ord g c W → Bok L s → CallsD Tryz.prog 63 #[.pointer (some ⟨w.heap.size + 1 + 1, 0, none⟩), .pointer (some ⟨w.heap.size, 0, none⟩)] .returning W fun e u' w' => u' = .returning ∧ e = .returned (.tuple #[]) ∧ OwnR w' 3 gi L L (iv (List.replicate L (-1))) ∧ Kw (fun k => k = gi) w w' ∧ ∀ k, k < W.heap.size → k ≠ gi → w'.heap[k]? = W.heap[k]?) := fun s g c W hR hk => by
    refine (rfe_any w L gi w.heap.size (w.heap.size + 1 + 1) (Sp.byl L s) s.ord g c .returning W hR hk.bd (by have := hk.len; omega)).mono ?_
    rintro e u' w' ⟨q1, q2, q3, q4⟩
    refine ⟨q1, q2, ?_, q3.kw, fun k h1 h2 => q4.block k h1 h2⟩
    have := q3.byl
    rwa [clr_byl] at this
  have HGI : Hid (gi < w.heap.size) := hgl
  clear h hw hgi ho hgl hL ho1 hb1 h10 hb hnl hlt
  go_enter_defers Tryz.func39, Tryz.ntmps39
  go_wp2_with fail
  clear hc1 hca hfa hz1
  go_loopw [8] (fun v8 wr => ∃ k g c : Nat, v8 = .int .i64 (k : Int) ∧ k ≤ L ∧ Hid (RnI w L gi w.heap.size (w.heap.size + 1 + 1) (Sp.byl L (Sp.rk nx a k)) (Sp.rk nx a k).ord g c wr) ∧ Hid (Sp.nbk nx a k)) (fun v8 _ => L - (intOf v8).toNat)
  case atStart => exact ⟨0, _, _, rfl, Nat.zero_le _, H0.out _ rfl, nbk_0⟩
  case round =>
    as_aux_lemma =>
    clear H0 hW1
    obtain ⟨k, g, c, rfl, hkL, HR, HN⟩ := hrel
    obtain ⟨k1, k2, _⟩ := HR.out.c1
    have hlen : (Sp.rk nx a k).ord.length ≤ 4096 := by have := (HW.out k hkL).1.len; omega
    by_cases hkm : k < (Sp.rk nx a k).ord.length
    · have hkz : (k : Int) < ((Sp.rk nx a k).ord.length : Int) := by omega
      obtain ⟨p, hp⟩ : ∃ p, (Sp.rk nx a k).ord[k]? = some p := ⟨_, List.getElem?_eq_getElem hkm⟩
      have hpL : p < L := (HW.out k hkL).1.bd p (List.mem_of_getElem? hp)
      have hpz : (p : Int) < (L : Int) := by omega
      have HP : Hid ((Sp.rk nx a k).ord[k]? = some p) := hp
      have hpc : wr.cell? ⟨g, k, none⟩ = some (.int .i64 (p : Nat)) := HR.out.ord.cell (by simp [iv, hp])
      have HGk : Hid (GR wr gb N nx gn cn lo xb bl cp) := HG.out wr HR.out.kw
      have hc2 : wr.cell? ⟨gb, 2, none⟩ = some (.slice (some ⟨xb, 0, none⟩) L L) := by rw [← HL.out]; exact HGk.out.c2
      have hcr : wr.cell? ⟨xb, p, none⟩ = some (.slice (adr (bl p)) (nx p).length (cp p)) := (HGk.out.row (by rw [HL.out]; exact hpL)).1
      have hnlp := HB.out.2.1 p
      clear hp
      go_wp2_with fail
      go_region
      go_wp2_with fail
      have HRd : Hid (RnI w L gi w.heap.size (w.heap.size + 1 + 1) (Sp.byl L (Sp.rk nx a k)) (Sp.rk nx a k).ord g c wr.drew) := HR.out.keep (Below.refl _ _).drew
      clear hpc hc2 hcr HGk k1 k2 hkz HR
      have HRJ : Hid (∀ j, Bok L (Sp.rj nx a k p j)) := fun j => by
        have := rj_ok (j := j) (p := p) (L := L) (nx := nx) (a := a) (k := k) (by rw [← HL.out]; exact HB.out.1) ⟨(HW.out k hkL).1.nd, (HW.out k hkL).1.bd⟩
        exact ⟨this.1, this.2⟩
      have HR0 : Hid (RnI w L gi w.heap.size (w.heap.size + 1 + 1) (Sp.byl L (Sp.rj nx a k p 0)) (Sp.rj nx a k p 0).ord g c wr.drew) := by rw [rj_0]; exact HRd.out
      have hkL' : k < L := by have := (HW.out k hkL).1.len; omega
      clear HRd hlen
      as_aux_lemma =>
      go_loopw [35] (fun v35 wr2 => ∃ j g c : Nat, v35 = .int .i64 (j : Int) ∧ j ≤ (nx p).length ∧ Hid (RnI w L gi w.heap.size (w.heap.size + 1 + 1) (Sp.byl L (Sp.rj nx a k p j)) (Sp.rj nx a k p j).ord g c wr2) ∧ Hid (a ∉ (nx p).take j)) (fun v35 _ => (nx p).length - (intOf v35).toNat)
      case atStart => exact ⟨0, _, _, rfl, Nat.zero_le _, HR0.out, by show a ∉ _; simp⟩
      case round =>
        clear HR0
        obtain ⟨j, g, c, rfl, hj, HR, HA⟩ := hrel
        by_cases hjl : j < (nx p).length
        · have hjz : (j : Int) < ((nx p).length : Int) := by omega
          obtain ⟨n, hx⟩ : ∃ n, (nx p)[j]? = some n := ⟨_, List.getElem?_eq_getElem hjl⟩
          have HX : Hid ((nx p)[j]? = some n) := hx
          have HGk : Hid (GR wr gb N nx gn cn lo xb bl cp) := HG.out wr HR.out.kw
          obtain ⟨b, hbp, hcx⟩ := (HGk.out.row (by rw [HL.out]; exact hpL)).2 j n hx
          have had : adr (bl p) = some ⟨b, 0, none⟩ := by rw [hbp]; rfl
          have hnL : n < L := by rw [← HL.out]; exact HB.out.1 p n (List.mem_of_getElem? hx)
          have hnz : (n : Int) < (L : Int) := by omega
          obtain ⟨k1, k2, k3⟩ := HR.out.c1
          have HPP : Hid (p ∈ (Sp.rj nx a k p j).ord ∧ (Sp.rj nx a k p j).ord[k]? = some p) := by
            have h1 := (rj_ext nx a k p j).pre HP.out
            exact ⟨List.mem_of_getElem? h1, h1⟩
          have hpc : wr.cell? ⟨g, k, none⟩ = some (.int .i64 (p : Nat)) := HR.out.ord.cell (by simp [iv, HPP.out.2])
          have hko : k < (Sp.rj nx a k p j).ord.length := (List.getElem?_eq_some_iff.1 HPP.out.2).1
          have hkoz : (k : Int) < ((Sp.rj nx a k p j).ord.length : Int) := by omega
          have hol : (Sp.rj nx a k p j).ord.length ≤ 4096 := by have := (HRJ.out j).len; omega
          clear hx HGk hbp
          by_cases hna : n = a
          · as_aux_lemma =>
            subst hna
            have HF : Hid (Sp.rj nx n k p j = Sp.rk nx n k) := rj_first (HB.out.2.2 p) HX.out
            have HR2 : Hid (RnI w L gi w.heap.size (w.heap.size + 1 + 1) (Sp.byl L (Sp.rk nx n k)) (Sp.rk nx n k).ord g c wr) := by rw [← HF.out]; exact HR.out
            have hpm : p ∈ (Sp.rk nx n k).ord := List.mem_of_getElem? HP.out
            have HFF : Hid (Sp.rfm nx L n = ((Sp.rk nx n k).chn ((Sp.rk nx n k).ps p) p).reverse) := HFD.out hkL HP.out (List.mem_of_getElem? HX.out) HN.out
            have HBK : Hid (Bok L (Sp.rk nx n k)) := (HW.out k hkL).1
            have HWY : Hid (∀ (o : Value) (W : World), Below wr.heap.size wr W → Calls Tryz.prog 33 #[.agg #[.slice (some ⟨gi, 0, none⟩) L L, o], .int .i64 (p : Int)] W (WayE W (Sp.rfm nx L n))) := fun o W hW => by
              rw [HFF.out]
              exact way_gen L (Sp.rk nx n k) (HW.out k hkL).1.bd (HW.out k hkL).2.1 gi o p W hpm ((HW.out k hkL).2.2 p hpm) (HR2.out.byl.keep (hW.block gi HR2.out.byl.lt)) hn
            have HKW : Hid (w.heap.size ≤ wr.heap.size) := HR2.out.kw.size
            rw [HF.out] at k2 hkoz hol hko
            clear HR HF HFF hpm HRJ HPP HFD HNO HW HA HN
            go_wp2_with fail
            refine wp_np ?_
            refine wp_region_held_drew (S := fun X => X.cell? ⟨w.heap.size, 0, none⟩ = some (.slice (some ⟨gi, 0, none⟩) L L) ∧ X.cell? ⟨w.heap.size + 1 + 1, 0, none⟩ = some (.slice (some ⟨g, 0, none⟩) (Sp.rk nx n k).ord.length c) ∧ X.cell? ⟨g, k, none⟩ = some (.int .i64 (p : Nat))) (by kernel_rfl) ?_ (fun hHeld => ?_)
            · exact ⟨k1, k2, hpc⟩
            refine tkH (i := 0) (v := ?_) rfl (by kernel_rfl) (by rfl) ?_ (by assumption) ?_ (fun _ _ _ h => (h.1 _ rfl).elim)
            rotate_left
            · intro W hSw; (try dsimp only at hSw); go_simp; try (with_reducible rfl)
            simp only [Act.put, lsA, lsB, lsC]
            refine tkH (i := 1) (v := ?_) rfl (by kernel_rfl) (by rfl) ?_ (by assumption) ?_ (fun _ _ _ h => (h.1 _ rfl).elim)
            rotate_left
            · intro W hSw; (try dsimp only at hSw); go_simp; try (with_reducible rfl)
            simp only [Act.put, lsA, lsB, lsC]
            refine tkH (i := 2) (v := ?_) rfl (by kernel_rfl) (by rfl) ?_ (by assumption) ?_ (fun _ _ _ h => (h.1 _ rfl).elim)
            rotate_left
            · intro W hSw; (try dsimp only at hSw); go_simp; try (with_reducible rfl)
            simp only [Act.put, lsA, lsB, lsC]
            refine tkH (i := 3) (v := ?_) rfl (by kernel_rfl) (by rfl) ?_ (by assumption) ?_ (fun _ _ _ h => (h.1 _ rfl).elim)
            rotate_left
            · intro W hSw; (try dsimp only at hSw); go_simp; try (with_reducible rfl)
            simp only [Act.put, lsA, lsB, lsC]
            refine tkH (i := 4) (v := ?_) rfl (by kernel_rfl) (by rfl) ?_ (by assumption) ?_ (fun _ _ _ h => (h.1 _ rfl).elim)
            rotate_left
            · intro W hSw; (try dsimp only at hSw); go_simp; try (with_reducible rfl)
            simp only [Act.put, lsA, lsB, lsC]
            refine tkH (i := 5) (v := ?_) rfl (by kernel_rfl) (by rfl) ?_ (by assumption) ?_ (fun _ _ _ h => (h.1 _ rfl).elim)
            rotate_left
            · intro W hSw; (try dsimp only at hSw); go_simp; try (with_reducible rfl)
            simp only [Act.put, lsA, lsB, lsC]
            refine wpAnyH_ready (rs := [6]) (by kernel_rfl) (by simp) ?_
            refine arC (i := 6) rfl (fun K hK => ?_) AllReadyH.nil
            go_simp
            refine (HWY.out _ _ (by first | exact (Below.refl _ _).drew | exact Below.refl _ _)).mono ?_
            rintro e w4 ⟨g4, c4, rfl, ho4, hlo4, hb4⟩
            have HB4 : Hid (Below wr.heap.size wr w4 ∧ OwnR w4 3 g4 (Sp.rfm nx L n).length c4 (iv ((Sp.rfm nx L n).map fun j : Nat => (j : Int))) ∧ wr.heap.size ≤ g4) := ⟨⟨hb4.os, hb4.tape, hb4.output, hb4.size, hb4.block⟩, ho4, hlo4⟩
            clear hb4 ho4 hlo4
            have HR3 : Hid (RnI w L gi w.heap.size (w.heap.size + 1 + 1) (Sp.byl L (Sp.rk nx n k)) (Sp.rk nx n k).ord g c w4) := HR2.out.keep HB4.out.1
            obtain ⟨m1, m2, _⟩ := HR3.out.c1
            have m3 : w4.cell? ⟨g, k, none⟩ = some (.int .i64 (p : Nat)) := HR3.out.ord.cell (by simp [iv, HP.out])
            go_wp2_with fail
            refine hK.out _ _ ?_ (fun hHeld => ?_)
            · exact ⟨m1, m2, m3⟩
            clear hK K
            refine tkH (i := 7) (v := ?_) rfl (by kernel_rfl) (by rfl) ?_ (by assumption) ?_ (fun _ _ _ h => (h.1 _ rfl).elim)
            rotate_left
            · intro W hSw; (try dsimp only at hSw); go_simp; try (with_reducible rfl)
            simp only [Act.put, lsA, lsB, lsC]
            refine wpAnyH_done (by kernel_rfl) ?_ _
            refine ⟨(fun _ h => by cases h), ?_⟩
            clear HR2 HWY k1 k2 k3 hpc hcx m1 m2 m3
            go_wp2_with fail
            refine leaves_cons (f := 63) (args := #[.pointer (some ⟨w.heap.size + 1 + 1, 0, none⟩), .pointer (some ⟨w.heap.size, 0, none⟩)]) (by simp) (by simp [go_sem]) ?_
            refine (HDF.out _ g c _ HR3.out HBK.out).mono ?_
            rintro e u' w5 ⟨rfl, rfl, q1, q2, q3⟩
            have HQ : Hid (RnE w L gi (Sp.rfm nx L n) (.returned (.slice (some ⟨g4, 0, none⟩) (Sp.rfm nx L n).length c4)) w5) := by
              have hgg : gi < w4.heap.size := HR3.out.byl.lt
              have hg4 := HB4.out.2.1.lt
              have h4 : g4 ≠ gi := by have := HB4.out.2.2; have := HR3.out.kw.size; have := HGI.out; have := HKW.out; omega
              refine ⟨some g4, c4, rfl, ⟨(fun e => by cases e), fun g' hg' => ?_⟩, fun g' hg' => ?_, q1, q2⟩
              · injection hg' with hg'; subst hg'; rw [List.length_map]; exact HB4.out.2.1.keep (q3 _ hg4 h4)
              · injection hg' with hg'; subst hg'; have := HB4.out.2.2; have := HKW.out; omega
            clear q1 q2 q3
            simp [Leaves, settle, results, Tryz.results39, go_sem]
            exact HQ.out
          · as_aux_lemma =>
            have hnb : ((n : Int) == (a : Int)) = false := by simp; omega
            have HA2 : Hid (a ∉ (nx p).take (j + 1)) := by
              show a ∉ _
              rw [List.take_add_one, HX.out]
              intro h
              rcases List.mem_append.1 h with h | h
              · exact HA.out h
              · simp at h; exact hna h.symm
            have hby := HR.out.byl.cell (t := n) (x := .int .i64 (if n ∈ (Sp.rj nx a k p j).ord then ((Sp.rj nx a k p j).bq n : Int) else -1)) (by simp [iv, byl_at _ hnL])
            by_cases hgt : a < n
            · have hgz : (a : Int) < (n : Int) := by omega
              by_cases hin : n ∈ (Sp.rj nx a k p j).ord
              · as_aux_lemma =>
                rw [if_pos hin] at hby
                have hbn : (((Sp.rj nx a k p j).bq n : Int) == -1) = false := by simp
                have HR2 : Hid (RnI w L gi w.heap.size (w.heap.size + 1 + 1) (Sp.byl L (Sp.rj nx a k p (j + 1))) (Sp.rj nx a k p (j + 1)).ord g c wr) := by rw [rj_old HX.out (.inr hin)]; exact HR.out
                clear HR
                go_wp2_with fail
                go_roundw
                case rel => exact ⟨j + 1, g, c, by go_num, by omega, HR2.out, HA2.out⟩
                case measure => simp [intOf]; omega
              · as_aux_lemma =>
                rw [if_neg hin] at hby
                have kf := HR.out.byl.free n
                have HPUT : Hid (∃ q, Sp.rj nx a k p (j + 1) = (Sp.rj nx a k p j).put n p q) := rj_put HX.out (by omega) hin
                have HBY : Hid (∀ q, Sp.byl L ((Sp.rj nx a k p j).put n p q) = (Sp.byl L (Sp.rj nx a k p j)).set n (p : Int)) := fun q => byl_put
                go_wp2_with fail
                go_region
                obtain ⟨W5, hW5⟩ : ∃ W5, (wr.setCell ⟨gi, n, none⟩ (.int .i64 (p : Int))).drew = W5 := ⟨_, rfl⟩
                rw [hW5]
                have h5 : RnI w L gi w.heap.size (w.heap.size + 1 + 1) ((Sp.byl L (Sp.rj nx a k p j)).set n (p : Int)) (Sp.rj nx a k p j).ord g c W5 := by rw [← hW5]; exact (HR.out.setb n p).keep (Below.refl _ _).drew
                obtain ⟨g', c', w4, hap, ho4, hgr4, hor4⟩ := appI (some g) c ((Sp.rj nx a k p j).ord.map fun j : Nat => (j : Int)) W5 h5.nd (n : Int) (by rw [List.length_map]; omega) 60
                rw [List.length_map] at hap ho4
                have hadg : adr (some g) = some ⟨g, 0, none⟩ := rfl
                rw [hadg] at hap
                obtain ⟨k5, k6, _⟩ := h5.c1
                have hml := (Array.getElem?_eq_some_iff.1 h5.mbx).1
                have h4b : w4.heap[w.heap.size + 1 + 1]? = W5.heap[w.heap.size + 1 + 1]? := (hgr4.block _ (by rw [al_size]; omega) (fun e => by injection e with e; exact h5.lo.2.2.2.2.2.1 e.symm)).trans (Below.heap_alloc W5 _ _ hml)
                have k7 : w4.cell? ⟨w.heap.size + 1 + 1, 0, none⟩ = some (.slice (some ⟨g, 0, none⟩) (Sp.rj nx a k p j).ord.length c) := by simp [World.cell?, h4b, h5.mbx]
                have k8 : w4.frozen? ⟨w.heap.size + 1 + 1, 0, none⟩ = false := by simp [World.frozen?, h4b, h5.mbx]
                have HF2 : Hid (RnI w L gi w.heap.size (w.heap.size + 1 + 1) (Sp.byl L (Sp.rj nx a k p (j + 1))) (Sp.rj nx a k p (j + 1)).ord g' c' (w4.setCell ⟨w.heap.size + 1 + 1, 0, none⟩ (.slice (some ⟨g', 0, none⟩) ((Sp.rj nx a k p j).ord.length + 1) c'))) := by
                  obtain ⟨q, hq⟩ := HPUT.out
                  have := h5.grow ho4 hgr4 hor4
                  rw [hq, HBY.out q]
                  exact this
                clear hW5 ho4 hgr4 hor4 h5 hml h4b HPUT HBY k1 k2 k3 kf hby hadg hpc hcx
                go_wp2_with (at_builtin; refine wpList_ranS _ rfl _ _ 60 60 rfl _ _ _ _ rfl rfl hap ?_)
                rw [← had]
                go_roundw
                case rel => exact ⟨j + 1, g', c', by go_num, by omega, HF2.out, HA2.out⟩
                case measure => simp [intOf]; omega
            · have hgz : ¬ (a : Int) < (n : Int) := by omega
              have HR2 : Hid (RnI w L gi w.heap.size (w.heap.size + 1 + 1) (Sp.byl L (Sp.rj nx a k p (j + 1))) (Sp.rj nx a k p (j + 1)).ord g c wr) := by rw [rj_old HX.out (.inl (by omega))]; exact HR.out
              clear HR hby
              go_wp2_with fail
              go_roundw
              case rel => exact ⟨j + 1, g, c, by go_num, by omega, HR2.out, HA2.out⟩
              case measure => simp [intOf]; omega
        · obtain rfl : j = (nx p).length := by omega
          have HR2 : Hid (RnI w L gi w.heap.size (w.heap.size + 1 + 1) (Sp.byl L (Sp.rk nx a (k + 1))) (Sp.rk nx a (k + 1)).ord g c wr) := by rw [← rj_end HP.out]; exact HR.out
          have HN2 : Hid (Sp.nbk nx a (k + 1)) := nbk_next HN.out HP.out (by have := HA.out; rwa [List.take_of_length_le (Nat.le_refl _)] at this)
          clear HR
          go_wp2_with fail
          go_roundw
          case rel => exact ⟨k + 1, g, c, by go_num, by omega, HR2.out, HN2.out⟩
          case measure => simp [intOf]; omega
    · have HE : Hid (Sp.rfm nx L a = []) := HNO.out hkL (by omega) HN.out
      have HBK : Hid (Bok L (Sp.rk nx a k)) := (HW.out k hkL).1
      clear hlen
      go_wp2_with fail
      refine leaves_cons (f := 63) (args := #[.pointer (some ⟨w.heap.size + 1 + 1, 0, none⟩), .pointer (some ⟨w.heap.size, 0, none⟩)]) (by simp) (by simp [go_sem]) ?_
      refine (HDF.out _ g c wr HR.out HBK.out).mono ?_
      rintro e u' w4 ⟨rfl, rfl, q1, q2, q3⟩
      have HQ : Hid (OwnR w4 3 gi L L (iv (List.replicate L (-1))) ∧ Kw (fun k => k = gi) w w4) := ⟨q1, q2⟩
      clear q1 q2 q3
      simp [Leaves, settle, results, Tryz.results39, go_sem]
      exact ⟨none, 0, by rw [HE.out]; rfl, by rw [HE.out]; exact ⟨fun _ => ⟨rfl, rfl⟩, fun g hg => by cases hg⟩, (fun g hg => by cases hg), HQ.out⟩
end Go.Proofs.YtikhpbidbcfedaaGreat

