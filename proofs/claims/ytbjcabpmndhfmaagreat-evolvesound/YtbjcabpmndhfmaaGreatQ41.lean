/- tenonref07.fits of every type; Valid, Is of the document. -/
import Derived.Test.YtbjcabpmndhfmaaGreatQ37
import Derived.Test.YtbjcabpmndhfmaaGreatQ40
namespace Go.Proofs.YtbjcabpmndhfmaaGreat
open Go.RowKit

theorem Sp.hasL_zero (f : Tm → Bool × Int) : (l : TmL) → ∀ next, (Sp.hasL f l next).1 = true → (Sp.hasL f l next).2 = 0
  | .nil, _, _ => rfl
  | .cons x l, next, h => by
    simp only [Sp.hasL] at h ⊢
    split
    · rename_i e; rw [if_pos e] at h; exact Sp.hasL_zero f l _ h
    · rename_i e; rw [if_neg e] at h; try (cases h)
theorem Sp.hasD_zero (op : Bool) : (N : Nat) → ∀ (ns : List ByteArray) (ks : List Bool) (fs : List (Tm → Bool × Int)) (l : TmF) (next : Int), (Sp.hasD op N ns ks fs l next).1 = true → (Sp.hasD op N ns ks fs l next).2 = 0
  | 0, _, _, _, _, _, _ => rfl
  | N + 1, [], ks, fs, .nil, next, _ => rfl
  | N + 1, [], ks, fs, .cons m x l, next, h => by
    simp only [Sp.hasD] at h ⊢
    split
    · rename_i e; rw [if_pos e] at h; exact Sp.hasD_zero op N _ _ _ _ _ h
    · rename_i e; rw [if_neg e] at h; try (cases h)
  | N + 1, n :: ns, [], fs, .nil, next, _ => rfl
  | N + 1, n :: ns, [], fs, .cons _ _ _, next, _ => rfl
  | N + 1, n :: ns, k :: ks, [], .nil, next, _ => rfl
  | N + 1, n :: ns, k :: ks, [], .cons _ _ _, next, _ => rfl
  | N + 1, n :: ns, k :: ks, f :: fs, .nil, next, h => by
    simp only [Sp.hasD] at h ⊢
    split
    · rename_i e; rw [if_pos e] at h; exact Sp.hasD_zero op N _ _ _ _ _ h
    · rename_i e; rw [if_neg e] at h; try (cases h)
  | N + 1, n :: ns, k :: ks, f :: fs, .cons m x l, next, h => by
    simp only [Sp.hasD] at h ⊢
    split
    · rename_i e
      rw [if_pos e] at h
      split
      · rename_i e2; rw [if_pos e2] at h; exact Sp.hasD_zero op N _ _ _ _ _ h
      · rename_i e2; rw [if_neg e2] at h; try (cases h)
    · rename_i e
      rw [if_neg e] at h
      split
      · rename_i e2
        rw [if_pos e2] at h
        split
        · rename_i e3; rw [if_pos e3] at h; exact Sp.hasD_zero op N _ _ _ _ _ h
        · rename_i e3; rw [if_neg e3] at h; try (cases h)
      · rename_i e2
        rw [if_neg e2] at h
        split
        · rename_i e3; rw [if_pos e3] at h; exact Sp.hasD_zero op N _ _ _ _ _ h
        · rename_i e3; rw [if_neg e3] at h; try (cases h)
theorem Ty.has_zero (t : Ty) (v : Tm) : (t.has v).1 = true → (t.has v).2 = 0 := by
  cases t with
  | mk k o t p n l op c =>
    intro h
    simp only [Ty.has] at h ⊢
    split
    · rfl
    rename_i e1
    rw [if_neg e1] at h
    split
    · rfl
    rename_i e3
    rw [if_neg e3] at h
    split
    · rfl
    rename_i e4
    rw [if_neg e4] at h
    split
    · rename_i e5
      rw [if_pos e5] at h
      split
      · rename_i e8
        rw [if_pos e8] at h
        cases p with
        | nil => rfl
        | cons t0 p' => exact Sp.hasL_zero _ _ _ h
      · rfl
    rename_i e5
    rw [if_neg e5] at h
    split
    · rename_i e6
      rw [if_pos e6] at h
      split
      · rename_i e9; rw [if_pos e9] at h; exact Sp.hasD_zero op _ _ _ _ _ _ h
      · rfl
    rename_i e6
    rw [if_neg e6] at h
    split
    · rfl
    split <;> rfl
theorem Ty.fitR_small {k o : Int} {t : Tm} {p : TyL} {n : List ByteArray} {l : List Bool} {op : Bool} {c : ByteArray} {d r : Int} (h : r - 1 < 0 ∨ 64 < d) : (Ty.mk k o t p n l op c).fitR d r = (false, r - 1) := by
  simp only [Ty.fitR]; rw [if_pos (by omega)]
theorem rfit_any : ∀ N, RFitC N
  | 0 => fun t h => by cases t; simp [Ty.sz] at h
  | N + 1 => fun t hN cs B w r d hs hB h0 h1 h2 h3 => by
    cases t with
    | mk k o t p n l op c =>
      have hN' : p.sz ≤ N := by simp only [Ty.sz] at hN; omega
      obtain ⟨hz, c0, c1, -, c17, ap, cp, an, cn, ak, ck, -, -, -, -, -, -, -, ⟨-, -, -, hcz⟩⟩ := Ty.In_all hs
      by_cases hr : r - 1 < 0
      · exact rfit_a _ cs hz w r d h0 h1 h2 h3 hr (Ty.fitR_small (.inl hr))
      by_cases hd : 64 < d
      · exact rfit_b _ cs hz w r d h0 h1 h2 h3 hr hd (Ty.fitR_small (.inr hd))
      have hc1 : ¬ (r - 1 < 0 ∨ d > 64) := by omega
      by_cases k1 : k = 1
      · subst k1; exact rfit_1 _ cs hz w r d h0 h1 h2 h3 hr hd c0 (by simp only [Ty.fitR]; rw [if_neg hc1]; simp [Ty.own, Sp.parted])
      by_cases k2 : k = 2
      · subst k2; exact rfit_2 _ cs hz w r d h0 h1 h2 h3 hr hd c0 (by simp only [Ty.fitR]; rw [if_neg hc1]; simp [Ty.own, Sp.parted])
      by_cases k3 : k = 3
      · subst k3
        by_cases h5 : 1 ≤ o
        · by_cases h6 : o ≤ 10
          · exact rfit_3c _ cs hz w r d h0 h1 h2 h3 hr hd o h5 h6 c0 c1 (by simp only [Ty.fitR]; rw [if_neg hc1]; simp [Ty.own, Sp.parted, h5, h6])
          · exact rfit_3b _ cs hz w r d h0 h1 h2 h3 hr hd o h5 h6 c0 c1 (by simp only [Ty.fitR]; rw [if_neg hc1]; simp [Ty.own, h6])
        · exact rfit_3a _ cs hz w r d h0 h1 h2 h3 hr hd o h5 c0 c1 (by simp only [Ty.fitR]; rw [if_neg hc1]; simp [Ty.own, h5])
      by_cases k4 : k = 4
      · subst k4
        obtain ⟨-, -, -, ct, ht, hcs, hct⟩ := Ty.In_only hs
        exact rfit_4 _ cs hz w r d h0 h1 h2 h3 hr hd t B hB ct ht hcs hct c0 (by simp only [Ty.fitR]; rw [if_neg hc1]; simp)
      by_cases k5 : k = 5
      · subst k5
        by_cases hp : p.len = 1
        · exact rfit_5 N (rfit_any N) o t p hN' n l op c cs B w r d hs hB h0 h1 h2 h3 hr hd hp
        · exact rfit_5n N (rfit_any N) o t p hN' n l op c cs B w r d hs hB h0 h1 h2 h3 hr hd hp
      by_cases k6 : k = 6
      · subst k6
        by_cases q1 : n.length = p.len
        · by_cases q2 : l.length = p.len
          · by_cases q3 : 4096 < p.len
            · exact rfit_6c N (rfit_any N) o t p hN' n l op c cs B w r d hs hB h0 h1 h2 h3 hr hd q1 q2 q3
            · exact rfit_6 N (rfit_any N) o t p hN' n l op c cs B w r d hs hB h0 h1 h2 h3 hr hd q1 q2 (by omega)
          · exact rfit_6b N (rfit_any N) o t p hN' n l op c cs B w r d hs hB h0 h1 h2 h3 hr hd q1 q2
        · exact rfit_6a N (rfit_any N) o t p hN' n l op c cs B w r d hs hB h0 h1 h2 h3 hr hd q1
      by_cases k7 : k = 7
      · subst k7
        by_cases hp : 2 ≤ p.len
        · exact rfit_7 N (rfit_any N) o t p hN' n l op c cs B w r d hs hB h0 h1 h2 h3 hr hd hp
        · exact rfit_7n N (rfit_any N) o t p hN' n l op c cs B w r d hs hB h0 h1 h2 h3 hr hd hp
      by_cases k8 : k = 8
      · subst k8
        exact rfit_8 _ cs hz w r d h0 h1 h2 h3 hr hd c hcz c0 c17 (by simp only [Ty.fitR]; rw [if_neg hc1]; cases hn : Sp.isNm c <;> simp [Ty.own, Sp.parted, hn])
      · exact rfit_no _ cs hz w r d h0 h1 h2 h3 hr hd k k1 k2 k3 k4 k5 k6 k7 k8 c0 (by simp only [Ty.fitR]; rw [if_neg hc1]; simp [Ty.own, k1, k2, k3, k4, k5, k6, k7, k8])

set_option maxRecDepth 100000 in
set_option maxHeartbeats 2000000 in
theorem refValid_any (t : Ty) (cs : Array Value) (B : Nat → Prop) (w : World) (hs : t.In w B cs) (hB : Sub B w) : Calls Tryz.prog 32 #[.agg cs] w fun e w' => e = .returned (.bool t.can) ∧ Below w.heap.size w w' := by
  obtain ⟨hsz, -⟩ := Ty.In_cells hs
  obtain ⟨W1, hW1⟩ : ∃ W1, w.alloc (.cells cs 43) = W1 := ⟨_, rfl⟩
  have hb : Below w.heap.size w W1 := by rw [← hW1]; exact (Below.refl _ _).alloc (Nat.le_refl _) _
  have HBW : Hid (Below w.heap.size w W1) := hb
  have HL : Hid ((loadVar 43 ⟨w.heap.size, 0, none⟩).run Tryz.prog W1 = .ok (.agg cs) W1) := by rw [← hW1]; exact yld hsz (heap_alloc_new w _)
  have HF : Hid (Calls Tryz.prog 56 #[.agg #[.int .i64 16384], .agg cs, .int .i64 1] W1 (RFitE (t.fitR 1 16384) W1)) := rfit_any t.sz t (Nat.le_refl _) cs B W1 16384 1 (t.In_same (hB.same hb) (fun _ h => h) cs hs) (hB.later hb) (by decide) (by decide) (by decide) (by decide)
  rw [← Ty.can_ref]
  unfold RFitE at HF
  clear hs hB hb hsz
  generalize t.fitR 1 16384 = x at *
  obtain ⟨xb, xq⟩ := x
  go_enter Tryz.func32, Tryz.ntmps32
  go_wp2_with ((with_reducible refine ld_row ?_ ?_ HL.out ?_); rfl; rfl)
  refine HF.out.mono ?_
  rintro e w2 ⟨rfl, hb2⟩
  have H2 : Hid (∀ o, Below w.heap.size w (w2.alloc o)) := fun o => (HBW.out.trans (hb2.mono HBW.out.size)).alloc (Nat.le_trans HBW.out.size hb2.size) _
  clear hb2
  go_wp2_with fail
  go_ret
  exact ⟨rfl, H2.out _⟩
set_option maxRecDepth 100000 in
set_option maxHeartbeats 2000000 in
theorem refIs_any (v : Tm) (t : Ty) (ct cs : Array Value) (B : Nat → Prop) (w : World) (hv : v.In w B ct) (hs : t.In w B cs) (hB : Sub B w) :
    Calls Tryz.prog 22 #[.agg ct, .agg cs] w fun e w' => e = .returned (.tuple #[.bool (Sp.isA v t).1, .int .i64 (Sp.isA v t).2.1, .int .i64 (Sp.isA v t).2.2]) ∧ Below w.heap.size w w' := by
  obtain ⟨hsz, -⟩ := Ty.In_cells hs
  obtain ⟨W2, hW2, hb, hz2, b0, b1⟩ := is_boxes w ct cs
  have HBW : Hid (Below w.heap.size w W2) := hb
  have HL : Hid (∀ W, Below W2.heap.size W2 W → (loadVar 38 ⟨w.heap.size, 0, none⟩).run Tryz.prog W = .ok (.agg ct) W ∧ (loadVar 43 ⟨w.heap.size + 1, 0, none⟩).run Tryz.prog W = .ok (.agg cs) W ∧ Same B w W ∧ Sub B W ∧ Below w.heap.size w W) := fun W hW => by
    have hbw := hb.trans (hW.mono hb.size)
    exact ⟨yldT (Tm.In_size hv) (fun x hx => by rw [Nat.zero_add, hW.cell (p := ⟨w.heap.size, x, none⟩) (by show w.heap.size < _; omega), cell_of_row _ _ _ _ _ _ b0]), yld hsz ((hW.block _ (by omega)).trans b1), hB.same hbw, hB.later hbw, hbw⟩
  have HCK : Hid (Calls Tryz.prog 21 #[.agg ct] W2 fun e w' => e = .returned (.tuple #[.int .i64 v.cAt, .int .i64 v.all.e]) ∧ Below W2.heap.size W2 w') := refCheck_any v ct B W2 (v.In_same (hB.same hb) (fun _ h => h) ct hv) (hB.later hb)
  have HVA : Hid (∀ W, Below W2.heap.size W2 W → Calls Tryz.prog 32 #[.agg cs] W fun e w' => e = .returned (.bool t.can) ∧ Below W.heap.size W w') := fun W hW => refValid_any t cs B W (t.In_same (HL.out W hW).2.2.1 (fun _ h => h) cs hs) (HL.out W hW).2.2.2.1
  have HIS : Hid (∀ W, Below W2.heap.size W2 W → v.all.e = 0 → t.can = true → Calls Tryz.prog 33 #[.agg ct, .agg cs, .int .i64 0] W (RIsE (t.has v) 0 W)) := fun W hW he hc =>
    ris_any t.sz t (Nat.le_refl _) (Ty.can_ok hc).1 v ct cs B W 0 he (v.In_same (HL.out W hW).2.2.1 (fun _ h => h) ct hv) (t.In_same (HL.out W hW).2.2.1 (fun _ h => h) cs hs) (HL.out W hW).2.2.2.1 (by decide) (by have := (Tm.good_pn he).2; omega)
  obtain ⟨HL1, HL2, -⟩ := HL.out W2 (Below.refl _ _)
  have HL1 : Hid ((loadVar 38 ⟨w.heap.size, 0, none⟩).run Tryz.prog W2 = .ok (.agg ct) W2) := HL1
  clear HL2 hv hs hB hb hz2 b0 b1 hsz
  by_cases he : v.all.e ≠ 0
  · have HX : Sp.isA v t = (false, 0, v.all.e) := by unfold Sp.isA; rw [if_pos he]
    rw [HX]
    have he' := ne_bool he
    clear HX he HIS HVA HL
    generalize v.all.e = q at *
    generalize v.cAt = ca at *
    go_enter Tryz.func22, Tryz.ntmps22
    go_wp2_with ((with_reducible refine ld_row ?_ ?_ HL1.out ?_); rfl; rfl)
    refine HCK.out.mono ?_
    rintro e w1 ⟨rfl, hb1⟩
    have H1 : Hid (Below w.heap.size w w1) := HBW.out.trans (hb1.mono HBW.out.size)
    clear hb1
    go_wp2_with fail
    go_ret3
    exact ⟨rfl, H1.out⟩
  · have he0 := Decidable.not_not.1 he
    rw [he0] at HCK
    cases hc : t.can with
    | false =>
      have HX : Sp.isA v t = (false, 0, 70) := by unfold Sp.isA; rw [if_neg he, if_pos hc]
      rw [HX]
      rw [hc] at HVA
      clear HX he he0 HIS
      generalize v.cAt = ca at *
      go_enter Tryz.func22, Tryz.ntmps22
      go_wp2_with ((with_reducible refine ld_row ?_ ?_ HL1.out ?_); rfl; rfl)
      refine HCK.out.mono ?_
      rintro e w1 ⟨rfl, hb1⟩
      have H1 : Hid (Below W2.heap.size W2 w1) := hb1
      have HL2 : Hid ((loadVar 43 ⟨w.heap.size + 1, 0, none⟩).run Tryz.prog w1 = .ok (.agg cs) w1) := (HL.out w1 hb1).2.1
      clear hb1
      go_wp2_with ((with_reducible refine ld_row ?_ ?_ HL2.out ?_); rfl; rfl)
      refine (HVA.out w1 H1.out).mono ?_
      rintro e w2 ⟨rfl, hb2⟩
      have H2 : Hid (Below w.heap.size w w2) := (HL.out w2 (H1.out.trans (hb2.mono H1.out.size))).2.2.2.2
      clear hb2
      go_wp2_with fail
      go_ret3
      exact ⟨rfl, H2.out⟩
    | true =>
      have HX : Sp.isA v t = ((t.has v).1, (t.has v).2, 0) := by unfold Sp.isA; rw [if_neg he, if_neg (by rw [hc]; decide)]
      rw [HX]
      have HI2 : Hid (∀ W, Below W2.heap.size W2 W → Calls Tryz.prog 33 #[.agg ct, .agg cs, .int .i64 0] W fun e w' => e = .returned (.tuple #[.bool (t.has v).1, .int .i64 (t.has v).2]) ∧ Below W.heap.size W w') := fun W hW => (HIS.out W hW he0 hc).mono fun e w' h => by
        obtain ⟨h1, h2⟩ := h
        refine ⟨?_, h2⟩
        rw [h1]
        have hz := Ty.has_zero t v
        cases hb : (t.has v).1 with
        | true => rw [hz hb]; rfl
        | false => simp
      rw [hc] at HVA
      clear HX he he0 HIS
      generalize v.cAt = ca at *
      generalize t.has v = r at *
      obtain ⟨rb, rq⟩ := r
      go_enter Tryz.func22, Tryz.ntmps22
      go_wp2_with ((with_reducible refine ld_row ?_ ?_ HL1.out ?_); rfl; rfl)
      refine HCK.out.mono ?_
      rintro e w1 ⟨rfl, hb1⟩
      have H1 : Hid (Below W2.heap.size W2 w1) := hb1
      have HL2 : Hid ((loadVar 43 ⟨w.heap.size + 1, 0, none⟩).run Tryz.prog w1 = .ok (.agg cs) w1) := (HL.out w1 hb1).2.1
      clear hb1
      go_wp2_with ((with_reducible refine ld_row ?_ ?_ HL2.out ?_); rfl; rfl)
      refine (HVA.out w1 H1.out).mono ?_
      rintro e w2 ⟨rfl, hb2⟩
      have H2 : Hid (Below W2.heap.size W2 w2) := H1.out.trans (hb2.mono H1.out.size)
      have HL3 : Hid ((loadVar 38 ⟨w.heap.size, 0, none⟩).run Tryz.prog w2 = .ok (.agg ct) w2) := (HL.out w2 H2.out).1
      have HL4 : Hid ((loadVar 43 ⟨w.heap.size + 1, 0, none⟩).run Tryz.prog w2 = .ok (.agg cs) w2) := (HL.out w2 H2.out).2.1
      clear hb2
      go_wp2_with (first | ((with_reducible refine ld_row ?_ ?_ HL3.out ?_); rfl; rfl) | ((with_reducible refine ld_row ?_ ?_ HL4.out ?_); rfl; rfl))
      refine (HI2.out w2 H2.out).mono ?_
      rintro e w3 ⟨rfl, hb3⟩
      have H3 : Hid (Below w.heap.size w w3) := (HL.out w3 (H2.out.trans (hb3.mono H2.out.size))).2.2.2.2
      clear hb3
      go_wp2_with fail
      go_ret3
      exact ⟨rfl, H3.out⟩
end Go.Proofs.YtbjcabpmndhfmaaGreat

