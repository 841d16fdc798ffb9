/- tenonref07.fits of every type; Valid, Is of the document. -/
import Derived.Test.YtkmlpdehibameaaK33
import Derived.Test.YtkmlpdehibameaaK40
import Derived.Test.YtkmlpdehibameaaK6
namespace Go.Proofs.Ytkmlpdehibameaa
open Go.RowKit

theorem Sp.hasL_zero (f : Tm → Bool × Int) : (l : TmL) → ∀ next, (Sp.hasL f l next).1 = true → (Sp.hasL f l next).2 = 0
  | .nil, _, _ => rfl
  | .cons x l, next, h => by
    simp only [Sp.hasL] at h ⊢
    split
    · rename_i e; rw [if_pos e] at h; exact Sp.hasL_zero f l _ h
    · rename_i e; rw [if_neg e] at h; try (cases h)
theorem Sp.hasD_zero (op : Bool) : (N : Nat) → ∀ (ns : List ByteArray) (ks : List Bool) (fs : List (Tm → Bool × Int)) (l : TmF) (next : Int), (Sp.hasD op N ns ks fs l next).1 = true → (Sp.hasD op N ns ks fs l next).2 = 0
  | 0, _, _, _, _, _, _ => rfl
  | N + 1, [], ks, fs, .nil, next, _ => rfl
  | N + 1, [], ks, fs, .cons m x l, next, h => by
    simp only [Sp.hasD] at h ⊢
    split
    · rename_i e; rw [if_pos e] at h; exact Sp.hasD_zero op N _ _ _ _ _ h
    · rename_i e; rw [if_neg e] at h; try (cases h)
  | N + 1, n :: ns, [], fs, .nil, next, _ => rfl
  | N + 1, n :: ns, [], fs, .cons _ _ _, next, _ => rfl
  | N + 1, n :: ns, k :: ks, [], .nil, next, _ => rfl
  | N + 1, n :: ns, k :: ks, [], .cons _ _ _, next, _ => rfl
  | N + 1, n :: ns, k :: ks, f :: fs, .nil, next, h => by
    simp only [Sp.hasD] at h ⊢
    split
    · rename_i e; rw [if_pos e] at h; exact Sp.hasD_zero op N _ _ _ _ _ h
    · rename_i e; rw [if_neg e] at h; try (cases h)
  | N + 1, n :: ns, k :: ks, f :: fs, .cons m x l, next, h => by
    simp only [Sp.hasD] at h ⊢
    split
    · rename_i e
      rw [if_pos e] at h
      split
      · rename_i e2; rw [if_pos e2] at h; exact Sp.hasD_zero op N _ _ _ _ _ h
      · rename_i e2; rw [if_neg e2] at h; try (cases h)
    · rename_i e
      rw [if_neg e] at h
      split
      · rename_i e2
        rw [if_pos e2] at h
        split
        · rename_i e3; rw [if_pos e3] at h; exact Sp.hasD_zero op N _ _ _ _ _ h
        · rename_i e3; rw [if_neg e3] at h; try (cases h)
      · rename_i e2
        rw [if_neg e2] at h
        split
        · rename_i e3; rw [if_pos e3] at h; exact Sp.hasD_zero op N _ _ _ _ _ h
        · rename_i e3; rw [if_neg e3] at h; try (cases h)
theorem Ty.has_zero (t : Ty) (v : Tm) : (t.has v).1 = true → (t.has v).2 = 0 := by
  cases t with
  | mk k o t p n l op c =>
    intro h
    simp only [Ty.has] at h ⊢
    split
    · rfl
    rename_i e1
    rw [if_neg e1] at h
    split
    · rfl
    rename_i e3
    rw [if_neg e3] at h
    split
    · rfl
    rename_i e4
    rw [if_neg e4] at h
    split
    · rename_i e5
      rw [if_pos e5] at h
      split
      · rename_i e8
        rw [if_pos e8] at h
        cases p with
        | nil => rfl
        | cons t0 p' => exact Sp.hasL_zero _ _ _ h
      · rfl
    rename_i e5
    rw [if_neg e5] at h
    split
    · rename_i e6
      rw [if_pos e6] at h
      split
      · rename_i e9; rw [if_pos e9] at h; exact Sp.hasD_zero op _ _ _ _ _ _ h
      · rfl
    rename_i e6
    rw [if_neg e6] at h
    split
    · rfl
    split <;> rfl
theorem Ty.fitR_small {k o : Int} {t : Tm} {p : TyL} {n : List ByteArray} {l : List Bool} {op : Bool} {c : ByteArray} {d r : Int} (h : r - 1 < 0 ∨ 64 < d) : (Ty.mk k o t p n l op c).fitR d r = (false, r - 1) := by
  simp only [Ty.fitR]; rw [if_pos (by omega)]
theorem rfit_any : ∀ N, RFitC N
  | 0 => fun t h => by cases t; simp [Ty.sz] at h
  | N + 1 => fun t hN cs B w r d hs hB h0 h1 h2 h3 => by
    cases t with
    | mk k o t p n l op c =>
      have hN' : p.sz ≤ N := by simp only [Ty.sz] at hN; omega
      obtain ⟨hz, c0, c1, -, c17, ap, cp, an, cn, ak, ck, -, -, -, -, -, -, -, ⟨-, -, -, hcz⟩⟩ := Ty.In_all hs
      by_cases hr : r - 1 < 0
      · exact rfit_a _ cs hz w r d h0 h1 h2 h3 hr (Ty.fitR_small (.inl hr))
      by_cases hd : 64 < d
      · exact rfit_b _ cs hz w r d h0 h1 h2 h3 hr hd (Ty.fitR_small (.inr hd))
      have hc1 : ¬ (r - 1 < 0 ∨ d > 64) := by omega
      by_cases k1 : k = 1
      · subst k1; exact rfit_1 _ cs hz w r d h0 h1 h2 h3 hr hd c0 (by simp only [Ty.fitR]; rw [if_neg hc1]; simp [Ty.own, Sp.parted])
      by_cases k2 : k = 2
      · subst k2; exact rfit_2 _ cs hz w r d h0 h1 h2 h3 hr hd c0 (by simp only [Ty.fitR]; rw [if_neg hc1]; simp [Ty.own, Sp.parted])
      by_cases k3 : k = 3
      · subst k3
        by_cases h5 : 1 ≤ o
        · by_cases h6 : o ≤ 10
          · exact rfit_3c _ cs hz w r d h0 h1 h2 h3 hr hd o h5 h6 c0 c1 (by simp only [Ty.fitR]; rw [if_neg hc1]; simp [Ty.own, Sp.parted, h5, h6])
          · exact rfit_3b _ cs hz w r d h0 h1 h2 h3 hr hd o h5 h6 c0 c1 (by simp only [Ty.fitR]; rw [if_neg hc1]; simp [Ty.own, h6])
        · exact rfit_3a _ cs hz w r d h0 h1 h2 h3 hr hd o h5 c0 c1 (by simp only [Ty.fitR]; rw [if_neg hc1]; simp [Ty.own, h5])
      by_cases k4 : k = 4
      · subst k4
        obtain ⟨-, -, -, ct, ht, hcs, hct⟩ := Ty.In_only hs
        exact rfit_4 _ cs hz w r d h0 h1 h2 h3 hr hd t B hB ct ht hcs hct c0 (by simp only [Ty.fitR]; rw [if_neg hc1]; simp)
      by_cases k5 : k = 5
      · subst k5
        by_cases hp : p.len = 1
        · exact rfit_5 N (rfit_any N) o t p hN' n l op c cs B w r d hs hB h0 h1 h2 h3 hr hd hp
        · exact rfit_5n N (rfit_any N) o t p hN' n l op c cs B w r d hs hB h0 h1 h2 h3 hr hd hp
      by_cases k6 : k = 6
      · subst k6
        by_cases q1 : n.length = p.len
        · by_cases q2 : l.length = p.len
          · by_cases q3 : 4096 < p.len
            · exact rfit_6c N (rfit_any N) o t p hN' n l op c cs B w r d hs hB h0 h1 h2 h3 hr hd q1 q2 q3
            · exact rfit_6 N (rfit_any N) o t p hN' n l op c cs B w r d hs hB h0 h1 h2 h3 hr hd q1 q2 (by omega)
          · exact rfit_6b N (rfit_any N) o t p hN' n l op c cs B w r d hs hB h0 h1 h2 h3 hr hd q1 q2
        · exact rfit_6a N (rfit_any N) o t p hN' n l op c cs B w r d hs hB h0 h1 h2 h3 hr hd q1
      by_cases k7 : k = 7
      · subst k7
        by_cases hp : 2 ≤ p.len
        · exact rfit_7 N (rfit_any N) o t p hN' n l op c cs B w r d hs hB h0 h1 h2 h3 hr hd hp
        · exact rfit_7n N (rfit_any N) o t p hN' n l op c cs B w r d hs hB h0 h1 h2 h3 hr hd hp
      by_cases k8 : k = 8
      · subst k8
        exact rfit_8 _ cs hz w r d h0 h1 h2 h3 hr hd c hcz c0 c17 (by simp only [Ty.fitR]; rw [if_neg hc1]; cases hn : Sp.isNm c <;> simp [Ty.own, Sp.parted, hn])
      · exact rfit_no _ cs hz w r d h0 h1 h2 h3 hr hd k k1 k2 k3 k4 k5 k6 k7 k8 c0 (by simp only [Ty.fitR]; rw [if_neg hc1]; simp [Ty.own, k1, k2, k3, k4, k5, k6, k7, k8])

set_option maxRecDepth 100000 in
set_option maxHeartbeats 2000000 in
theorem refValid_any (t : Ty) (cs : Array Value) (B : Nat → Prop) (w : World) (hs : t.In w B cs) (hB : Sub B w) : Calls Try.prog 11 #[.agg cs] w fun e w' => e = .returned (.bool t.can) ∧ Below w.heap.size w w' := by
  obtain ⟨hsz, -⟩ := Ty.In_cells hs
  obtain ⟨W1, hW1⟩ : ∃ W1, w.alloc (.cells cs 34) = W1 := ⟨_, rfl⟩
  have hb : Below w.heap.size w W1 := by rw [← hW1]; exact (Below.refl _ _).alloc (Nat.le_refl _) _
  have HBW : Hid (Below w.heap.size w W1) := hb
  have HL : Hid ((loadVar 34 ⟨w.heap.size, 0, none⟩).run Try.prog W1 = .ok (.agg cs) W1) := by rw [← hW1]; exact yld hsz (heap_alloc_new w _)
  have HF : Hid (Calls Try.prog 24 #[.agg #[.int .i64 16384], .agg cs, .int .i64 1] W1 (RFitE (t.fitR 1 16384) W1)) := rfit_any t.sz t (Nat.le_refl _) cs B W1 16384 1 (t.In_same (hB.same hb) (fun _ h => h) cs hs) (hB.later hb) (by decide) (by decide) (by decide) (by decide)
  rw [← Ty.can_ref]
  unfold RFitE at HF
  clear hs hB hb hsz
  generalize t.fitR 1 16384 = x at *
  obtain ⟨xb, xq⟩ := x
  go_enter Try.func11, Try.ntmps11
  go_wp2_with ((with_reducible refine ld_row ?_ ?_ HL.out ?_); rfl; rfl)
  refine HF.out.mono ?_
  rintro e w2 ⟨rfl, hb2⟩
  have H2 : Hid (∀ o, Below w.heap.size w (w2.alloc o)) := fun o => (HBW.out.trans (hb2.mono HBW.out.size)).alloc (Nat.le_trans HBW.out.size hb2.size) _
  clear hb2
  go_wp2_with fail
  go_ret
  exact ⟨rfl, H2.out _⟩
set_option maxRecDepth 100000 in
set_option maxHeartbeats 2000000 in
theorem refIs_any (v : Tm) (t : Ty) (ct cs : Array Value) (B : Nat → Prop) (w : World) (hv : v.In w B ct) (hs : t.In w B cs) (hB : Sub B w) :
    Calls Try.prog 9 #[.agg ct, .agg cs] w fun e w' => e = .returned (.tuple #[.bool (Sp.isA v t).1, .int .i64 (Sp.isA v t).2.1, .int .i64 (Sp.isA v t).2.2]) ∧ Below w.heap.size w w' := by
  obtain ⟨hsz, -⟩ := Ty.In_cells hs
  obtain ⟨W2, hW2, hb, hz2, b0, b1⟩ := is_boxes w ct cs
  have HBW : Hid (Below w.heap.size w W2) := hb
  have HL : Hid (∀ W, Below W2.heap.size W2 W → (loadVar 29 ⟨w.heap.size, 0, none⟩).run Try.prog W = .ok (.agg ct) W ∧ (loadVar 34 ⟨w.heap.size + 1, 0, none⟩).run Try.prog W = .ok (.agg cs) W ∧ Same B w W ∧ Sub B W ∧ Below w.heap.size w W) := fun W hW => by
    have hbw := hb.trans (hW.mono hb.size)
    exact ⟨yldT (Tm.In_size hv) (fun x hx => by rw [Nat.zero_add, hW.cell (p := ⟨w.heap.size, x, none⟩) (by show w.heap.size < _; omega), cell_of_row _ _ _ _ _ _ b0]), yld hsz ((hW.block _ (by omega)).trans b1), hB.same hbw, hB.later hbw, hbw⟩
  have HCK : Hid (Calls Try.prog 21 #[.agg ct] W2 fun e w' => e = .returned (.tuple #[.int .i64 v.cAt, .int .i64 v.all.e]) ∧ Below W2.heap.size W2 w') := refCheck_any v ct B W2 (v.In_same (hB.same hb) (fun _ h => h) ct hv) (hB.later hb)
  have HVA : Hid (∀ W, Below W2.heap.size W2 W → Calls Try.prog 11 #[.agg cs] W fun e w' => e = .returned (.bool t.can) ∧ Below W.heap.size W w') := fun W hW => refValid_any t cs B W (t.In_same (HL.out W hW).2.2.1 (fun _ h => h) cs hs) (HL.out W hW).2.2.2.1
  have HIS : Hid (∀ W, Below W2.heap.size W2 W → v.all.e = 0 → t.can = true → Calls Try.prog 22 #[.agg ct, .agg cs, .int .i64 0] W (RIsE (t.has v) 0 W)) := fun W hW he hc =>
    ris_any t.sz t (Nat.le_refl _) (Ty.can_ok hc).1 v ct cs B W 0 he (v.In_same (HL.out W hW).2.2.1 (fun _ h => h) ct hv) (t.In_same (HL.out W hW).2.2.1 (fun _ h => h) cs hs) (HL.out W hW).2.2.2.1 (by decide) (by have := (Tm.good_pn he).2; omega)
  obtain ⟨HL1, HL2, -⟩ := HL.out W2 (Below.refl _ _)
  have HL1 : Hid ((loadVar 29 ⟨w.heap.size, 0, none⟩).run Try.prog W2 = .ok (.agg ct) W2) := HL1
  clear HL2 hv hs hB hb hz2 b0 b1 hsz
  by_cases he : v.all.e ≠ 0
  · have HX : Sp.isA v t = (false, 0, v.all.e) := by unfold Sp.isA; rw [if_pos he]
    rw [HX]
    have he' := ne_bool he
    clear HX he HIS HVA HL
    generalize v.all.e = q at *
    generalize v.cAt = ca at *
    go_enter Try.func9, Try.ntmps9
    go_wp2_with ((with_reducible refine ld_row ?_ ?_ HL1.out ?_); rfl; rfl)
    refine HCK.out.mono ?_
    rintro e w1 ⟨rfl, hb1⟩
    have H1 : Hid (Below w.heap.size w w1) := HBW.out.trans (hb1.mono HBW.out.size)
    clear hb1
    go_wp2_with fail
    go_ret3
    exact ⟨rfl, H1.out⟩
  · have he0 := Decidable.not_not.1 he
    rw [he0] at HCK
    cases hc : t.can with
    | false =>
      have HX : Sp.isA v t = (false, 0, 70) := by unfold Sp.isA; rw [if_neg he, if_pos hc]
      rw [HX]
      rw [hc] at HVA
      clear HX he he0 HIS
      generalize v.cAt = ca at *
      go_enter Try.func9, Try.ntmps9
      go_wp2_with ((with_reducible refine ld_row ?_ ?_ HL1.out ?_); rfl; rfl)
      refine HCK.out.mono ?_
      rintro e w1 ⟨rfl, hb1⟩
      have H1 : Hid (Below W2.heap.size W2 w1) := hb1
      have HL2 : Hid ((loadVar 34 ⟨w.heap.size + 1, 0, none⟩).run Try.prog w1 = .ok (.agg cs) w1) := (HL.out w1 hb1).2.1
      clear hb1
      go_wp2_with ((with_reducible refine ld_row ?_ ?_ HL2.out ?_); rfl; rfl)
      refine (HVA.out w1 H1.out).mono ?_
      rintro e w2 ⟨rfl, hb2⟩
      have H2 : Hid (Below w.heap.size w w2) := (HL.out w2 (H1.out.trans (hb2.mono H1.out.size))).2.2.2.2
      clear hb2
      go_wp2_with fail
      go_ret3
      exact ⟨rfl, H2.out⟩
    | true =>
      have HX : Sp.isA v t = ((t.has v).1, (t.has v).2, 0) := by unfold Sp.isA; rw [if_neg he, if_neg (by rw [hc]; decide)]
      rw [HX]
      have HI2 : Hid (∀ W, Below W2.heap.size W2 W → Calls Try.prog 22 #[.agg ct, .agg cs, .int .i64 0] W fun e w' => e = .returned (.tuple #[.bool (t.has v).1, .int .i64 (t.has v).2]) ∧ Below W.heap.size W w') := fun W hW => (HIS.out W hW he0 hc).mono fun e w' h => by
        obtain ⟨h1, h2⟩ := h
        refine ⟨?_, h2⟩
        rw [h1]
        have hz := Ty.has_zero t v
        cases hb : (t.has v).1 with
        | true => rw [hz hb]; rfl
        | false => simp
      rw [hc] at HVA
      clear HX he he0 HIS
      generalize v.cAt = ca at *
      generalize t.has v = r at *
      obtain ⟨rb, rq⟩ := r
      go_enter Try.func9, Try.ntmps9
      go_wp2_with ((with_reducible refine ld_row ?_ ?_ HL1.out ?_); rfl; rfl)
      refine HCK.out.mono ?_
      rintro e w1 ⟨rfl, hb1⟩
      have H1 : Hid (Below W2.heap.size W2 w1) := hb1
      have HL2 : Hid ((loadVar 34 ⟨w.heap.size + 1, 0, none⟩).run Try.prog w1 = .ok (.agg cs) w1) := (HL.out w1 hb1).2.1
      clear hb1
      go_wp2_with ((with_reducible refine ld_row ?_ ?_ HL2.out ?_); rfl; rfl)
      refine (HVA.out w1 H1.out).mono ?_
      rintro e w2 ⟨rfl, hb2⟩
      have H2 : Hid (Below W2.heap.size W2 w2) := H1.out.trans (hb2.mono H1.out.size)
      have HL3 : Hid ((loadVar 29 ⟨w.heap.size, 0, none⟩).run Try.prog w2 = .ok (.agg ct) w2) := (HL.out w2 H2.out).1
      have HL4 : Hid ((loadVar 34 ⟨w.heap.size + 1, 0, none⟩).run Try.prog w2 = .ok (.agg cs) w2) := (HL.out w2 H2.out).2.1
      clear hb2
      go_wp2_with (first | ((with_reducible refine ld_row ?_ ?_ HL3.out ?_); rfl; rfl) | ((with_reducible refine ld_row ?_ ?_ HL4.out ?_); rfl; rfl))
      refine (HI2.out w2 H2.out).mono ?_
      rintro e w3 ⟨rfl, hb3⟩
      have H3 : Hid (Below w.heap.size w w3) := (HL.out w3 (H2.out.trans (hb3.mono H2.out.size))).2.2.2.2
      clear hb3
      go_wp2_with fail
      go_ret3
      exact ⟨rfl, H3.out⟩
end Go.Proofs.Ytkmlpdehibameaa

/- The Go function tenonlaw07.CheckTypes returns true. -/
namespace Go.Proofs.Ytkmlpdehibameaa
open Go.RowKit

def tyInt : Ty := .mk 3 3 (.mk 0 false 0 0 ⟨#[]⟩ ByteArray.empty 0 .nil .nil ⟨#[]⟩ 0) .nil [] [] false ⟨#[]⟩
def tmOne : Tm := .mk 3 false 1 0 ByteArray.empty ByteArray.empty 0 .nil .nil ByteArray.empty 0
abbrev icells : Array Value := #[.int .i64 3, .int .i64 3, .int .i64 0, .bool false, .int .i64 0, .float .f64 0, .string { data := #[] }, .slice none 0 0, .int .u64 0, .slice none 0 0, .slice none 0 0, .string { data := #[] }, .int .i64 0, .slice none 0 0, .slice none 0 0, .slice none 0 0, .bool false, .string { data := #[] }]
theorem tyInt_in (w : World) (B : Nat → Prop) : tyInt.In w B icells := by
  simp only [tyInt, Ty.In, icells]
  refine ⟨0, false, 0, 0, ⟨#[]⟩, none, 0, 0, 0, none, 0, 0, none, 0, 0, ⟨#[]⟩, 0, none, 0, none, 0, none, 0, rfl, ?_, by decide, by decide, ⟨by simp [TyL.len], by simp, by simp, by decide⟩, by simp [TyL.In], fun j s h => by simp at h, fun j s h => by simp at h⟩
  simp only [Tm.In]
  refine ⟨none, 0, none, 0, none, 0, rfl, ?_, fun j hj => ?_, by simp [TmL.In], by simp [TmF.In]⟩
  · constructor <;> first | decide | simp [TmL.len, TmF.len]
  · simp at hj
theorem int_one (W : World) : Calls Try.prog 8 #[.iface 2 (.int .i64 1), .agg icells] W fun e w' => e = .returned (.tuple #[.bool true, .int .i64 0, .int .i64 0]) ∧ Below W.heap.size W w' := by
  have h := Is_all tmOne (.iface 2 (.int .i64 1)) tyInt icells W.heap.size W (Nat.le_refl _) (by simp [tmOne, Tm.V]) (tyInt_in W _)
  have e : Sp.isA tmOne tyInt = (true, 0, 0) := by
    have h1 : tmOne.all.e = 0 := by decide +kernel
    have h2 : tyInt.can = true := by decide +kernel
    unfold Sp.isA
    rw [if_neg (by rw [h1]; decide), if_neg (by rw [h2]; decide)]
    simp [tyInt, tmOne, Ty.has, Tm.knd]
  rw [e] at h; exact h

set_option maxRecDepth 100000 in
set_option maxHeartbeats 4000000 in
theorem CheckTypes_any (v : Tm) (t : Ty) (ct cs : Array Value) (B : Nat → Prop) (w : World) (hv : v.In w B ct) (hs : t.In w B cs) (hB : Sub B w) :
    Calls Try.prog 3 #[.agg ct, .agg cs] w fun e w' => e = .returned (.bool true) ∧ Below w.heap.size w w' := by
  obtain ⟨hsz, -⟩ := Ty.In_cells hs
  obtain ⟨W2, hW2, hb, hz2, b0, b1⟩ := is_boxes w ct cs
  have HL : Hid (∀ W, Below W2.heap.size W2 W → Below w.heap.size w W) := fun W hW => hb.trans (hW.mono hb.size)
  have HT : Hid (∀ W, Below W2.heap.size W2 W → (loadVar 29 ⟨w.heap.size, 0, none⟩).run Try.prog W = .ok (.agg ct) W) := fun W hW => yldT (Tm.In_size hv) (fun x hx => by rw [Nat.zero_add, hW.cell (p := ⟨w.heap.size, x, none⟩) (by show w.heap.size < _; omega), cell_of_row _ _ _ _ _ _ b0])
  have HS : Hid (∀ W, Below W2.heap.size W2 W → (loadVar 34 ⟨w.heap.size + 1, 0, none⟩).run Try.prog W = .ok (.agg cs) W) := fun W hW => yld hsz ((hW.block _ (by omega)).trans b1)
  have hSm : ∀ W, Below W2.heap.size W2 W → Same B w W ∧ Sub B W := fun W hW => ⟨hB.same (HL.out W hW), hB.later (HL.out W hW)⟩
  have HBu : Hid (Calls Try.prog 7 #[.agg ct] W2 fun e w' => ∃ x, e = .returned x ∧ Below W2.heap.size W2 w' ∧ v.V w' (Fr W2 w') x) := built_any v.sz v (Nat.le_refl _) ct B W2 (v.In_same (hB.same hb) (fun _ h => h) ct hv) (hB.later hb)
  have HIS : Hid (∀ W x, Below W2.heap.size W2 W → v.V W (Fr W2 W) x → Calls Try.prog 8 #[x, .agg cs] W fun e w' => e = .returned (.tuple #[.bool (Sp.isA v t).1, .int .i64 (Sp.isA v t).2.1, .int .i64 (Sp.isA v t).2.2]) ∧ Below W.heap.size W w') := fun W x hW hx =>
    Is_all v x t cs W.heap.size W (Nat.le_refl _) (v.V_same (Same.refl _ _) (fun k hk => hk.2) x hx) (t.In_same (hSm W hW).1 (fun k hk => (hSm W hW).2 k hk) cs hs)
  have HRI : Hid (∀ W, Below W2.heap.size W2 W → Calls Try.prog 9 #[.agg ct, .agg cs] W fun e w' => e = .returned (.tuple #[.bool (Sp.isA v t).1, .int .i64 (Sp.isA v t).2.1, .int .i64 (Sp.isA v t).2.2]) ∧ Below W.heap.size W w') := fun W hW => refIs_any v t ct cs B W (v.In_same (hSm W hW).1 (fun _ h => h) ct hv) (t.In_same (hSm W hW).1 (fun _ h => h) cs hs) (hSm W hW).2
  have HVA : Hid (∀ W, Below W2.heap.size W2 W → Calls Try.prog 10 #[.agg cs] W fun e w' => e = .returned (.bool t.can) ∧ Below W.heap.size W w') := fun W hW => Valid_any t cs B W (t.In_same (hSm W hW).1 (fun _ h => h) cs hs) (hSm W hW).2
  have HRV : Hid (∀ W, Below W2.heap.size W2 W → Calls Try.prog 11 #[.agg cs] W fun e w' => e = .returned (.bool t.can) ∧ Below W.heap.size W w') := fun W hW => refValid_any t cs B W (t.In_same (hSm W hW).1 (fun _ h => h) cs hs) (hSm W hW).2
  have HON : Hid (∀ W, Calls Try.prog 8 #[.iface 2 (.int .i64 1), .agg icells] W fun e w' => e = .returned (.tuple #[.bool true, .int .i64 0, .int .i64 0]) ∧ Below W.heap.size W w') := int_one
  have HT0 : Hid ((loadVar 29 ⟨w.heap.size, 0, none⟩).run Try.prog W2 = .ok (.agg ct) W2) := HT.out W2 (Below.refl _ _)
  have hvs : ∀ W x, v.V W (Fr W2 W) x → x = .nilIface ∨ ∃ T y, x = .iface T y := fun W x h => v.V_shape x h
  have HVS : Hid (∀ W x, v.V W (Fr W2 W) x → x = .nilIface ∨ ∃ T y, x = .iface T y) := hvs
  clear hv hs hB hsz hb hz2 b0 b1 hSm hvs
  generalize Sp.isA v t = r at *
  obtain ⟨ra, rb, rc⟩ := r
  generalize t.can = tc at *
  go_enter Try.func3, Try.ntmps3
  go_wp2_with ((with_reducible refine ld_row ?_ ?_ HT0.out ?_); rfl; rfl)
  refine HBu.out.mono ?_
  rintro e w1 ⟨x, rfl, hb1, hx⟩
  have HI1 : Hid (Calls Try.prog 8 #[x, .agg cs] w1 fun e w' => e = .returned (.tuple #[.bool ra, .int .i64 rb, .int .i64 rc]) ∧ Below w1.heap.size w1 w') := HIS.out w1 x hb1 hx
  have HB1 : Hid (Below W2.heap.size W2 w1) := hb1
  have HS1 : Hid ((loadVar 34 ⟨w.heap.size + 1, 0, none⟩).run Try.prog w1 = .ok (.agg cs) w1) := HS.out w1 hb1
  have hxs := HVS.out w1 x hx
  clear hb1 hx
  rcases hxs with rfl | ⟨T0, y0, rfl⟩
  all_goals
    go_wp2_with ((with_reducible refine ld_row ?_ ?_ HS1.out ?_); rfl; rfl)
    refine HI1.out.mono ?_
    rintro e w2 ⟨rfl, hb2⟩
    have HB2 : Hid (Below W2.heap.size W2 w2) := below_to HB1.out hb2
    have HT2 : Hid ((loadVar 29 ⟨w.heap.size, 0, none⟩).run Try.prog w2 = .ok (.agg ct) w2) := HT.out w2 HB2.out
    have HS2 : Hid ((loadVar 34 ⟨w.heap.size + 1, 0, none⟩).run Try.prog w2 = .ok (.agg cs) w2) := HS.out w2 HB2.out
    clear hb2
    go_wp2_with (first | ((with_reducible refine ld_row ?_ ?_ HT2.out ?_); rfl; rfl) | ((with_reducible refine ld_row ?_ ?_ HS2.out ?_); rfl; rfl))
    refine (HRI.out w2 HB2.out).mono ?_
    rintro e w3 ⟨rfl, hb3⟩
    have HB3 : Hid (Below W2.heap.size W2 w3) := below_to HB2.out hb3
    clear hb3
    go_wp2_with fail
    refine (HON.out w3).mono ?_
    rintro e w4 ⟨rfl, hb4⟩
    have HB4 : Hid (Below W2.heap.size W2 w4) := below_to HB3.out hb4
    clear hb4
    go_wp2_with fail
    refine wp_region_held_drew (S := fun W => (loadVar 34 ⟨w.heap.size + 1, 0, none⟩).run Try.prog W = .ok (.agg cs) W) (by kernel_rfl) ?_ (fun hHeld => ?_)
    · exact HS.out _ (HB4.out.drew)
    refine wpAnyH_take (i := 0) (oi := { dst := some 38, op := Go.Op.load 34 (Go.Operand.tmp 3), type := 34, pos := "law.go:18", after := #[], guard := none }) (v := (.agg cs)) rfl (by kernel_rfl) (by kernel_rfl) (by kernel_rfl) (fun _ _ _ h => h) (take_ld rfl rfl rfl (fun w hSw => hSw)) (by assumption) ?_
    simp only [Act.put, List.setIfInBounds_toArray, List.set_cons_zero, List.set_cons_succ]
    refine wpAnyH_take (i := 2) (oi := { dst := some 40, op := Go.Op.load 34 (Go.Operand.tmp 3), type := 34, pos := "law.go:18", after := #[], guard := none }) (v := (.agg cs)) rfl (by kernel_rfl) (by kernel_rfl) (by kernel_rfl) (fun _ _ _ h => h) (take_ld rfl rfl rfl (fun w hSw => hSw)) (by assumption) ?_
    simp only [Act.put, List.setIfInBounds_toArray, List.set_cons_zero, List.set_cons_succ]
    refine wpAnyH_ready (rs := [1]) (by kernel_rfl) (by simp) ?_
    refine AllReadyH.cons (o := { dst := some 39, op := Go.Op.call { callee := Go.Callee.value (Go.Operand.func 10), args := #[Go.Operand.tmp 38], argTypes := #[34] }, type := 4, pos := "law.go:18", after := #[{ on := 0, ground := Go.Ground.data }], guard := none }) rfl (fun K hK => ?_) AllReadyH.nil
    go_simp
    (refine (HVA.out _ (HB4.out.drew)).mono ?_; rintro e w5 ⟨rfl, hq⟩; have HB5 : Hid (Below W2.heap.size W2 w5) := below_to (HB4.out.drew) hq; clear hq)
    go_wp2_with fail
    refine hK.out _ _ ?_ (fun hHeld => ?_)
    · exact HS.out _ HB5.out
    clear hK K
    refine wpAnyH_ready (rs := [3]) (by kernel_rfl) (by simp) ?_
    refine AllReadyH.cons (o := { dst := some 41, op := Go.Op.call { callee := Go.Callee.value (Go.Operand.func 11), args := #[Go.Operand.tmp 40], argTypes := #[34] }, type := 4, pos := "law.go:18", after := #[{ on := 2, ground := Go.Ground.data }, { on := 1, ground := Go.Ground.chain }], guard := none }) rfl (fun K hK => ?_) AllReadyH.nil
    go_simp
    (refine (HRV.out _ (HB5.out)).mono ?_; rintro e w6 ⟨rfl, hq⟩; have HB6 : Hid (Below W2.heap.size W2 w6) := below_to (HB5.out) hq; clear hq)
    go_wp2_with fail
    refine hK.out _ _ ?_ (fun hHeld => ?_)
    · exact HS.out _ HB6.out
    clear hK K
    refine wpAnyH_take (i := 4) (oi := { dst := some 42, op := Go.Op.binOp Go.BinOp.eql 4 (Go.Operand.tmp 39) (Go.Operand.tmp 41) 4, type := 4, pos := "law.go:18", after := #[{ on := 1, ground := Go.Ground.data }, { on := 3, ground := Go.Ground.data }], guard := none }) (v := ?_) rfl (by kernel_rfl) (by kernel_rfl) (by kernel_rfl) (fun _ _ _ h => h) (Or.inl ⟨by rfl, ?_⟩) (by assumption) ?_
    rotate_left
    · intro w hSw; (try dsimp only at hSw); go_simp; try (with_reducible rfl)
    simp only [Act.put, List.setIfInBounds_toArray, List.set_cons_zero, List.set_cons_succ]
    refine wpAnyH_take (i := 5) (oi := { dst := some 43, op := Go.Op.move (Go.Operand.tmp 42), type := 4, pos := "law.go:18", after := #[{ on := 4, ground := Go.Ground.data }, { on := 3, ground := Go.Ground.chain }], guard := none }) (v := ?_) rfl (by kernel_rfl) (by kernel_rfl) (by kernel_rfl) (fun _ _ _ h => h) (Or.inl ⟨by rfl, ?_⟩) (by assumption) ?_
    rotate_left
    · intro w hSw; (try dsimp only at hSw); go_simp; try (with_reducible rfl)
    simp only [Act.put, List.setIfInBounds_toArray, List.set_cons_zero, List.set_cons_succ]
    refine wpAnyH_take (i := 6) (oi := { dst := some 44, op := Go.Op.move (Go.Operand.tmp 6), type := 4, pos := "law.go:18", after := #[{ on := 5, ground := Go.Ground.guard }], guard := some (5, true) }) (v := ?_) rfl (by kernel_rfl) (by kernel_rfl) (by kernel_rfl) (fun _ _ _ h => h) (Or.inl ⟨by rfl, ?_⟩) (by assumption) ?_
    rotate_left
    · intro w hSw; (try dsimp only at hSw); go_simp; try (with_reducible rfl)
    simp only [Act.put, List.setIfInBounds_toArray, List.set_cons_zero, List.set_cons_succ]
    refine wpAnyH_take (i := 7) (oi := { dst := some 45, op := Go.Op.move (Go.Operand.tmp 9), type := 4, pos := "law.go:18", after := #[{ on := 5, ground := Go.Ground.guard }], guard := some (5, true) }) (v := ?_) rfl (by kernel_rfl) (by kernel_rfl) (by kernel_rfl) (fun _ _ _ h => h) (Or.inl ⟨by rfl, ?_⟩) (by assumption) ?_
    rotate_left
    · intro w hSw; (try dsimp only at hSw); go_simp; try (with_reducible rfl)
    simp only [Act.put, List.setIfInBounds_toArray, List.set_cons_zero, List.set_cons_succ]
    refine wpAnyH_take (i := 8) (oi := { dst := some 46, op := Go.Op.binOp Go.BinOp.eql 4 (Go.Operand.tmp 44) (Go.Operand.tmp 45) 4, type := 4, pos := "law.go:18", after := #[{ on := 6, ground := Go.Ground.data }, { on := 7, ground := Go.Ground.data }, { on := 5, ground := Go.Ground.guard }], guard := some (5, true) }) (v := ?_) rfl (by kernel_rfl) (by kernel_rfl) (by kernel_rfl) (fun _ _ _ h => h) (Or.inl ⟨by rfl, ?_⟩) (by assumption) ?_
    rotate_left
    · intro w hSw; (try dsimp only at hSw); go_simp; try (with_reducible rfl)
    simp only [Act.put, List.setIfInBounds_toArray, List.set_cons_zero, List.set_cons_succ]
    refine wpAnyH_take (i := 9) (oi := { dst := some 47, op := Go.Op.pick (Go.Operand.tmp 43) (Go.Operand.tmp 46) (Go.Operand.const (Go.Value.bool false)), type := 4, pos := "law.go:18", after := #[{ on := 5, ground := Go.Ground.data }, { on := 8, ground := Go.Ground.data }], guard := none }) (v := ?_) rfl (by kernel_rfl) (by kernel_rfl) (by kernel_rfl) (fun _ _ _ h => h) (Or.inl ⟨by rfl, ?_⟩) (by assumption) ?_
    rotate_left
    · intro w hSw; (try dsimp only at hSw); go_simp; try (with_reducible rfl)
    simp only [Act.put, List.setIfInBounds_toArray, List.set_cons_zero, List.set_cons_succ]
    refine wpAnyH_take (i := 10) (oi := { dst := some 48, op := Go.Op.move (Go.Operand.tmp 47), type := 4, pos := "law.go:18", after := #[{ on := 9, ground := Go.Ground.data }, { on := 5, ground := Go.Ground.chain }], guard := none }) (v := ?_) rfl (by kernel_rfl) (by kernel_rfl) (by kernel_rfl) (fun _ _ _ h => h) (Or.inl ⟨by rfl, ?_⟩) (by assumption) ?_
    rotate_left
    · intro w hSw; (try dsimp only at hSw); go_simp; try (with_reducible rfl)
    simp only [Act.put, List.setIfInBounds_toArray, List.set_cons_zero, List.set_cons_succ]
    refine wpAnyH_take (i := 11) (oi := { dst := some 49, op := Go.Op.move (Go.Operand.tmp 7), type := 3, pos := "law.go:18", after := #[{ on := 10, ground := Go.Ground.guard }], guard := some (10, true) }) (v := ?_) rfl (by kernel_rfl) (by kernel_rfl) (by kernel_rfl) (fun _ _ _ h => h) (Or.inl ⟨by rfl, ?_⟩) (by assumption) ?_
    rotate_left
    · intro w hSw; (try dsimp only at hSw); go_simp; try (with_reducible rfl)
    simp only [Act.put, List.setIfInBounds_toArray, List.set_cons_zero, List.set_cons_succ]
    refine wpAnyH_take (i := 12) (oi := { dst := some 50, op := Go.Op.move (Go.Operand.tmp 10), type := 3, pos := "law.go:18", after := #[{ on := 10, ground := Go.Ground.guard }], guard := some (10, true) }) (v := ?_) rfl (by kernel_rfl) (by kernel_rfl) (by kernel_rfl) (fun _ _ _ h => h) (Or.inl ⟨by rfl, ?_⟩) (by assumption) ?_
    rotate_left
    · intro w hSw; (try dsimp only at hSw); go_simp; try (with_reducible rfl)
    simp only [Act.put, List.setIfInBounds_toArray, List.set_cons_zero, List.set_cons_succ]
    refine wpAnyH_take (i := 13) (oi := { dst := some 51, op := Go.Op.binOp Go.BinOp.eql 3 (Go.Operand.tmp 49) (Go.Operand.tmp 50) 3, type := 4, pos := "law.go:18", after := #[{ on := 11, ground := Go.Ground.data }, { on := 12, ground := Go.Ground.data }, { on := 10, ground := Go.Ground.guard }], guard := some (10, true) }) (v := ?_) rfl (by kernel_rfl) (by kernel_rfl) (by kernel_rfl) (fun _ _ _ h => h) (Or.inl ⟨by rfl, ?_⟩) (by assumption) ?_
    rotate_left
    · intro w hSw; (try dsimp only at hSw); go_simp; try (with_reducible rfl)
    simp only [Act.put, List.setIfInBounds_toArray, List.set_cons_zero, List.set_cons_succ]
    refine wpAnyH_take (i := 14) (oi := { dst := some 52, op := Go.Op.pick (Go.Operand.tmp 48) (Go.Operand.tmp 51) (Go.Operand.const (Go.Value.bool false)), type := 4, pos := "law.go:18", after := #[{ on := 10, ground := Go.Ground.data }, { on := 13, ground := Go.Ground.data }], guard := none }) (v := ?_) rfl (by kernel_rfl) (by kernel_rfl) (by kernel_rfl) (fun _ _ _ h => h) (Or.inl ⟨by rfl, ?_⟩) (by assumption) ?_
    rotate_left
    · intro w hSw; (try dsimp only at hSw); go_simp; try (with_reducible rfl)
    simp only [Act.put, List.setIfInBounds_toArray, List.set_cons_zero, List.set_cons_succ]
    refine wpAnyH_take (i := 15) (oi := { dst := some 53, op := Go.Op.move (Go.Operand.tmp 52), type := 4, pos := "law.go:18", after := #[{ on := 14, ground := Go.Ground.data }, { on := 10, ground := Go.Ground.chain }], guard := none }) (v := ?_) rfl (by kernel_rfl) (by kernel_rfl) (by kernel_rfl) (fun _ _ _ h => h) (Or.inl ⟨by rfl, ?_⟩) (by assumption) ?_
    rotate_left
    · intro w hSw; (try dsimp only at hSw); go_simp; try (with_reducible rfl)
    simp only [Act.put, List.setIfInBounds_toArray, List.set_cons_zero, List.set_cons_succ]
    refine wpAnyH_take (i := 16) (oi := { dst := some 54, op := Go.Op.move (Go.Operand.tmp 8), type := 36, pos := "law.go:18", after := #[{ on := 15, ground := Go.Ground.guard }], guard := some (15, true) }) (v := ?_) rfl (by kernel_rfl) (by kernel_rfl) (by kernel_rfl) (fun _ _ _ h => h) (Or.inl ⟨by rfl, ?_⟩) (by assumption) ?_
    rotate_left
    · intro w hSw; (try dsimp only at hSw); go_simp; try (with_reducible rfl)
    simp only [Act.put, List.setIfInBounds_toArray, List.set_cons_zero, List.set_cons_succ]
    refine wpAnyH_take (i := 17) (oi := { dst := some 55, op := Go.Op.move (Go.Operand.tmp 11), type := 36, pos := "law.go:18", after := #[{ on := 15, ground := Go.Ground.guard }], guard := some (15, true) }) (v := ?_) rfl (by kernel_rfl) (by kernel_rfl) (by kernel_rfl) (fun _ _ _ h => h) (Or.inl ⟨by rfl, ?_⟩) (by assumption) ?_
    rotate_left
    · intro w hSw; (try dsimp only at hSw); go_simp; try (with_reducible rfl)
    simp only [Act.put, List.setIfInBounds_toArray, List.set_cons_zero, List.set_cons_succ]
    refine wpAnyH_take (i := 18) (oi := { dst := some 56, op := Go.Op.binOp Go.BinOp.eql 36 (Go.Operand.tmp 54) (Go.Operand.tmp 55) 36, type := 4, pos := "law.go:18", after := #[{ on := 16, ground := Go.Ground.data }, { on := 17, ground := Go.Ground.data }, { on := 15, ground := Go.Ground.guard }], guard := some (15, true) }) (v := ?_) rfl (by kernel_rfl) (by kernel_rfl) (by kernel_rfl) (fun _ _ _ h => h) (Or.inl ⟨by rfl, ?_⟩) (by assumption) ?_
    rotate_left
    · intro w hSw; (try dsimp only at hSw); go_simp; try (with_reducible rfl)
    simp only [Act.put, List.setIfInBounds_toArray, List.set_cons_zero, List.set_cons_succ]
    refine wpAnyH_take (i := 19) (oi := { dst := some 57, op := Go.Op.pick (Go.Operand.tmp 53) (Go.Operand.tmp 56) (Go.Operand.const (Go.Value.bool false)), type := 4, pos := "law.go:18", after := #[{ on := 15, ground := Go.Ground.data }, { on := 18, ground := Go.Ground.data }], guard := none }) (v := ?_) rfl (by kernel_rfl) (by kernel_rfl) (by kernel_rfl) (fun _ _ _ h => h) (Or.inl ⟨by rfl, ?_⟩) (by assumption) ?_
    rotate_left
    · intro w hSw; (try dsimp only at hSw); go_simp; try (with_reducible rfl)
    simp only [Act.put, List.setIfInBounds_toArray, List.set_cons_zero, List.set_cons_succ]
    refine wpAnyH_take (i := 20) (oi := { dst := some 58, op := Go.Op.move (Go.Operand.tmp 57), type := 4, pos := "law.go:18", after := #[{ on := 19, ground := Go.Ground.data }, { on := 15, ground := Go.Ground.chain }], guard := none }) (v := ?_) rfl (by kernel_rfl) (by kernel_rfl) (by kernel_rfl) (fun _ _ _ h => h) (Or.inl ⟨by rfl, ?_⟩) (by assumption) ?_
    rotate_left
    · intro w hSw; (try dsimp only at hSw); go_simp; try (with_reducible rfl)
    simp only [Act.put, List.setIfInBounds_toArray, List.set_cons_zero, List.set_cons_succ]
    refine wpAnyH_take (i := 21) (oi := { dst := some 59, op := Go.Op.move (Go.Operand.tmp 12), type := 4, pos := "law.go:18", after := #[{ on := 20, ground := Go.Ground.guard }], guard := some (20, true) }) (v := ?_) rfl (by kernel_rfl) (by kernel_rfl) (by kernel_rfl) (fun _ _ _ h => h) (Or.inl ⟨by rfl, ?_⟩) (by assumption) ?_
    rotate_left
    · intro w hSw; (try dsimp only at hSw); go_simp; try (with_reducible rfl)
    simp only [Act.put, List.setIfInBounds_toArray, List.set_cons_zero, List.set_cons_succ]
    refine wpAnyH_take (i := 22) (oi := { dst := some 60, op := Go.Op.pick (Go.Operand.tmp 58) (Go.Operand.tmp 59) (Go.Operand.const (Go.Value.bool false)), type := 4, pos := "law.go:18", after := #[{ on := 20, ground := Go.Ground.data }, { on := 21, ground := Go.Ground.data }], guard := none }) (v := ?_) rfl (by kernel_rfl) (by kernel_rfl) (by kernel_rfl) (fun _ _ _ h => h) (Or.inl ⟨by rfl, ?_⟩) (by assumption) ?_
    rotate_left
    · intro w hSw; (try dsimp only at hSw); go_simp; try (with_reducible rfl)
    simp only [Act.put, List.setIfInBounds_toArray, List.set_cons_zero, List.set_cons_succ]
    refine wpAnyH_take (i := 23) (oi := { dst := some 61, op := Go.Op.move (Go.Operand.tmp 60), type := 4, pos := "law.go:18", after := #[{ on := 22, ground := Go.Ground.data }, { on := 20, ground := Go.Ground.chain }], guard := none }) (v := ?_) rfl (by kernel_rfl) (by kernel_rfl) (by kernel_rfl) (fun _ _ _ h => h) (Or.inl ⟨by rfl, ?_⟩) (by assumption) ?_
    rotate_left
    · intro w hSw; (try dsimp only at hSw); go_simp; try (with_reducible rfl)
    simp only [Act.put, List.setIfInBounds_toArray, List.set_cons_zero, List.set_cons_succ]
    refine wpAnyH_take (i := 24) (oi := { dst := some 62, op := Go.Op.move (Go.Operand.tmp 14), type := 36, pos := "law.go:18", after := #[{ on := 23, ground := Go.Ground.guard }], guard := some (23, true) }) (v := ?_) rfl (by kernel_rfl) (by kernel_rfl) (by kernel_rfl) (fun _ _ _ h => h) (Or.inl ⟨by rfl, ?_⟩) (by assumption) ?_
    rotate_left
    · intro w hSw; (try dsimp only at hSw); go_simp; try (with_reducible rfl)
    simp only [Act.put, List.setIfInBounds_toArray, List.set_cons_zero, List.set_cons_succ]
    refine wpAnyH_take (i := 25) (oi := { dst := some 63, op := Go.Op.binOp Go.BinOp.eql 36 (Go.Operand.tmp 62) (Go.Operand.const (Go.Value.int Go.IntKind.i64 0)) 36, type := 4, pos := "law.go:18", after := #[{ on := 24, ground := Go.Ground.data }, { on := 23, ground := Go.Ground.guard }], guard := some (23, true) }) (v := ?_) rfl (by kernel_rfl) (by kernel_rfl) (by kernel_rfl) (fun _ _ _ h => h) (Or.inl ⟨by rfl, ?_⟩) (by assumption) ?_
    rotate_left
    · intro w hSw; (try dsimp only at hSw); go_simp; try (with_reducible rfl)
    simp only [Act.put, List.setIfInBounds_toArray, List.set_cons_zero, List.set_cons_succ]
    refine wpAnyH_take (i := 26) (oi := { dst := some 64, op := Go.Op.pick (Go.Operand.tmp 61) (Go.Operand.tmp 63) (Go.Operand.const (Go.Value.bool false)), type := 4, pos := "law.go:18", after := #[{ on := 23, ground := Go.Ground.data }, { on := 25, ground := Go.Ground.data }], guard := none }) (v := ?_) rfl (by kernel_rfl) (by kernel_rfl) (by kernel_rfl) (fun _ _ _ h => h) (Or.inl ⟨by rfl, ?_⟩) (by assumption) ?_
    rotate_left
    · intro w hSw; (try dsimp only at hSw); go_simp; try (with_reducible rfl)
    simp only [Act.put, List.setIfInBounds_toArray, List.set_cons_zero, List.set_cons_succ]
    refine wpAnyH_take (i := 27) (oi := { dst := some 4, op := Go.Op.assign (Go.Operand.tmp 64), type := 4, pos := "law.go:18", after := #[{ on := 26, ground := Go.Ground.data }, { on := 23, ground := Go.Ground.chain }, { on := 0, ground := Go.Ground.phase }, { on := 1, ground := Go.Ground.phase }, { on := 2, ground := Go.Ground.phase }, { on := 3, ground := Go.Ground.phase }, { on := 4, ground := Go.Ground.phase }, { on := 5, ground := Go.Ground.phase }, { on := 6, ground := Go.Ground.phase }, { on := 7, ground := Go.Ground.phase }, { on := 8, ground := Go.Ground.phase }, { on := 9, ground := Go.Ground.phase }, { on := 10, ground := Go.Ground.phase }, { on := 11, ground := Go.Ground.phase }, { on := 12, ground := Go.Ground.phase }, { on := 13, ground := Go.Ground.phase }, { on := 14, ground := Go.Ground.phase }, { on := 15, ground := Go.Ground.phase }, { on := 16, ground := Go.Ground.phase }, { on := 17, ground := Go.Ground.phase }, { on := 18, ground := Go.Ground.phase }, { on := 19, ground := Go.Ground.phase }, { on := 20, ground := Go.Ground.phase }, { on := 21, ground := Go.Ground.phase }, { on := 22, ground := Go.Ground.phase }, { on := 23, ground := Go.Ground.phase }, { on := 24, ground := Go.Ground.phase }, { on := 25, ground := Go.Ground.phase }, { on := 26, ground := Go.Ground.phase }], guard := none }) (v := ?_) rfl (by kernel_rfl) (by kernel_rfl) (by kernel_rfl) (fun _ _ _ h => h) (Or.inl ⟨by rfl, ?_⟩) (by assumption) ?_
    rotate_left
    · intro w hSw; (try dsimp only at hSw); go_simp; try (with_reducible rfl)
    simp only [Act.put, List.setIfInBounds_toArray, List.set_cons_zero, List.set_cons_succ]
    refine wpAnyH_done (by kernel_rfl) ?_ _
    go_wp2_with fail
    go_ret
    exact ⟨rfl, HL.out _ HB6.out⟩
end Go.Proofs.Ytkmlpdehibameaa

