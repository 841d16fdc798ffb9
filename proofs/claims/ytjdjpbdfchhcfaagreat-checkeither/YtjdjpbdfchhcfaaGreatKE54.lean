/- (*shape).asType of every shape; check.TypeOf, check.Either. -/
import Derived.Test.YtjdjpbdfchhcfaaGreatKE53
import Derived.Test.YtjdjpbdfchhcfaaGreatKE46
import Derived.Test.YtjdjpbdfchhcfaaGreatKE30
import Derived.Laws.ResultCell
import Derived.Test.YtjdjpbdfchhcfaaGreatKE43
import Derived.Test.YtjdjpbdfchhcfaaGreatKE9
namespace Go.Proofs.YtjdjpbdfchhcfaaGreat
open Go.RowKit

theorem nm_size {c : ByteArray} (h : Sp.isNm c = true) : c.size ≤ 32 := by
  simp only [Sp.isNm, Bool.and_eq_true, decide_eq_true_eq] at h; exact h.1.2
theorem as_any : ∀ N, AsC N
  | 0 => fun t h => by cases t; simp [Ty.sz] at h
  | N + 1 => fun t hN hok hcn hb4 b B w hB hsh => by
    cases t with
    | mk k o t4 p n l op c =>
      have hokk := hok
      have hkk := Ty.kinds hok
      simp only [Ty.Sh] at hsh
      obtain ⟨hb, o', v, s, ap, np, cp, an, nn, cn, ak, nk, ck, op', c', hh, h3, h4, h5, h6, h8, z1, z2, z3, z4⟩ := hsh
      have how : (Ty.mk k o t4 p n l op c).own = true := by simp only [Ty.ok, Bool.and_eq_true] at hok; exact hok.1.1
      have hpN : p.sz ≤ N := by simp only [Ty.sz] at hN; omega
      have hb' : b < B := hb
      by_cases hk4 : k = 4
      · subst hk4
        obtain ⟨rfl, rfl, rfl⟩ := z2 rfl
        obtain ⟨⟨rfl, rfl, rfl⟩, ⟨rfl, rfl, rfl⟩, rfl⟩ := z3 (by decide)
        have e1 := z1 (by decide)
        have e2 := z4 (by decide)
        subst e1 e2
        have hg : t4.all.e = 0 := by
          simp only [Ty.ok, Bool.and_eq_true] at hok
          have := hok.1.2
          simpa using this
        simp only [Ty.B4] at hb4
        refine (as_only s _ _ v t4 b B w hB hb' hh (h4 rfl).1 hg (hb4.1 trivial)).mono ?_
        rintro e w' ⟨cs, rfl, hb1, hin⟩
        refine ⟨cs, _, rfl, hb1, hin, ?_⟩
        rw [Ty.al]
        exact ⟨rfl, by simp, fun _ => rfl, by simp [Sp.parted], by simp, by simp⟩
      have ho : 0 ≤ o' ∧ o' ≤ 10 := by
        by_cases q3 : k = 3
        · rw [h3 q3]
          subst q3
          simp [Ty.own] at how
          omega
        · rw [z1 q3]; decide
      have hc : c'.size ≤ 1000 := by
        by_cases q8 : k = 8
        · rw [h8 q8]
          subst q8
          have : Sp.isNm c = true := by simpa [Ty.own] using how
          have := nm_size this
          omega
        · rw [z4 q8]; decide
      by_cases q6 : k = 6
      · subst q6
        obtain ⟨rfl, hlp, hp⟩ := h5 rfl
        obtain ⟨rfl, rfl, rfl, hna, hba⟩ := h6 rfl
        have hd := Ty.own_dict hokk
        have hpo : p.ok = true := hd.2.2.2.2
        simp only [Ty.cnt, Sp.parted] at hcn
        simp only [Ty.B4] at hb4
        refine (as_walk N (as_any N) 6 o' s _ _ v ap an ak cp cn ck p n l op' c' b B w hB hb' hh hba (by omega) hc (by decide) ho hp hpN hpo (by simp at hcn; omega) (hb4.2 rfl) hna hd.2.2.2.1 hk4).mono ?_
        rintro e w' ⟨cs, p', rfl, hb1, hal, hin⟩
        refine ⟨cs, _, rfl, hb1, hin, ?_⟩
        rw [Ty.al]
        exact ⟨rfl, by simp, by simp, fun _ => hal, fun _ => ⟨rfl, rfl, rfl⟩, by simp⟩
      obtain ⟨⟨rfl, rfl, rfl⟩, ⟨rfl, rfl, rfl⟩, rfl⟩ := z3 q6
      cases hpt : Sp.parted k with
      | true =>
        obtain ⟨rfl, hlp, hp⟩ := h5 hpt
        have hpo : p.ok = true := Ty.ok_parts hokk hpt
        simp only [Ty.cnt, hpt] at hcn
        simp only [Ty.B4] at hb4
        refine (as_walk N (as_any N) k o' s _ _ v ap none none cp 0 0 p [] [] false c' b B w hB hb' hh (fun j s hj => by simp at hj) (by simp) hc (by omega) ho hp hpN hpo (by simp at hcn; omega) (hb4.2 hpt) (fun j s hj => by simp at hj) (by simp) hk4).mono ?_
        rintro e w' ⟨cs, p', rfl, hb1, hal, hin⟩
        refine ⟨cs, _, rfl, hb1, hin, ?_⟩
        rw [Ty.al]
        exact ⟨rfl, fun q => (h3 q).symm, fun q => absurd q hk4, fun _ => hal, fun q => absurd q q6, fun q => (h8 q).symm⟩
      | false =>
        obtain ⟨rfl, rfl, rfl⟩ := z2 hpt
        refine (as_walk N (as_any N) k o' s _ _ v none none none 0 0 0 .nil [] [] false c' b B w hB hb' hh (fun j s hj => by simp at hj) (by simp) hc (by omega) ho (by simp [TyL.Sh]) (by simp [TyL.sz]) (by simp [TyL.ok]) (by simp [TyL.cnt]) (by simp [TyL.B4]) (fun j s hj => by simp at hj) (by simp) hk4).mono ?_
        rintro e w' ⟨cs, p', rfl, hb1, hal, hin⟩
        refine ⟨cs, _, rfl, hb1, hin, ?_⟩
        rw [Ty.al]
        exact ⟨rfl, fun q => (h3 q).symm, fun q => absurd q hk4, fun q => absurd (hpt.symm.trans q) (by decide), fun q => absurd q q6, fun q => (h8 q).symm⟩
end Go.Proofs.YtjdjpbdfchhcfaaGreat

/- check.TypeOf, check.Either. -/
namespace Go.Proofs.YtjdjpbdfchhcfaaGreat
open Go.RowKit

theorem res_cell_tmp {fn : Func} {p u : Tmp} {ty : TypeId} (h : fn.results = #[.cell p ty, .tmp u]) (tmps : Array Value) (w : World) (a : Addr) (v : Value) (hp : tmps.getD p undef = .pointer (some a)) (hl : (loadVar ty a).run Tryz.prog w = .ok v w) : (results fn tmps).run Tryz.prog w = .ok (.tuple #[v, tmps.getD u undef]) w := by
  rw [results_cell_tmp h, hp]
  simp [asAddr, hl]

theorem TyL.B4_app : (a b : TyL) → a.B4 → b.B4 → (a.app b).B4
  | .nil, _, _, h => h
  | .cons t l, b, h, hb => by
    simp only [TyL.B4] at h
    simp only [TyL.app, TyL.B4]
    exact ⟨h.1, TyL.B4_app l b h.2 hb⟩
theorem Ty.B4_chs {t : Ty} (h : t.B4) : t.chs.B4 := by
  unfold Ty.chs
  split
  · rename_i hk
    cases t with
    | mk k o t p n l op c =>
      have hk : k = 7 := hk
      subst hk
      simp only [Ty.B4] at h
      exact h.2 rfl
  · simp only [TyL.B4]; exact ⟨h, trivial⟩
theorem Ty.B4_ei {a b : Ty} (ha : a.B4) (hb : b.B4) : (a.ei b).B4 := by
  unfold Ty.ei
  split
  · exact hb
  · split
    · exact ha
    · simp only [tyUn, Ty.B4]
      exact ⟨fun e => absurd e (by decide), fun _ => TyL.B4_app _ _ (Ty.B4_chs ha) (Ty.B4_chs hb)⟩
theorem Ty.B4_orA {t : Ty} (h : t.B4) : t.orA.B4 := by
  unfold Ty.orA
  split
  · exact h
  · simp [tyAny, Ty.B4, Sp.parted]
mutual
theorem Tm.typ_B4 : (t : Tm) → t.typ.B4
  | .mk k b i f tx by' rf l fs c v => by
    simp only [Tm.typ]
    split
    · refine Ty.B4_orA ?_
      simp only [tyLs, Ty.B4, TyL.B4]
      exact ⟨fun e => absurd e (by decide), fun _ => ⟨TmL.typs_B4 l tyNo (by simp [tyNo, Ty.B4, Sp.parted]), trivial⟩⟩
    split
    · refine Ty.B4_orA ?_
      simp only [tyFs, Ty.B4]
      exact ⟨fun e => absurd e (by decide), fun _ => TmF.typF_B4 fs⟩
    split
    · simp [tyRc, Ty.B4, Sp.parted]
    · simp [tyKd, Ty.B4, Sp.parted]
theorem TmL.typs_B4 : (l : TmL) → ∀ p : Ty, p.B4 → (l.typs p).B4
  | .nil, p, h => by simp only [TmL.typs]; exact h
  | .cons t l, p, h => by
    simp only [TmL.typs]
    exact TmL.typs_B4 l _ (Ty.B4_orA (Ty.B4_ei h (Tm.typ_B4 t)))
theorem TmF.typF_B4 : (l : TmF) → l.typF.B4
  | .nil => trivial
  | .cons n t l => by
    simp only [TmF.typF, TyL.B4]
    exact ⟨Tm.typ_B4 t, TmF.typF_B4 l⟩
end
mutual
theorem Ty.In_B4 {w : World} {B : Nat → Prop} : (t : Ty) → ∀ cs, t.In w B cs → t.B4
  | .mk k o t p n l op c, cs, h => by
    simp only [Ty.In] at h
    obtain ⟨k1, b, i, f, tx, ab, nb, cb, rf, al, nl, cl, af, nf, cf, c1, vr, ap, cp, an, cn, ak, ck, e, ht, hk, ho, hz, hp, hn, hl⟩ := h
    simp only [Ty.B4]
    exact ⟨fun _ => t.In_bdd _ ht, fun _ => TyL.In_B4 p _ _ hp⟩
theorem TyL.In_B4 {w : World} {B : Nat → Prop} : (l : TyL) → ∀ a j, l.In w B a j → l.B4
  | .nil, _, _, _ => trivial
  | .cons t l, a, j, h => by
    simp only [TyL.In] at h
    obtain ⟨g, o, cs, e, hg, hc, ht, hl⟩ := h
    simp only [TyL.B4]
    exact ⟨Ty.In_B4 t _ ht, TyL.In_B4 l _ _ hl⟩
end

abbrev zty : Array Value := acs 0 0 (.slice none 0 0) false { data := #[] }
theorem zty_one : zty.all (·.oneCell') = true := by kernel_rfl
def AnsT (er : Int) (t : Ty) (w : World) (e : Ending) (w' : World) : Prop := ∃ cs, e = .returned (.tuple #[.agg cs, .int .i64 er]) ∧ Below w.heap.size w w' ∧ (cs.size = 18 ∧ cs.all (·.oneCell') = true) ∧ (er = 0 → ∃ t', Ty.In w' (Fr w w') t' cs ∧ t.al t')

set_option maxRecDepth 100000 in
set_option maxHeartbeats 4000000 in
theorem TypeOf_err (v : Tm) (x : Value) (B : Nat) (w : World) (hB : B ≤ w.heap.size) (hv : v.V w (Lo B) x) (he : v.all.e ≠ 0) : Calls Tryz.prog 15 #[x] w (AnsT v.all.e v.typ w) := by
  have he' := ne_bool he
  have HC : Hid (∀ W, Below w.heap.size w W → Calls Tryz.prog 35 #[x] W fun e w' => e = .returned (.tuple #[.nilIface, .int .i64 v.all.e]) ∧ Below W.heap.size W w') := fun W hW =>
    Copy_err v x B W (Nat.le_trans hB hW.size) (v.V_same (fun k hk => hW.block k (Nat.lt_of_lt_of_le hk hB)) (fun _ h => h) x hv) he
  have HE : Hid (v.all.e ≠ 0) := he
  obtain ⟨W0, hW0⟩ : ∃ W0, W0 = w.alloc (.cells zty 34) := ⟨_, rfl⟩
  have hb0 : Below w.heap.size w W0 := by rw [hW0]; exact (Below.refl _ _).alloc (Nat.le_refl _) _
  have hn0 : W0.heap[w.heap.size]? = some (.cells zty 34 (0, 0)) := by rw [hW0]; exact heap_alloc_new w _
  have hz0 : W0.heap.size = w.heap.size + 1 := by rw [hW0]; simp
  clear hv hB he
  generalize v.all.e = q at *
  go_enter Tryz.func15, Tryz.ntmps15
  go_wp2_with fail
  rw [← hW0]
  refine (HC.out _ hb0).mono ?_
  rintro e w1 ⟨rfl, hb1⟩
  have hn1 : w1.heap[w.heap.size]? = some (.cells zty 34 (0, 0)) := by rw [hb1.block _ (by omega)]; exact hn0
  have hbw1 : Below w.heap.size w w1 := hb0.trans (hb1.mono (by omega))
  have HST : Hid ((storeVar 34 ⟨w.heap.size, 0, none⟩ (.agg zty)).run Tryz.prog w1 = .ok () (w1.setRow w.heap.size zty)) := run_storeVar_row w1 w.heap.size 34 34 zty zty hn1 ysz rfl zty_one
  have HLd : Hid ((loadVar 34 ⟨w.heap.size, 0, none⟩).run Tryz.prog (w1.setRow w.heap.size zty) = .ok (.agg zty) (w1.setRow w.heap.size zty)) := yld rfl (setRow_heap _ _ _ _ _ _ hn1)
  have H1 : Hid (Below w.heap.size w (w1.setRow w.heap.size zty)) := below_setRow hbw1 (Nat.le_refl _) _
  generalize w1.setRow w.heap.size zty = w2 at HST HLd H1
  clear hb1 hn1 hbw1 hb0 hn0 hz0 hW0
  go_wp2_with ((with_reducible refine st_row ?_ ?_ ?_ HST.out ?_); rfl; rfl; rfl)
  refine bodyPost_ret (res_cell_tmp (p := 2) (u := 3) (ty := 34) rfl _ w2 _ _ rfl HLd.out) rfl ?_
  exact ⟨zty, rfl, H1.out, ⟨rfl, zty_one⟩, fun h => absurd h HE.out⟩

set_option maxRecDepth 100000 in
set_option maxHeartbeats 4000000 in
theorem TypeOf_ok (v : Tm) (x : Value) (B : Nat) (w : World) (hB : B ≤ w.heap.size) (hv : v.V w (Lo B) x) (he : v.all.e = 0) : Calls Tryz.prog 15 #[x] w (AnsT 0 v.typ w) := by
  have HC : Hid (∀ W, Below w.heap.size w W → Calls Tryz.prog 35 #[x] W fun e w' => ∃ v', e = .returned (.tuple #[v', .int .i64 0]) ∧ Below W.heap.size W w' ∧ v.V w' (Fr W w') v') := fun W hW =>
    Copy_ok v x B W (Nat.le_trans hB hW.size) (v.V_same (fun k hk => hW.block k (Nat.lt_of_lt_of_le hk hB)) (fun _ h => h) x hv) he
  have HT : Hid (∀ W x', v.V W (Lo W.heap.size) x' → Calls Tryz.prog 36 #[x'] W (TypE v W)) := fun W x' hx => typ_any v.sz v (Nat.le_refl _) he x' W.heap.size W (Nat.le_refl _) hx
  have htk := Tm.typ_ok v he
  have HA : Hid (∀ W b, v.typ.Sh W (Lo W.heap.size) b → Calls Tryz.prog 29 #[.pointer (some ⟨b, 0, none⟩)] W (AsE v.typ W)) := fun W b hs => as_any v.typ.sz v.typ (Nat.le_refl _) htk.1 (Ty.fitsB_iff.1 htk.2).1 (Tm.typ_B4 v) b W.heap.size W (Nat.le_refl _) hs
  obtain ⟨W0, hW0⟩ : ∃ W0, W0 = w.alloc (.cells zty 34) := ⟨_, rfl⟩
  have hb0 : Below w.heap.size w W0 := by rw [hW0]; exact (Below.refl _ _).alloc (Nat.le_refl _) _
  have hn0 : W0.heap[w.heap.size]? = some (.cells zty 34 (0, 0)) := by rw [hW0]; exact heap_alloc_new w _
  have hz0 : W0.heap.size = w.heap.size + 1 := by rw [hW0]; simp
  have hxs := v.V_shape x hv
  clear hv hB he htk
  rcases hxs with rfl | ⟨Tx, yx, rfl⟩
  all_goals
    go_enter Tryz.func15, Tryz.ntmps15
    go_wp2_with fail
    rw [← hW0]
    refine (HC.out _ hb0).mono ?_
    rintro e w1 ⟨v', rfl, hb1, hv1⟩
    have hz1 := hb1.size
    have H1 : Hid (Below w.heap.size w w1 ∧ w1.heap[w.heap.size]? = some (.cells zty 34 (0, 0)) ∧ v.V w1 (Lo w1.heap.size) v') := ⟨hb0.trans (hb1.mono (by omega)), by rw [hb1.block _ (by omega)]; exact hn0, v.V_same (Same.refl _ _) (fun k hk => hk.2) v' hv1⟩
    have hvs := v.V_shape v' hv1
    clear hb1 hv1
    go_wp2_with fail
    refine (HT.out _ _ H1.out.2.2).mono ?_
    rintro e w2 ⟨b2, rfl, hb2, hs2⟩
    have H2 : Hid (Below w.heap.size w w2 ∧ w2.heap[w.heap.size]? = some (.cells zty 34 (0, 0)) ∧ v.typ.Sh w2 (Lo w2.heap.size) b2) := ⟨H1.out.1.trans (hb2.mono H1.out.1.size), by rw [hb2.block _ (by omega)]; exact H1.out.2.1, v.typ.Sh_same (Same.refl _ _) (fun k hk => hk.2) b2 hs2⟩
    have hz2 := hb2.size
    clear hb2 hs2
    go_wp2_with fail
    refine (HA.out _ _ H2.out.2.2).mono ?_
    rintro e w3 ⟨cs, t', rfl, hb3, hin, hal⟩
    obtain ⟨hcz, hco⟩ := Ty.In_cells hin
    have hn3 : w3.heap[w.heap.size]? = some (.cells zty 34 (0, 0)) := by rw [hb3.block _ (by omega)]; exact H2.out.2.1
    have hbw3 : Below w.heap.size w w3 := H2.out.1.trans (hb3.mono H2.out.1.size)
    have hzw2 := H2.out.1.size
    have HST : Hid ((storeVar 34 ⟨w.heap.size, 0, none⟩ (.agg cs)).run Tryz.prog w3 = .ok () (w3.setRow w.heap.size cs)) := run_storeVar_row w3 w.heap.size 34 34 zty cs hn3 (by rw [hcz]; exact ysz) (by rw [hcz]; rfl) hco
    have HLd : Hid ((loadVar 34 ⟨w.heap.size, 0, none⟩).run Tryz.prog (w3.setRow w.heap.size cs) = .ok (.agg cs) (w3.setRow w.heap.size cs)) := yld hcz (setRow_heap _ _ _ _ _ _ hn3)
    have H9 : Hid (Below w.heap.size w (w3.setRow w.heap.size cs) ∧ (cs.size = 18 ∧ cs.all (·.oneCell') = true) ∧ t'.In (w3.setRow w.heap.size cs) (Fr w (w3.setRow w.heap.size cs)) cs ∧ v.typ.al t') := ⟨below_setRow hbw3 (Nat.le_refl _) _, ⟨hcz, hco⟩, t'.In_same (B := Fr w2 w3) (fun k hk => setRow_other _ _ _ _ (by have := hk.1; omega)) (fun k hk => ⟨by have := hk.1; omega, by have := hk.2; simp [World.setRow]; omega⟩) cs hin, hal⟩
    generalize w3.setRow w.heap.size cs = w4 at HST HLd H9
    clear hb3 hin hal hcz hco hn3 hbw3 hzw2
    go_wp2_with ((with_reducible refine st_row ?_ ?_ ?_ HST.out ?_); rfl; rfl; rfl)
    refine bodyPost_ret (res_cell_tmp (p := 2) (u := 3) (ty := 34) rfl _ w4 _ _ rfl HLd.out) rfl ?_
    exact ⟨cs, rfl, H9.out.1, H9.out.2.1, fun _ => ⟨t', H9.out.2.2⟩⟩
end Go.Proofs.YtjdjpbdfchhcfaaGreat

/- check.Either. -/
namespace Go.Proofs.YtjdjpbdfchhcfaaGreat
open Go.RowKit

def Sp.eiE (a b : Ty) : Int := if a.can && b.can && (a.ei b).fitsB then 0 else 70

set_option maxRecDepth 100000 in
set_option maxHeartbeats 4000000 in
theorem Either_any (a b : Ty) (ca cb : Array Value) (B : Nat) (w : World) (hB : B ≤ w.heap.size) (ha : a.In w (Lo B) ca) (hb : b.In w (Lo B) cb) : Calls Tryz.prog 8 #[.agg ca, .agg cb] w (AnsT (Sp.eiE a b) (a.ei b) w) := by
  obtain ⟨hsz, -⟩ := Ty.In_cells ha
  obtain ⟨hsb, -⟩ := Ty.In_cells hb
  have hba := Ty.In_B4 _ _ ha
  have hbb := Ty.In_B4 _ _ hb
  have hs : ∀ W, Below w.heap.size w W → Same (Lo B) w W := fun W hW k hk => hW.block k (Nat.lt_of_lt_of_le hk hB)
  obtain ⟨W0, hW0⟩ : ∃ W0, W0 = ((w.alloc (.cells ca 34)).alloc (.cells cb 34)).alloc (.cells zty 34) := ⟨_, rfl⟩
  have ht := tb_below ca cb w
  have hzt : (tb w ca cb).heap.size = w.heap.size + 1 + 1 := by simp [tb]
  have h3 : Below (tb w ca cb).heap.size (tb w ca cb) W0 := by rw [hW0]; exact (Below.refl _ _).alloc (Nat.le_refl _) _
  have hb0 : Below w.heap.size w W0 := ht.trans (h3.mono (by omega))
  have hn0 : W0.heap[w.heap.size + 1 + 1]? = some (.cells zty 34 (0, 0)) := by
    rw [hW0]
    have := heap_alloc_new (tb w ca cb) (.cells zty 34)
    rw [hzt] at this; exact this
  have hz0 : W0.heap.size = w.heap.size + 1 + 1 + 1 := by rw [hW0]; show ((tb w ca cb).alloc _).heap.size = _; simp [hzt]
  have HL : Hid ((loadVar 34 ⟨w.heap.size, 0, none⟩).run Tryz.prog (((w.alloc (.cells ca 34)).alloc (.cells cb 34)).alloc (.cells zty 34)) = .ok (.agg ca) (((w.alloc (.cells ca 34)).alloc (.cells cb 34)).alloc (.cells zty 34))) := by rw [← hW0]; exact tb_a ca cb w _ hsz h3
  have HM : Hid ((loadVar 34 ⟨w.heap.size + 1, 0, none⟩).run Tryz.prog (((w.alloc (.cells ca 34)).alloc (.cells cb 34)).alloc (.cells zty 34)) = .ok (.agg cb) (((w.alloc (.cells ca 34)).alloc (.cells cb 34)).alloc (.cells zty 34))) := by rw [← hW0]; have := tb_b ca cb w _ hsb h3; show _ = _; simpa using this
  have ha0 := a.In_same (hs _ hb0) (fun _ h => h) ca ha
  have hb00 := b.In_same (hs _ hb0) (fun _ h => h) cb hb
  have hB0 : B ≤ W0.heap.size := Nat.le_trans hB hb0.size
  have bad : ∀ w1, Below w.heap.size w w1 → w1.heap[w.heap.size + 1 + 1]? = some (.cells zty 34 (0, 0)) → (storeVar 34 ⟨w.heap.size + 1 + 1, 0, none⟩ (.agg zty)).run Tryz.prog w1 = .ok () (w1.setRow (w.heap.size + 1 + 1) zty) ∧ (loadVar 34 ⟨w.heap.size + 1 + 1, 0, none⟩).run Tryz.prog (w1.setRow (w.heap.size + 1 + 1) zty) = .ok (.agg zty) (w1.setRow (w.heap.size + 1 + 1) zty) ∧ Below w.heap.size w (w1.setRow (w.heap.size + 1 + 1) zty) := fun w1 hw1 hn1 =>
    ⟨run_storeVar_row w1 _ 34 34 zty zty hn1 ysz rfl zty_one, yld rfl (setRow_heap _ _ _ _ _ _ hn1), below_setRow hw1 (by omega) _⟩
  have HBAD : Hid _ := bad
  clear bad
  cases hcd : (a.can && b.can) with
  | false =>
    have HS : Hid (Calls Tryz.prog 23 #[.agg ca, .agg cb] W0 fun e w' => e = .returned (.tuple #[.pointer none, .pointer none, .int .i64 70]) ∧ Below W0.heap.size W0 w') := by
      cases hc : a.can with
      | false => exact shapesOf_a a ca cb B _ hB0 ha0 hc
      | true => exact shapesOf_b a b ca cb B _ hB0 ha0 hb00 hc (by simpa [hc] using hcd)
    have HX : Sp.eiE a b = 70 := by unfold Sp.eiE; rw [hcd]; rfl
    rw [HX]
    clear ha hb ha0 hb00 hB hB0 hs HX hcd hba hbb hsz hsb
    go_enter Tryz.func8, Tryz.ntmps8
    go_wp2_with first
      | ((with_reducible refine ld_row ?_ ?_ HL.out ?_); rfl; rfl)
      | ((with_reducible refine ld_row ?_ ?_ HM.out ?_); rfl; rfl)
    rw [← hW0]
    refine HS.out.mono ?_
    rintro e w1 ⟨rfl, hb1⟩
    obtain ⟨g1, g2, g3⟩ := HBAD.out w1 (hb0.trans (hb1.mono (by omega))) (by rw [hb1.block _ (by omega)]; exact hn0)
    generalize w1.setRow (w.heap.size + 1 + 1) zty = w2 at g1 g2 g3
    have HST : Hid ((storeVar 34 ⟨w.heap.size + 1 + 1, 0, none⟩ (.agg zty)).run Tryz.prog w1 = .ok () w2) := g1
    have HLd : Hid ((loadVar 34 ⟨w.heap.size + 1 + 1, 0, none⟩).run Tryz.prog w2 = .ok (.agg zty) w2) := g2
    have H1 : Hid (Below w.heap.size w w2) := g3
    clear hb1 g1 g2 g3 hb0 hn0 hz0 hW0 HL HM HS HBAD ht h3 hzt
    go_wp2_with ((with_reducible refine st_row ?_ ?_ ?_ HST.out ?_); rfl; rfl; rfl)
    refine bodyPost_ret (res_cell_tmp (p := 4) (u := 5) (ty := 34) rfl _ w2 _ _ rfl HLd.out) rfl ?_
    exact ⟨zty, rfl, H1.out, ⟨rfl, zty_one⟩, fun h => absurd h (by decide)⟩
  | true =>
    obtain ⟨hc, hd⟩ := Bool.and_eq_true_iff.1 hcd
    obtain ⟨oa, a1, a2⟩ := Ty.can_ok hc
    obtain ⟨ob, b1, b2⟩ := Ty.can_ok hd
    have fa : a.fitsB = true := Ty.fitsB_iff.2 ⟨a1, a2⟩
    have fb : b.fitsB = true := Ty.fitsB_iff.2 ⟨b1, b2⟩
    have HS : Hid (Calls Tryz.prog 23 #[.agg ca, .agg cb] W0 fun e w' => ∃ p q, e = .returned (.tuple #[.pointer (some ⟨p, 0, none⟩), .pointer (some ⟨q, 0, none⟩), .int .i64 0]) ∧ Below W0.heap.size W0 w' ∧ a.Sh w' (Lo w'.heap.size) p ∧ b.Sh w' (Lo w'.heap.size) q) := shapesOf_c a b ca cb B _ hB0 ha0 hb00 hc hd
    have HE : Hid (∀ (W : World) p q, a.Sh W (Lo W.heap.size) p → b.Sh W (Lo W.heap.size) q → Calls Tryz.prog 27 #[.pointer (some ⟨p, 0, none⟩), .pointer (some ⟨q, 0, none⟩)] W fun e w' => ∃ u, e = .returned (.pointer (some ⟨u, 0, none⟩)) ∧ Below W.heap.size W w' ∧ (a.ei b).Sh w' (Lo w'.heap.size) u) := fun W p q hp hq =>
      (either_any a b p q (Lo W.heap.size) W (fun _ h => h) oa ob fa fb hp hq).mono fun e w' ⟨u, h1, h2, h3⟩ => ⟨u, h1, h2, Ty.Sh_lo h3 (BF.sub (fun _ h => h) h2)⟩
    have HCn : Hid (∀ (W : World) u, (a.ei b).Sh W (Lo W.heap.size) u → Calls Tryz.prog 28 #[.pointer (some ⟨u, 0, none⟩)] W fun e w' => e = .returned (.bool (a.ei b).fitsB) ∧ W = w') := fun W u hu => can_any _ u _ W hu
    have HA : Hid ((a.ei b).fitsB = true → ∀ (W : World) u, (a.ei b).Sh W (Lo W.heap.size) u → Calls Tryz.prog 29 #[.pointer (some ⟨u, 0, none⟩)] W (AsE (a.ei b) W)) := fun hf W u hu => as_any _ (a.ei b) (Nat.le_refl _) (Ty.ei_ok oa ob) (Ty.fitsB_iff.1 hf).1 (Ty.B4_ei hba hbb) u W.heap.size W (Nat.le_refl _) hu
    have HX : Sp.eiE a b = if (a.ei b).fitsB then 0 else 70 := by unfold Sp.eiE; rw [hcd]; rfl
    rw [HX]
    clear ha hb ha0 hb00 hB hB0 hs HX hcd hc hd oa ob fa fb a1 a2 b1 b2 hba hbb hsz hsb
    generalize a.ei b = ab at *
    cases hf : ab.fitsB with
    | false =>
      rw [hf] at HCn
      clear hf HA
      rw [if_neg (by decide)]
      go_enter Tryz.func8, Tryz.ntmps8
      go_wp2_with first
        | ((with_reducible refine ld_row ?_ ?_ HL.out ?_); rfl; rfl)
        | ((with_reducible refine ld_row ?_ ?_ HM.out ?_); rfl; rfl)
      rw [← hW0]
      refine HS.out.mono ?_
      rintro e w1 ⟨p, q, rfl, hb1, hp, hq⟩
      have hz1 := hb1.size
      have H1 : Hid (Below w.heap.size w w1 ∧ w1.heap[w.heap.size + 1 + 1]? = some (.cells zty 34 (0, 0)) ∧ a.Sh w1 (Lo w1.heap.size) p ∧ b.Sh w1 (Lo w1.heap.size) q) := ⟨hb0.trans (hb1.mono (by omega)), by rw [hb1.block _ (by omega)]; exact hn0, hp, hq⟩
      clear hb1 hp hq HL HM HS ht h3 hzt hn0 hb0
      go_wp2_with fail
      refine (HE.out _ _ _ H1.out.2.2.1 H1.out.2.2.2).mono ?_
      rintro e w2 ⟨u, rfl, hb2, hu⟩
      have hz2 := hb2.size
      have H2 : Hid (Below w.heap.size w w2 ∧ w2.heap[w.heap.size + 1 + 1]? = some (.cells zty 34 (0, 0)) ∧ ab.Sh w2 (Lo w2.heap.size) u) := ⟨H1.out.1.trans (hb2.mono H1.out.1.size), by rw [hb2.block _ (by omega)]; exact H1.out.2.1, hu⟩
      clear hb2 hu H1
      go_wp2_with fail
      refine (HCn.out _ _ H2.out.2.2).mono ?_
      rintro e w3 ⟨rfl, rfl⟩
      obtain ⟨g1, g2, g3⟩ := HBAD.out w2 H2.out.1 H2.out.2.1
      generalize w2.setRow (w.heap.size + 1 + 1) zty = w4 at g1 g2 g3
      have HST : Hid ((storeVar 34 ⟨w.heap.size + 1 + 1, 0, none⟩ (.agg zty)).run Tryz.prog w2 = .ok () w4) := g1
      have HLd : Hid ((loadVar 34 ⟨w.heap.size + 1 + 1, 0, none⟩).run Tryz.prog w4 = .ok (.agg zty) w4) := g2
      have H4 : Hid (Below w.heap.size w w4) := g3
      clear g1 g2 g3 HBAD hW0 HE HCn
      go_wp2_with ((with_reducible refine st_row ?_ ?_ ?_ HST.out ?_); rfl; rfl; rfl)
      refine bodyPost_ret (res_cell_tmp (p := 4) (u := 5) (ty := 34) rfl _ w4 _ _ rfl HLd.out) rfl ?_
      exact ⟨zty, rfl, H4.out, ⟨rfl, zty_one⟩, fun h => absurd h (by decide)⟩
    | true =>
      rw [hf] at HCn
      have HA2 : Hid (∀ (W : World) u, ab.Sh W (Lo W.heap.size) u → Calls Tryz.prog 29 #[.pointer (some ⟨u, 0, none⟩)] W (AsE ab W)) := HA.out hf
      clear hf HA HBAD
      rw [if_pos rfl]
      go_enter Tryz.func8, Tryz.ntmps8
      go_wp2_with first
        | ((with_reducible refine ld_row ?_ ?_ HL.out ?_); rfl; rfl)
        | ((with_reducible refine ld_row ?_ ?_ HM.out ?_); rfl; rfl)
      rw [← hW0]
      refine HS.out.mono ?_
      rintro e w1 ⟨p, q, rfl, hb1, hp, hq⟩
      have hz1 := hb1.size
      have H1 : Hid (Below w.heap.size w w1 ∧ w1.heap[w.heap.size + 1 + 1]? = some (.cells zty 34 (0, 0)) ∧ a.Sh w1 (Lo w1.heap.size) p ∧ b.Sh w1 (Lo w1.heap.size) q) := ⟨hb0.trans (hb1.mono (by omega)), by rw [hb1.block _ (by omega)]; exact hn0, hp, hq⟩
      clear hb1 hp hq HL HM HS ht h3 hzt hn0 hb0
      go_wp2_with fail
      refine (HE.out _ _ _ H1.out.2.2.1 H1.out.2.2.2).mono ?_
      rintro e w2 ⟨u, rfl, hb2, hu⟩
      have hz2 := hb2.size
      have H2 : Hid (Below w.heap.size w w2 ∧ w2.heap[w.heap.size + 1 + 1]? = some (.cells zty 34 (0, 0)) ∧ ab.Sh w2 (Lo w2.heap.size) u) := ⟨H1.out.1.trans (hb2.mono H1.out.1.size), by rw [hb2.block _ (by omega)]; exact H1.out.2.1, hu⟩
      clear hb2 hu H1
      go_wp2_with fail
      refine (HCn.out _ _ H2.out.2.2).mono ?_
      rintro e w3 ⟨rfl, rfl⟩
      go_wp2_with fail
      refine (HA2.out _ _ H2.out.2.2).mono ?_
      rintro e w3 ⟨cs, t', rfl, hb3, hin, hal⟩
      obtain ⟨hcz, hco⟩ := Ty.In_cells hin
      have hn3 : w3.heap[w.heap.size + 1 + 1]? = some (.cells zty 34 (0, 0)) := by rw [hb3.block _ (by omega)]; exact H2.out.2.1
      have hbw3 : Below w.heap.size w w3 := H2.out.1.trans (hb3.mono H2.out.1.size)
      have HST : Hid ((storeVar 34 ⟨w.heap.size + 1 + 1, 0, none⟩ (.agg cs)).run Tryz.prog w3 = .ok () (w3.setRow (w.heap.size + 1 + 1) cs)) := run_storeVar_row w3 _ 34 34 zty cs hn3 (by rw [hcz]; exact ysz) (by rw [hcz]; rfl) hco
      have HLd : Hid ((loadVar 34 ⟨w.heap.size + 1 + 1, 0, none⟩).run Tryz.prog (w3.setRow (w.heap.size + 1 + 1) cs) = .ok (.agg cs) (w3.setRow (w.heap.size + 1 + 1) cs)) := yld hcz (setRow_heap _ _ _ _ _ _ hn3)
      have H9 : Hid (Below w.heap.size w (w3.setRow (w.heap.size + 1 + 1) cs) ∧ (cs.size = 18 ∧ cs.all (·.oneCell') = true) ∧ t'.In (w3.setRow (w.heap.size + 1 + 1) cs) (Fr w (w3.setRow (w.heap.size + 1 + 1) cs)) cs ∧ ab.al t') := ⟨below_setRow hbw3 (by omega) _, ⟨hcz, hco⟩, t'.In_same (B := Fr w2 w3) (fun k hk => setRow_other _ _ _ _ (by have := hk.1; omega)) (fun k hk => ⟨by have := hk.1; omega, by have := hk.2; simp [World.setRow]; omega⟩) cs hin, hal⟩
      generalize w3.setRow (w.heap.size + 1 + 1) cs = w4 at HST HLd H9
      clear hb3 hin hal hcz hco hn3 hbw3 HE HCn hW0
      go_wp2_with ((with_reducible refine st_row ?_ ?_ ?_ HST.out ?_); rfl; rfl; rfl)
      refine bodyPost_ret (res_cell_tmp (p := 4) (u := 5) (ty := 34) rfl _ w4 _ _ rfl HLd.out) rfl ?_
      exact ⟨cs, rfl, H9.out.1, H9.out.2.1, fun _ => ⟨t', H9.out.2.2⟩⟩
end Go.Proofs.YtjdjpbdfchhcfaaGreat

/- tenonlaw07.CheckEither at every three types and every term. -/
namespace Go.Proofs.YtjdjpbdfchhcfaaGreat
open Go.RowKit

def Sp.c1 (a b : Ty) (v : Tm) : Bool := decide (Sp.eiE a b = 0 ∧ (Sp.isA v a).2.2 = 0 ∧ (Sp.isA v b).2.2 = 0) && ((Sp.isA v a).1 || (Sp.isA v b).1)
def Sp.c2 (a b c : Ty) (v : Tm) : Bool := decide ((Sp.subA a b).2 = 0 ∧ (Sp.subA b c).2 = 0) && ((Sp.subA a b).1 && (Sp.subA b c).1 && (Sp.isA v a).1)
theorem Sp.eiE_zero {a b : Ty} (h : Sp.eiE a b = 0) : a.can = true ∧ b.can = true ∧ (a.ei b).can = true := by
  unfold Sp.eiE at h
  cases hx : (a.can && b.can && (a.ei b).fitsB) with
  | false => rw [hx] at h; simp at h
  | true =>
    simp only [Bool.and_eq_true] at hx
    have h1 := Ty.can_ok hx.1.1
    have h2 := Ty.can_ok hx.1.2
    have h3 := Ty.fitsB_iff.1 hx.2
    exact ⟨hx.1.1, hx.1.2, Ty.can_of (Ty.ei_ok h1.1 h2.1) h3.1 h3.2⟩
theorem Sp.c1_is {a b : Ty} {v : Tm} (h : Sp.c1 a b v = true) : v.all.e = 0 ∧ (a.ei b).can = true ∧ (Sp.isA v (a.ei b)).1 = true ∧ (Sp.isA v (a.ei b)).2.2 = 0 := by
  simp only [Sp.c1, Bool.and_eq_true, decide_eq_true_eq, Bool.or_eq_true] at h
  obtain ⟨⟨h1, h2, h3⟩, h4⟩ := h
  obtain ⟨ca, cb, cab⟩ := Sp.eiE_zero h1
  obtain ⟨hg, -⟩ := Sp.isA_zero h2
  rw [Sp.isA_ok hg ca, Sp.isA_ok hg cb] at h4
  rw [Sp.isA_ok hg cab]
  exact ⟨hg, cab, Ty.ei_has (Ty.can_ok ca).1 (Ty.can_ok cb).1 hg h4, rfl⟩
theorem Sp.c2_is {a b c : Ty} {v : Tm} (h : Sp.c2 a b c v = true) : (Sp.isA v c).1 = true ∧ (Sp.isA v c).2.2 = 0 := by
  simp only [Sp.c2, Bool.and_eq_true, decide_eq_true_eq] at h
  obtain ⟨⟨h1, h2⟩, ⟨h3, h4⟩, h5⟩ := h
  have k1 : a.can = true ∧ b.can = true := by
    unfold Sp.subA at h1
    cases hx : (a.can && b.can) with
    | false => rw [hx] at h1; simp at h1
    | true => simpa using hx
  have k2 : c.can = true := by
    unfold Sp.subA at h2
    cases hx : (b.can && c.can) with
    | false => rw [hx] at h2; simp at h2
    | true => simp only [Bool.and_eq_true] at hx; exact hx.2
  have e1 : Sp.subA a b = (a.sub b, 0) := by unfold Sp.subA; rw [k1.1, k1.2]; rfl
  have e2 : Sp.subA b c = (b.sub c, 0) := by unfold Sp.subA; rw [k1.2, k2]; rfl
  rw [e1] at h3
  rw [e2] at h4
  by_cases hg : v.all.e = 0
  · rw [Sp.isA_ok hg k1.1] at h5
    rw [Sp.isA_ok hg k2]
    exact ⟨Ty.sub_snd b c (Ty.can_ok k1.2).1 (Ty.can_ok k2).1 h4 v hg (Ty.sub_snd a b (Ty.can_ok k1.1).1 (Ty.can_ok k1.2).1 h3 v hg h5), rfl⟩
  · rw [Sp.isA_bad hg] at h5; cases h5
theorem tt_of {w : World} {B : Nat → Prop} {cs : Array Value} {t' : Ty} (hin : t'.In w B cs) (hal : tt.typ.al t') : cs[0]? = some (.int .i64 3) ∧ cs[1]? = some (.int .i64 2) := by
  cases t' with
  | mk k o t p n l op c =>
    have e : tt.typ = tyKd 2 := by simp [tt, Tm.typ]
    rw [e, tyKd, Ty.al] at hal
    obtain ⟨h1, h2, -⟩ := Ty.In_only hin
    rw [h1, h2, ← hal.1, ← hal.2.1 rfl]
    exact ⟨rfl, rfl⟩
theorem chain {w1 V w2 : World} (h : Below w1.heap.size w1 V) (k : Below V.heap.size V w2) : Below w1.heap.size w1 w2 := h.trans (k.mono h.size)
abbrev three (a b c : Array Value) : Array Value := (a.toList ++ b.toList ++ c.toList).toArray
theorem three_at {a b c : Array Value} (ha : a.size = 18) (hb : b.size = 18) (x : Nat) (hx : x < 18) : (three a b c)[0 + x]? = a[x]? ∧ (three a b c)[18 + x]? = b[x]? ∧ (three a b c)[36 + x]? = c[x]? := by
  have la : a.toList.length = 18 := by simpa using ha
  have lb : b.toList.length = 18 := by simpa using hb
  refine ⟨?_, ?_, ?_⟩
  · rw [Nat.zero_add, List.getElem?_toArray, List.getElem?_append_left (by simp; omega), List.getElem?_append_left (by omega), Array.getElem?_toList]
  · rw [List.getElem?_toArray, List.getElem?_append_left (by simp; omega), List.getElem?_append_right (by omega), la, Nat.add_sub_cancel_left, Array.getElem?_toList]
  · rw [List.getElem?_toArray, List.getElem?_append_right (by simp; omega), List.length_append, la, lb, show 36 + x - (18 + 18) = x by omega, Array.getElem?_toList]

set_option maxRecDepth 100000 in
set_option maxHeartbeats 8000000 in
theorem CheckEither_any (a b c : Ty) (ca cb cc : Array Value) (v : Tm) (cv : Array Value) (w : World) (ha : a.In w (Lo w.heap.size) ca) (hb : b.In w (Lo w.heap.size) cb) (hc : c.In w (Lo w.heap.size) cc) (hv : v.In w (Lo w.heap.size) cv) :
    Calls Tryz.prog 5 #[.agg (three ca cb cc), .agg cv] w fun e w' => e = .returned (.bool true) ∧ Below w.heap.size w w' := by
  obtain ⟨hsa, hoa⟩ := Ty.In_cells ha
  obtain ⟨hsb, hob⟩ := Ty.In_cells hb
  obtain ⟨hsc, hoc⟩ := Ty.In_cells hc
  obtain ⟨W0, hW0⟩ : ∃ W0, W0 = (w.alloc (.cells (three ca cb cc) 54)).alloc (.cells cv 29) := ⟨_, rfl⟩
  have hb0 : Below w.heap.size w W0 := by rw [hW0]; exact ((Below.refl _ _).alloc (Nat.le_refl _) _).alloc (by simp) _
  have hn0 : W0.heap[w.heap.size]? = some (.cells (three ca cb cc) 54 (0, 0)) := by rw [hW0, Below.heap_alloc _ _ _ (by simp)]; exact heap_alloc_new w _
  have hn1 : W0.heap[w.heap.size + 1]? = some (.cells cv 29 (0, 0)) := by
    rw [hW0]
    have := heap_alloc_new (w.alloc (.cells (three ca cb cc) 54)) (.cells cv 29)
    simpa using this
  have hz0 : W0.heap.size = w.heap.size + 2 := by rw [hW0]; simp
  have HL0a : Hid (∀ W, Below W0.heap.size W0 W → (loadVar 34 ⟨w.heap.size, 0, none⟩).run Tryz.prog W = .ok (.agg ca) W) := fun W hW => yldE hsa (fun x hx => by rw [hW.cell (p := ⟨w.heap.size, 0 + x, none⟩) (by show w.heap.size < _; omega), cell_of_row _ _ _ _ _ _ hn0]; exact (three_at hsa hsb x hx).1)
  have HL0b : Hid (∀ W, Below W0.heap.size W0 W → (loadVar 34 ⟨w.heap.size, 18, none⟩).run Tryz.prog W = .ok (.agg cb) W) := fun W hW => yldE hsb (fun x hx => by rw [hW.cell (p := ⟨w.heap.size, 18 + x, none⟩) (by show w.heap.size < _; omega), cell_of_row _ _ _ _ _ _ hn0]; exact (three_at hsa hsb x hx).2.1)
  have HL0c : Hid (∀ W, Below W0.heap.size W0 W → (loadVar 34 ⟨w.heap.size, 36, none⟩).run Tryz.prog W = .ok (.agg cc) W) := fun W hW => yldE hsc (fun x hx => by rw [hW.cell (p := ⟨w.heap.size, 36 + x, none⟩) (by show w.heap.size < _; omega), cell_of_row _ _ _ _ _ _ hn0]; exact (three_at hsa hsb x hx).2.2)
  go_enter Tryz.func5, Tryz.ntmps5
  go_wp2_with fail
  rw [← hW0]
  refine wp_cutG (fun (g : Nat × Nat × Nat) => [(36, .pointer (some ⟨w.heap.size, 0, none⟩)), (37, .agg ca), (38, .pointer (some ⟨w.heap.size, 18, none⟩)), (39, .agg cb), (40, .pointer (some ⟨w.heap.size, 36, none⟩)), (41, .agg cc), (5, .pointer (some ⟨g.1, 0, none⟩)), (6, .pointer (some ⟨g.2.1, 0, none⟩)), (7, .pointer (some ⟨g.2.2, 0, none⟩))]) (fun g W => Below W0.heap.size W0 W ∧ W.heap[g.1]? = some (.cells ca 34 (0, 0)) ∧ W.heap[g.2.1]? = some (.cells cb 34 (0, 0)) ∧ W.heap[g.2.2]? = some (.cells cc 34 (0, 0))) ?_ ?_
  · refine wp_region_held_drew (S := fun W => Below W0.heap.size W0 W) (by kernel_rfl) (Below.refl _ _).drew (fun hHeld => ?_)
    have hS : Below W0.heap.size W0 W0.drew := (Below.refl _ _).drew
    generalize W0.drew = WD at hS hHeld ⊢
    refine tkH (i := 0) (v := ?_) rfl (by kernel_rfl) (by rfl) ?_ (by assumption) ?_
    rotate_left
    · intro W hSw; go_simp; try (with_reducible rfl)
    simp only [Act.put, lsA, lsB, lsC]
    refine wpAnyH_take (i := 1) (oi := { dst := some 37, op := Go.Op.load 34 (Go.Operand.tmp 36), type := 34, pos := "law.go:117", after := #[{ on := 0, ground := Go.Ground.data }], guard := none }) (v := (.agg ca)) rfl (by kernel_rfl) (by kernel_rfl) (by kernel_rfl) (fun _ _ _ h => absurd h.1 (fun e => by cases e)) (take_ld rfl rfl rfl (fun W hSw => HL0a.out _ hSw)) (by assumption) ?_
    simp only [Act.put, lsA, lsB, lsC]
    refine tkH (i := 2) (v := ?_) rfl (by kernel_rfl) (by rfl) ?_ (by assumption) ?_
    rotate_left
    · intro W hSw; go_simp; try (with_reducible rfl)
    simp only [Act.put, lsA, lsB, lsC]
    refine wpAnyH_take (i := 3) (oi := { dst := some 39, op := Go.Op.load 34 (Go.Operand.tmp 38), type := 34, pos := "law.go:117", after := #[{ on := 2, ground := Go.Ground.data }, { on := 9, ground := Go.Ground.gcOnly Go.Departure.lateStores }], guard := none }) (v := (.agg cb)) rfl (by kernel_rfl) (by kernel_rfl) (by kernel_rfl) (fun _ _ _ h => absurd h.1 (fun e => by cases e)) (take_ld rfl rfl rfl (fun W hSw => HL0b.out _ hSw)) (by assumption) ?_
    simp only [Act.put, lsA, lsB, lsC]
    refine tkH (i := 4) (v := ?_) rfl (by kernel_rfl) (by rfl) ?_ (by assumption) ?_
    rotate_left
    · intro W hSw; go_simp; try (with_reducible rfl)
    simp only [Act.put, lsA, lsB, lsC]
    refine wpAnyH_take (i := 5) (oi := { dst := some 41, op := Go.Op.load 34 (Go.Operand.tmp 40), type := 34, pos := "law.go:117", after := #[{ on := 4, ground := Go.Ground.data }, { on := 10, ground := Go.Ground.gcOnly Go.Departure.lateStores }], guard := none }) (v := (.agg cc)) rfl (by kernel_rfl) (by kernel_rfl) (by kernel_rfl) (fun _ _ _ h => absurd h.1 (fun e => by cases e)) (take_ld rfl rfl rfl (fun W hSw => HL0c.out _ hSw)) (by assumption) ?_
    simp only [Act.put, lsA, lsB, lsC]
    have hS0 := hS
    refine wpAnyH_ready (rs := [6, 7, 8]) (by kernel_rfl) (by simp) (arC rfl (fun K hK => ?_) (arC rfl (fun K hK => ?_) (arC rfl (fun K hK => ?_) AllReadyH.nil)))
    · rw [if_pos (by rfl)]
      refine wp_alloc_type rfl (fun za hza => ?_)
      have hna := heap_alloc_new WD (.cells za 34)
      have hS1 := hS0.alloc hS0.size (.cells za 34)
      refine hK.out _ _ hS1 (fun _ => ?_)
      clear hK K
      try simp only [Act.put, lsA, lsB, lsC]
      refine wpAnyH_ready (rs := [7, 8]) (by kernel_rfl) (by simp) (arC rfl (fun K hK => ?_) (arC rfl (fun K hK => ?_) AllReadyH.nil))
      · rw [if_pos (by rfl)]
        refine wp_alloc_type rfl (fun zb hzb => ?_)
        have hnb := heap_alloc_new (World.alloc WD (.cells za 34)) (.cells zb 34)
        have hS2 := hS1.alloc hS1.size (.cells zb 34)
        refine hK.out _ _ hS2 (fun _ => ?_)
        clear hK K
        try simp only [Act.put, lsA, lsB, lsC]
        refine wpAnyH_ready (rs := [8]) (by kernel_rfl) (by simp) (arC rfl (fun K hK => ?_) AllReadyH.nil)
        · rw [if_pos (by rfl)]
          refine wp_alloc_type rfl (fun zc hzc => ?_)
          have hnc := heap_alloc_new (World.alloc (World.alloc WD (.cells za 34)) (.cells zb 34)) (.cells zc 34)
          have hS3 := hS2.alloc hS2.size (.cells zc 34)
          refine hK.out _ _ hS3 (fun _ => ?_)
          clear hK K
          try simp only [Act.put, lsA, lsB, lsC]
          have e1 : ((World.alloc WD (.cells za 34))).heap.size = WD.heap.size + 1 := by simp
          have e2 : ((World.alloc (World.alloc WD (.cells za 34)) (.cells zb 34))).heap.size = WD.heap.size + 2 := by simp
          have ha : ((World.alloc (World.alloc (World.alloc WD (.cells za 34)) (.cells zb 34)) (.cells zc 34))).heap[(WD).heap.size]? = some (.cells za 34 (0, 0)) := by rw [old_alloc _ (by omega), old_alloc _ (by omega)]; exact hna
          have hb : ((World.alloc (World.alloc (World.alloc WD (.cells za 34)) (.cells zb 34)) (.cells zc 34))).heap[((World.alloc WD (.cells za 34))).heap.size]? = some (.cells zb 34 (0, 0)) := by rw [old_alloc _ (by omega)]; exact hnb
          have hc : ((World.alloc (World.alloc (World.alloc WD (.cells za 34)) (.cells zb 34)) (.cells zc 34))).heap[((World.alloc (World.alloc WD (.cells za 34)) (.cells zb 34))).heap.size]? = some (.cells zc 34 (0, 0)) := hnc
          have hge := hS.size
          refine wpAnyH_ready (rs := [9]) (by kernel_rfl) (by simp) (arC rfl (fun K hK => ?_) AllReadyH.nil)
          rw [if_pos (by rfl)]
          refine wp_store_row 34 _ _ rfl ((WD).heap.size) ca rfl rfl 34 za ha (by rw [hsa]; exact ysz) (by rw [hsa]; exact hza) hoa ?_
          have hTa := below_setRow hS3 (show W0.heap.size ≤ (WD).heap.size by omega) ca
          have kaa := setRow_heap (World.alloc (World.alloc (World.alloc WD (.cells za 34)) (.cells zb 34)) (.cells zc 34)) ((WD).heap.size) za ca _ _ ha
          have kab := (setRow_other (World.alloc (World.alloc (World.alloc WD (.cells za 34)) (.cells zb 34)) (.cells zc 34)) ((WD).heap.size) (((World.alloc WD (.cells za 34))).heap.size) ca (by omega)).trans hb
          have kac := (setRow_other (World.alloc (World.alloc (World.alloc WD (.cells za 34)) (.cells zb 34)) (.cells zc 34)) ((WD).heap.size) (((World.alloc (World.alloc WD (.cells za 34)) (.cells zb 34))).heap.size) ca (by omega)).trans hc
          refine hK.out _ _ hTa (fun _ => ?_)
          clear hK K
          try simp only [Act.put]
          refine wpAnyH_ready (rs := [10]) (by kernel_rfl) (by simp) (arC rfl (fun K hK => ?_) AllReadyH.nil)
          rw [if_pos (by rfl)]
          refine wp_store_row 34 _ _ rfl (((World.alloc WD (.cells za 34))).heap.size) cb rfl rfl 34 zb kab (by rw [hsb]; exact ysz) (by rw [hsb]; exact hzb) hob ?_
          have hTb := below_setRow hTa (show W0.heap.size ≤ ((World.alloc WD (.cells za 34))).heap.size by omega) cb
          have kba := (setRow_other (World.setRow (World.alloc (World.alloc (World.alloc WD (.cells za 34)) (.cells zb 34)) (.cells zc 34)) ((WD).heap.size) ca) (((World.alloc WD (.cells za 34))).heap.size) ((WD).heap.size) cb (by omega)).trans kaa
          have kbb := setRow_heap (World.setRow (World.alloc (World.alloc (World.alloc WD (.cells za 34)) (.cells zb 34)) (.cells zc 34)) ((WD).heap.size) ca) (((World.alloc WD (.cells za 34))).heap.size) zb cb _ _ kab
          have kbc := (setRow_other (World.setRow (World.alloc (World.alloc (World.alloc WD (.cells za 34)) (.cells zb 34)) (.cells zc 34)) ((WD).heap.size) ca) (((World.alloc WD (.cells za 34))).heap.size) (((World.alloc (World.alloc WD (.cells za 34)) (.cells zb 34))).heap.size) cb (by omega)).trans kac
          refine hK.out _ _ hTb (fun _ => ?_)
          clear hK K
          try simp only [Act.put]
          refine wpAnyH_ready (rs := [11]) (by kernel_rfl) (by simp) (arC rfl (fun K hK => ?_) AllReadyH.nil)
          rw [if_pos (by rfl)]
          refine wp_store_row 34 _ _ rfl (((World.alloc (World.alloc WD (.cells za 34)) (.cells zb 34))).heap.size) cc rfl rfl 34 zc kbc (by rw [hsc]; exact ysz) (by rw [hsc]; exact hzc) hoc ?_
          have hTc := below_setRow hTb (show W0.heap.size ≤ ((World.alloc (World.alloc WD (.cells za 34)) (.cells zb 34))).heap.size by omega) cc
          have kca := (setRow_other (World.setRow (World.setRow (World.alloc (World.alloc (World.alloc WD (.cells za 34)) (.cells zb 34)) (.cells zc 34)) ((WD).heap.size) ca) (((World.alloc WD (.cells za 34))).heap.size) cb) (((World.alloc (World.alloc WD (.cells za 34)) (.cells zb 34))).heap.size) ((WD).heap.size) cc (by omega)).trans kba
          have kcb := (setRow_other (World.setRow (World.setRow (World.alloc (World.alloc (World.alloc WD (.cells za 34)) (.cells zb 34)) (.cells zc 34)) ((WD).heap.size) ca) (((World.alloc WD (.cells za 34))).heap.size) cb) (((World.alloc (World.alloc WD (.cells za 34)) (.cells zb 34))).heap.size) (((World.alloc WD (.cells za 34))).heap.size) cc (by omega)).trans kbb
          have kcc := setRow_heap (World.setRow (World.setRow (World.alloc (World.alloc (World.alloc WD (.cells za 34)) (.cells zb 34)) (.cells zc 34)) ((WD).heap.size) ca) (((World.alloc WD (.cells za 34))).heap.size) cb) (((World.alloc (World.alloc WD (.cells za 34)) (.cells zb 34))).heap.size) zc cc _ _ kbc
          refine hK.out _ _ hTc (fun _ => ?_)
          clear hK K
          try simp only [Act.put]
          refine wpAnyH_done (by kernel_rfl) ?_ _
          refine ⟨rfl, ((WD).heap.size, ((World.alloc WD (.cells za 34))).heap.size, ((World.alloc (World.alloc WD (.cells za 34)) (.cells zb 34))).heap.size), ?_, hTc, kca, kcb, kcc⟩
          simp only [List.foldl, lsA, lsB, lsC]
      · rw [if_pos (by rfl)]
        refine wp_alloc_type rfl (fun zc hzc => ?_)
        have hnc := heap_alloc_new (World.alloc WD (.cells za 34)) (.cells zc 34)
        have hS2 := hS1.alloc hS1.size (.cells zc 34)
        refine hK.out _ _ hS2 (fun _ => ?_)
        clear hK K
        try simp only [Act.put, lsA, lsB, lsC]
        refine wpAnyH_ready (rs := [7]) (by kernel_rfl) (by simp) (arC rfl (fun K hK => ?_) AllReadyH.nil)
        · rw [if_pos (by rfl)]
          refine wp_alloc_type rfl (fun zb hzb => ?_)
          have hnb := heap_alloc_new (World.alloc (World.alloc WD (.cells za 34)) (.cells zc 34)) (.cells zb 34)
          have hS3 := hS2.alloc hS2.size (.cells zb 34)
          refine hK.out _ _ hS3 (fun _ => ?_)
          clear hK K
          try simp only [Act.put, lsA, lsB, lsC]
          have e1 : ((World.alloc WD (.cells za 34))).heap.size = WD.heap.size + 1 := by simp
          have e2 : ((World.alloc (World.alloc WD (.cells za 34)) (.cells zc 34))).heap.size = WD.heap.size + 2 := by simp
          have ha : ((World.alloc (World.alloc (World.alloc WD (.cells za 34)) (.cells zc 34)) (.cells zb 34))).heap[(WD).heap.size]? = some (.cells za 34 (0, 0)) := by rw [old_alloc _ (by omega), old_alloc _ (by omega)]; exact hna
          have hc : ((World.alloc (World.alloc (World.alloc WD (.cells za 34)) (.cells zc 34)) (.cells zb 34))).heap[((World.alloc WD (.cells za 34))).heap.size]? = some (.cells zc 34 (0, 0)) := by rw [old_alloc _ (by omega)]; exact hnc
          have hb : ((World.alloc (World.alloc (World.alloc WD (.cells za 34)) (.cells zc 34)) (.cells zb 34))).heap[((World.alloc (World.alloc WD (.cells za 34)) (.cells zc 34))).heap.size]? = some (.cells zb 34 (0, 0)) := hnb
          have hge := hS.size
          refine wpAnyH_ready (rs := [9]) (by kernel_rfl) (by simp) (arC rfl (fun K hK => ?_) AllReadyH.nil)
          rw [if_pos (by rfl)]
          refine wp_store_row 34 _ _ rfl ((WD).heap.size) ca rfl rfl 34 za ha (by rw [hsa]; exact ysz) (by rw [hsa]; exact hza) hoa ?_
          have hTa := below_setRow hS3 (show W0.heap.size ≤ (WD).heap.size by omega) ca
          have kaa := setRow_heap (World.alloc (World.alloc (World.alloc WD (.cells za 34)) (.cells zc 34)) (.cells zb 34)) ((WD).heap.size) za ca _ _ ha
          have kab := (setRow_other (World.alloc (World.alloc (World.alloc WD (.cells za 34)) (.cells zc 34)) (.cells zb 34)) ((WD).heap.size) (((World.alloc (World.alloc WD (.cells za 34)) (.cells zc 34))).heap.size) ca (by omega)).trans hb
          have kac := (setRow_other (World.alloc (World.alloc (World.alloc WD (.cells za 34)) (.cells zc 34)) (.cells zb 34)) ((WD).heap.size) (((World.alloc WD (.cells za 34))).heap.size) ca (by omega)).trans hc
          refine hK.out _ _ hTa (fun _ => ?_)
          clear hK K
          try simp only [Act.put]
          refine wpAnyH_ready (rs := [10]) (by kernel_rfl) (by simp) (arC rfl (fun K hK => ?_) AllReadyH.nil)
          rw [if_pos (by rfl)]
          refine wp_store_row 34 _ _ rfl (((World.alloc (World.alloc WD (.cells za 34)) (.cells zc 34))).heap.size) cb rfl rfl 34 zb kab (by rw [hsb]; exact ysz) (by rw [hsb]; exact hzb) hob ?_
          have hTb := below_setRow hTa (show W0.heap.size ≤ ((World.alloc (World.alloc WD (.cells za 34)) (.cells zc 34))).heap.size by omega) cb
          have kba := (setRow_other (World.setRow (World.alloc (World.alloc (World.alloc WD (.cells za 34)) (.cells zc 34)) (.cells zb 34)) ((WD).heap.size) ca) (((World.alloc (World.alloc WD (.cells za 34)) (.cells zc 34))).heap.size) ((WD).heap.size) cb (by omega)).trans kaa
          have kbb := setRow_heap (World.setRow (World.alloc (World.alloc (World.alloc WD (.cells za 34)) (.cells zc 34)) (.cells zb 34)) ((WD).heap.size) ca) (((World.alloc (World.alloc WD (.cells za 34)) (.cells zc 34))).heap.size) zb cb _ _ kab
          have kbc := (setRow_other (World.setRow (World.alloc (World.alloc (World.alloc WD (.cells za 34)) (.cells zc 34)) (.cells zb 34)) ((WD).heap.size) ca) (((World.alloc (World.alloc WD (.cells za 34)) (.cells zc 34))).heap.size) (((World.alloc WD (.cells za 34))).heap.size) cb (by omega)).trans kac
          refine hK.out _ _ hTb (fun _ => ?_)
          clear hK K
          try simp only [Act.put]
          refine wpAnyH_ready (rs := [11]) (by kernel_rfl) (by simp) (arC rfl (fun K hK => ?_) AllReadyH.nil)
          rw [if_pos (by rfl)]
          refine wp_store_row 34 _ _ rfl (((World.alloc WD (.cells za 34))).heap.size) cc rfl rfl 34 zc kbc (by rw [hsc]; exact ysz) (by rw [hsc]; exact hzc) hoc ?_
          have hTc := below_setRow hTb (show W0.heap.size ≤ ((World.alloc WD (.cells za 34))).heap.size by omega) cc
          have kca := (setRow_other (World.setRow (World.setRow (World.alloc (World.alloc (World.alloc WD (.cells za 34)) (.cells zc 34)) (.cells zb 34)) ((WD).heap.size) ca) (((World.alloc (World.alloc WD (.cells za 34)) (.cells zc 34))).heap.size) cb) (((World.alloc WD (.cells za 34))).heap.size) ((WD).heap.size) cc (by omega)).trans kba
          have kcb := (setRow_other (World.setRow (World.setRow (World.alloc (World.alloc (World.alloc WD (.cells za 34)) (.cells zc 34)) (.cells zb 34)) ((WD).heap.size) ca) (((World.alloc (World.alloc WD (.cells za 34)) (.cells zc 34))).heap.size) cb) (((World.alloc WD (.cells za 34))).heap.size) (((World.alloc (World.alloc WD (.cells za 34)) (.cells zc 34))).heap.size) cc (by omega)).trans kbb
          have kcc := setRow_heap (World.setRow (World.setRow (World.alloc (World.alloc (World.alloc WD (.cells za 34)) (.cells zc 34)) (.cells zb 34)) ((WD).heap.size) ca) (((World.alloc (World.alloc WD (.cells za 34)) (.cells zc 34))).heap.size) cb) (((World.alloc WD (.cells za 34))).heap.size) zc cc _ _ kbc
          refine hK.out _ _ hTc (fun _ => ?_)
          clear hK K
          try simp only [Act.put]
          refine wpAnyH_done (by kernel_rfl) ?_ _
          refine ⟨rfl, ((WD).heap.size, ((World.alloc (World.alloc WD (.cells za 34)) (.cells zc 34))).heap.size, ((World.alloc WD (.cells za 34))).heap.size), ?_, hTc, kca, kcb, kcc⟩
          simp only [List.foldl, lsA, lsB, lsC]
    · rw [if_pos (by rfl)]
      refine wp_alloc_type rfl (fun zb hzb => ?_)
      have hnb := heap_alloc_new WD (.cells zb 34)
      have hS1 := hS0.alloc hS0.size (.cells zb 34)
      refine hK.out _ _ hS1 (fun _ => ?_)
      clear hK K
      try simp only [Act.put, lsA, lsB, lsC]
      refine wpAnyH_ready (rs := [6, 8]) (by kernel_rfl) (by simp) (arC rfl (fun K hK => ?_) (arC rfl (fun K hK => ?_) AllReadyH.nil))
      · rw [if_pos (by rfl)]
        refine wp_alloc_type rfl (fun za hza => ?_)
        have hna := heap_alloc_new (World.alloc WD (.cells zb 34)) (.cells za 34)
        have hS2 := hS1.alloc hS1.size (.cells za 34)
        refine hK.out _ _ hS2 (fun _ => ?_)
        clear hK K
        try simp only [Act.put, lsA, lsB, lsC]
        refine wpAnyH_ready (rs := [8]) (by kernel_rfl) (by simp) (arC rfl (fun K hK => ?_) AllReadyH.nil)
        · rw [if_pos (by rfl)]
          refine wp_alloc_type rfl (fun zc hzc => ?_)
          have hnc := heap_alloc_new (World.alloc (World.alloc WD (.cells zb 34)) (.cells za 34)) (.cells zc 34)
          have hS3 := hS2.alloc hS2.size (.cells zc 34)
          refine hK.out _ _ hS3 (fun _ => ?_)
          clear hK K
          try simp only [Act.put, lsA, lsB, lsC]
          have e1 : ((World.alloc WD (.cells zb 34))).heap.size = WD.heap.size + 1 := by simp
          have e2 : ((World.alloc (World.alloc WD (.cells zb 34)) (.cells za 34))).heap.size = WD.heap.size + 2 := by simp
          have hb : ((World.alloc (World.alloc (World.alloc WD (.cells zb 34)) (.cells za 34)) (.cells zc 34))).heap[(WD).heap.size]? = some (.cells zb 34 (0, 0)) := by rw [old_alloc _ (by omega), old_alloc _ (by omega)]; exact hnb
          have ha : ((World.alloc (World.alloc (World.alloc WD (.cells zb 34)) (.cells za 34)) (.cells zc 34))).heap[((World.alloc WD (.cells zb 34))).heap.size]? = some (.cells za 34 (0, 0)) := by rw [old_alloc _ (by omega)]; exact hna
          have hc : ((World.alloc (World.alloc (World.alloc WD (.cells zb 34)) (.cells za 34)) (.cells zc 34))).heap[((World.alloc (World.alloc WD (.cells zb 34)) (.cells za 34))).heap.size]? = some (.cells zc 34 (0, 0)) := hnc
          have hge := hS.size
          refine wpAnyH_ready (rs := [9]) (by kernel_rfl) (by simp) (arC rfl (fun K hK => ?_) AllReadyH.nil)
          rw [if_pos (by rfl)]
          refine wp_store_row 34 _ _ rfl (((World.alloc WD (.cells zb 34))).heap.size) ca rfl rfl 34 za ha (by rw [hsa]; exact ysz) (by rw [hsa]; exact hza) hoa ?_
          have hTa := below_setRow hS3 (show W0.heap.size ≤ ((World.alloc WD (.cells zb 34))).heap.size by omega) ca
          have kaa := setRow_heap (World.alloc (World.alloc (World.alloc WD (.cells zb 34)) (.cells za 34)) (.cells zc 34)) (((World.alloc WD (.cells zb 34))).heap.size) za ca _ _ ha
          have kab := (setRow_other (World.alloc (World.alloc (World.alloc WD (.cells zb 34)) (.cells za 34)) (.cells zc 34)) (((World.alloc WD (.cells zb 34))).heap.size) ((WD).heap.size) ca (by omega)).trans hb
          have kac := (setRow_other (World.alloc (World.alloc (World.alloc WD (.cells zb 34)) (.cells za 34)) (.cells zc 34)) (((World.alloc WD (.cells zb 34))).heap.size) (((World.alloc (World.alloc WD (.cells zb 34)) (.cells za 34))).heap.size) ca (by omega)).trans hc
          refine hK.out _ _ hTa (fun _ => ?_)
          clear hK K
          try simp only [Act.put]
          refine wpAnyH_ready (rs := [10]) (by kernel_rfl) (by simp) (arC rfl (fun K hK => ?_) AllReadyH.nil)
          rw [if_pos (by rfl)]
          refine wp_store_row 34 _ _ rfl ((WD).heap.size) cb rfl rfl 34 zb kab (by rw [hsb]; exact ysz) (by rw [hsb]; exact hzb) hob ?_
          have hTb := below_setRow hTa (show W0.heap.size ≤ (WD).heap.size by omega) cb
          have kba := (setRow_other (World.setRow (World.alloc (World.alloc (World.alloc WD (.cells zb 34)) (.cells za 34)) (.cells zc 34)) (((World.alloc WD (.cells zb 34))).heap.size) ca) ((WD).heap.size) (((World.alloc WD (.cells zb 34))).heap.size) cb (by omega)).trans kaa
          have kbb := setRow_heap (World.setRow (World.alloc (World.alloc (World.alloc WD (.cells zb 34)) (.cells za 34)) (.cells zc 34)) (((World.alloc WD (.cells zb 34))).heap.size) ca) ((WD).heap.size) zb cb _ _ kab
          have kbc := (setRow_other (World.setRow (World.alloc (World.alloc (World.alloc WD (.cells zb 34)) (.cells za 34)) (.cells zc 34)) (((World.alloc WD (.cells zb 34))).heap.size) ca) ((WD).heap.size) (((World.alloc (World.alloc WD (.cells zb 34)) (.cells za 34))).heap.size) cb (by omega)).trans kac
          refine hK.out _ _ hTb (fun _ => ?_)
          clear hK K
          try simp only [Act.put]
          refine wpAnyH_ready (rs := [11]) (by kernel_rfl) (by simp) (arC rfl (fun K hK => ?_) AllReadyH.nil)
          rw [if_pos (by rfl)]
          refine wp_store_row 34 _ _ rfl (((World.alloc (World.alloc WD (.cells zb 34)) (.cells za 34))).heap.size) cc rfl rfl 34 zc kbc (by rw [hsc]; exact ysz) (by rw [hsc]; exact hzc) hoc ?_
          have hTc := below_setRow hTb (show W0.heap.size ≤ ((World.alloc (World.alloc WD (.cells zb 34)) (.cells za 34))).heap.size by omega) cc
          have kca := (setRow_other (World.setRow (World.setRow (World.alloc (World.alloc (World.alloc WD (.cells zb 34)) (.cells za 34)) (.cells zc 34)) (((World.alloc WD (.cells zb 34))).heap.size) ca) ((WD).heap.size) cb) (((World.alloc (World.alloc WD (.cells zb 34)) (.cells za 34))).heap.size) (((World.alloc WD (.cells zb 34))).heap.size) cc (by omega)).trans kba
          have kcb := (setRow_other (World.setRow (World.setRow (World.alloc (World.alloc (World.alloc WD (.cells zb 34)) (.cells za 34)) (.cells zc 34)) (((World.alloc WD (.cells zb 34))).heap.size) ca) ((WD).heap.size) cb) (((World.alloc (World.alloc WD (.cells zb 34)) (.cells za 34))).heap.size) ((WD).heap.size) cc (by omega)).trans kbb
          have kcc := setRow_heap (World.setRow (World.setRow (World.alloc (World.alloc (World.alloc WD (.cells zb 34)) (.cells za 34)) (.cells zc 34)) (((World.alloc WD (.cells zb 34))).heap.size) ca) ((WD).heap.size) cb) (((World.alloc (World.alloc WD (.cells zb 34)) (.cells za 34))).heap.size) zc cc _ _ kbc
          refine hK.out _ _ hTc (fun _ => ?_)
          clear hK K
          try simp only [Act.put]
          refine wpAnyH_done (by kernel_rfl) ?_ _
          refine ⟨rfl, (((World.alloc WD (.cells zb 34))).heap.size, (WD).heap.size, ((World.alloc (World.alloc WD (.cells zb 34)) (.cells za 34))).heap.size), ?_, hTc, kca, kcb, kcc⟩
          simp only [List.foldl, lsA, lsB, lsC]
      · rw [if_pos (by rfl)]
        refine wp_alloc_type rfl (fun zc hzc => ?_)
        have hnc := heap_alloc_new (World.alloc WD (.cells zb 34)) (.cells zc 34)
        have hS2 := hS1.alloc hS1.size (.cells zc 34)
        refine hK.out _ _ hS2 (fun _ => ?_)
        clear hK K
        try simp only [Act.put, lsA, lsB, lsC]
        refine wpAnyH_ready (rs := [6]) (by kernel_rfl) (by simp) (arC rfl (fun K hK => ?_) AllReadyH.nil)
        · rw [if_pos (by rfl)]
          refine wp_alloc_type rfl (fun za hza => ?_)
          have hna := heap_alloc_new (World.alloc (World.alloc WD (.cells zb 34)) (.cells zc 34)) (.cells za 34)
          have hS3 := hS2.alloc hS2.size (.cells za 34)
          refine hK.out _ _ hS3 (fun _ => ?_)
          clear hK K
          try simp only [Act.put, lsA, lsB, lsC]
          have e1 : ((World.alloc WD (.cells zb 34))).heap.size = WD.heap.size + 1 := by simp
          have e2 : ((World.alloc (World.alloc WD (.cells zb 34)) (.cells zc 34))).heap.size = WD.heap.size + 2 := by simp
          have hb : ((World.alloc (World.alloc (World.alloc WD (.cells zb 34)) (.cells zc 34)) (.cells za 34))).heap[(WD).heap.size]? = some (.cells zb 34 (0, 0)) := by rw [old_alloc _ (by omega), old_alloc _ (by omega)]; exact hnb
          have hc : ((World.alloc (World.alloc (World.alloc WD (.cells zb 34)) (.cells zc 34)) (.cells za 34))).heap[((World.alloc WD (.cells zb 34))).heap.size]? = some (.cells zc 34 (0, 0)) := by rw [old_alloc _ (by omega)]; exact hnc
          have ha : ((World.alloc (World.alloc (World.alloc WD (.cells zb 34)) (.cells zc 34)) (.cells za 34))).heap[((World.alloc (World.alloc WD (.cells zb 34)) (.cells zc 34))).heap.size]? = some (.cells za 34 (0, 0)) := hna
          have hge := hS.size
          refine wpAnyH_ready (rs := [9]) (by kernel_rfl) (by simp) (arC rfl (fun K hK => ?_) AllReadyH.nil)
          rw [if_pos (by rfl)]
          refine wp_store_row 34 _ _ rfl (((World.alloc (World.alloc WD (.cells zb 34)) (.cells zc 34))).heap.size) ca rfl rfl 34 za ha (by rw [hsa]; exact ysz) (by rw [hsa]; exact hza) hoa ?_
          have hTa := below_setRow hS3 (show W0.heap.size ≤ ((World.alloc (World.alloc WD (.cells zb 34)) (.cells zc 34))).heap.size by omega) ca
          have kaa := setRow_heap (World.alloc (World.alloc (World.alloc WD (.cells zb 34)) (.cells zc 34)) (.cells za 34)) (((World.alloc (World.alloc WD (.cells zb 34)) (.cells zc 34))).heap.size) za ca _ _ ha
          have kab := (setRow_other (World.alloc (World.alloc (World.alloc WD (.cells zb 34)) (.cells zc 34)) (.cells za 34)) (((World.alloc (World.alloc WD (.cells zb 34)) (.cells zc 34))).heap.size) ((WD).heap.size) ca (by omega)).trans hb
          have kac := (setRow_other (World.alloc (World.alloc (World.alloc WD (.cells zb 34)) (.cells zc 34)) (.cells za 34)) (((World.alloc (World.alloc WD (.cells zb 34)) (.cells zc 34))).heap.size) (((World.alloc WD (.cells zb 34))).heap.size) ca (by omega)).trans hc
          refine hK.out _ _ hTa (fun _ => ?_)
          clear hK K
          try simp only [Act.put]
          refine wpAnyH_ready (rs := [10]) (by kernel_rfl) (by simp) (arC rfl (fun K hK => ?_) AllReadyH.nil)
          rw [if_pos (by rfl)]
          refine wp_store_row 34 _ _ rfl ((WD).heap.size) cb rfl rfl 34 zb kab (by rw [hsb]; exact ysz) (by rw [hsb]; exact hzb) hob ?_
          have hTb := below_setRow hTa (show W0.heap.size ≤ (WD).heap.size by omega) cb
          have kba := (setRow_other (World.setRow (World.alloc (World.alloc (World.alloc WD (.cells zb 34)) (.cells zc 34)) (.cells za 34)) (((World.alloc (World.alloc WD (.cells zb 34)) (.cells zc 34))).heap.size) ca) ((WD).heap.size) (((World.alloc (World.alloc WD (.cells zb 34)) (.cells zc 34))).heap.size) cb (by omega)).trans kaa
          have kbb := setRow_heap (World.setRow (World.alloc (World.alloc (World.alloc WD (.cells zb 34)) (.cells zc 34)) (.cells za 34)) (((World.alloc (World.alloc WD (.cells zb 34)) (.cells zc 34))).heap.size) ca) ((WD).heap.size) zb cb _ _ kab
          have kbc := (setRow_other (World.setRow (World.alloc (World.alloc (World.alloc WD (.cells zb 34)) (.cells zc 34)) (.cells za 34)) (((World.alloc (World.alloc WD (.cells zb 34)) (.cells zc 34))).heap.size) ca) ((WD).heap.size) (((World.alloc WD (.cells zb 34))).heap.size) cb (by omega)).trans kac
          refine hK.out _ _ hTb (fun _ => ?_)
          clear hK K
          try simp only [Act.put]
          refine wpAnyH_ready (rs := [11]) (by kernel_rfl) (by simp) (arC rfl (fun K hK => ?_) AllReadyH.nil)
          rw [if_pos (by rfl)]
          refine wp_store_row 34 _ _ rfl (((World.alloc WD (.cells zb 34))).heap.size) cc rfl rfl 34 zc kbc (by rw [hsc]; exact ysz) (by rw [hsc]; exact hzc) hoc ?_
          have hTc := below_setRow hTb (show W0.heap.size ≤ ((World.alloc WD (.cells zb 34))).heap.size by omega) cc
          have kca := (setRow_other (World.setRow (World.setRow (World.alloc (World.alloc (World.alloc WD (.cells zb 34)) (.cells zc 34)) (.cells za 34)) (((World.alloc (World.alloc WD (.cells zb 34)) (.cells zc 34))).heap.size) ca) ((WD).heap.size) cb) (((World.alloc WD (.cells zb 34))).heap.size) (((World.alloc (World.alloc WD (.cells zb 34)) (.cells zc 34))).heap.size) cc (by omega)).trans kba
          have kcb := (setRow_other (World.setRow (World.setRow (World.alloc (World.alloc (World.alloc WD (.cells zb 34)) (.cells zc 34)) (.cells za 34)) (((World.alloc (World.alloc WD (.cells zb 34)) (.cells zc 34))).heap.size) ca) ((WD).heap.size) cb) (((World.alloc WD (.cells zb 34))).heap.size) ((WD).heap.size) cc (by omega)).trans kbb
          have kcc := setRow_heap (World.setRow (World.setRow (World.alloc (World.alloc (World.alloc WD (.cells zb 34)) (.cells zc 34)) (.cells za 34)) (((World.alloc (World.alloc WD (.cells zb 34)) (.cells zc 34))).heap.size) ca) ((WD).heap.size) cb) (((World.alloc WD (.cells zb 34))).heap.size) zc cc _ _ kbc
          refine hK.out _ _ hTc (fun _ => ?_)
          clear hK K
          try simp only [Act.put]
          refine wpAnyH_done (by kernel_rfl) ?_ _
          refine ⟨rfl, (((World.alloc (World.alloc WD (.cells zb 34)) (.cells zc 34))).heap.size, (WD).heap.size, ((World.alloc WD (.cells zb 34))).heap.size), ?_, hTc, kca, kcb, kcc⟩
          simp only [List.foldl, lsA, lsB, lsC]
    · rw [if_pos (by rfl)]
      refine wp_alloc_type rfl (fun zc hzc => ?_)
      have hnc := heap_alloc_new WD (.cells zc 34)
      have hS1 := hS0.alloc hS0.size (.cells zc 34)
      refine hK.out _ _ hS1 (fun _ => ?_)
      clear hK K
      try simp only [Act.put, lsA, lsB, lsC]
      refine wpAnyH_ready (rs := [6, 7]) (by kernel_rfl) (by simp) (arC rfl (fun K hK => ?_) (arC rfl (fun K hK => ?_) AllReadyH.nil))
      · rw [if_pos (by rfl)]
        refine wp_alloc_type rfl (fun za hza => ?_)
        have hna := heap_alloc_new (World.alloc WD (.cells zc 34)) (.cells za 34)
        have hS2 := hS1.alloc hS1.size (.cells za 34)
        refine hK.out _ _ hS2 (fun _ => ?_)
        clear hK K
        try simp only [Act.put, lsA, lsB, lsC]
        refine wpAnyH_ready (rs := [7]) (by kernel_rfl) (by simp) (arC rfl (fun K hK => ?_) AllReadyH.nil)
        · rw [if_pos (by rfl)]
          refine wp_alloc_type rfl (fun zb hzb => ?_)
          have hnb := heap_alloc_new (World.alloc (World.alloc WD (.cells zc 34)) (.cells za 34)) (.cells zb 34)
          have hS3 := hS2.alloc hS2.size (.cells zb 34)
          refine hK.out _ _ hS3 (fun _ => ?_)
          clear hK K
          try simp only [Act.put, lsA, lsB, lsC]
          have e1 : ((World.alloc WD (.cells zc 34))).heap.size = WD.heap.size + 1 := by simp
          have e2 : ((World.alloc (World.alloc WD (.cells zc 34)) (.cells za 34))).heap.size = WD.heap.size + 2 := by simp
          have hc : ((World.alloc (World.alloc (World.alloc WD (.cells zc 34)) (.cells za 34)) (.cells zb 34))).heap[(WD).heap.size]? = some (.cells zc 34 (0, 0)) := by rw [old_alloc _ (by omega), old_alloc _ (by omega)]; exact hnc
          have ha : ((World.alloc (World.alloc (World.alloc WD (.cells zc 34)) (.cells za 34)) (.cells zb 34))).heap[((World.alloc WD (.cells zc 34))).heap.size]? = some (.cells za 34 (0, 0)) := by rw [old_alloc _ (by omega)]; exact hna
          have hb : ((World.alloc (World.alloc (World.alloc WD (.cells zc 34)) (.cells za 34)) (.cells zb 34))).heap[((World.alloc (World.alloc WD (.cells zc 34)) (.cells za 34))).heap.size]? = some (.cells zb 34 (0, 0)) := hnb
          have hge := hS.size
          refine wpAnyH_ready (rs := [9]) (by kernel_rfl) (by simp) (arC rfl (fun K hK => ?_) AllReadyH.nil)
          rw [if_pos (by rfl)]
          refine wp_store_row 34 _ _ rfl (((World.alloc WD (.cells zc 34))).heap.size) ca rfl rfl 34 za ha (by rw [hsa]; exact ysz) (by rw [hsa]; exact hza) hoa ?_
          have hTa := below_setRow hS3 (show W0.heap.size ≤ ((World.alloc WD (.cells zc 34))).heap.size by omega) ca
          have kaa := setRow_heap (World.alloc (World.alloc (World.alloc WD (.cells zc 34)) (.cells za 34)) (.cells zb 34)) (((World.alloc WD (.cells zc 34))).heap.size) za ca _ _ ha
          have kab := (setRow_other (World.alloc (World.alloc (World.alloc WD (.cells zc 34)) (.cells za 34)) (.cells zb 34)) (((World.alloc WD (.cells zc 34))).heap.size) (((World.alloc (World.alloc WD (.cells zc 34)) (.cells za 34))).heap.size) ca (by omega)).trans hb
          have kac := (setRow_other (World.alloc (World.alloc (World.alloc WD (.cells zc 34)) (.cells za 34)) (.cells zb 34)) (((World.alloc WD (.cells zc 34))).heap.size) ((WD).heap.size) ca (by omega)).trans hc
          refine hK.out _ _ hTa (fun _ => ?_)
          clear hK K
          try simp only [Act.put]
          refine wpAnyH_ready (rs := [10]) (by kernel_rfl) (by simp) (arC rfl (fun K hK => ?_) AllReadyH.nil)
          rw [if_pos (by rfl)]
          refine wp_store_row 34 _ _ rfl (((World.alloc (World.alloc WD (.cells zc 34)) (.cells za 34))).heap.size) cb rfl rfl 34 zb kab (by rw [hsb]; exact ysz) (by rw [hsb]; exact hzb) hob ?_
          have hTb := below_setRow hTa (show W0.heap.size ≤ ((World.alloc (World.alloc WD (.cells zc 34)) (.cells za 34))).heap.size by omega) cb
          have kba := (setRow_other (World.setRow (World.alloc (World.alloc (World.alloc WD (.cells zc 34)) (.cells za 34)) (.cells zb 34)) (((World.alloc WD (.cells zc 34))).heap.size) ca) (((World.alloc (World.alloc WD (.cells zc 34)) (.cells za 34))).heap.size) (((World.alloc WD (.cells zc 34))).heap.size) cb (by omega)).trans kaa
          have kbb := setRow_heap (World.setRow (World.alloc (World.alloc (World.alloc WD (.cells zc 34)) (.cells za 34)) (.cells zb 34)) (((World.alloc WD (.cells zc 34))).heap.size) ca) (((World.alloc (World.alloc WD (.cells zc 34)) (.cells za 34))).heap.size) zb cb _ _ kab
          have kbc := (setRow_other (World.setRow (World.alloc (World.alloc (World.alloc WD (.cells zc 34)) (.cells za 34)) (.cells zb 34)) (((World.alloc WD (.cells zc 34))).heap.size) ca) (((World.alloc (World.alloc WD (.cells zc 34)) (.cells za 34))).heap.size) ((WD).heap.size) cb (by omega)).trans kac
          refine hK.out _ _ hTb (fun _ => ?_)
          clear hK K
          try simp only [Act.put]
          refine wpAnyH_ready (rs := [11]) (by kernel_rfl) (by simp) (arC rfl (fun K hK => ?_) AllReadyH.nil)
          rw [if_pos (by rfl)]
          refine wp_store_row 34 _ _ rfl ((WD).heap.size) cc rfl rfl 34 zc kbc (by rw [hsc]; exact ysz) (by rw [hsc]; exact hzc) hoc ?_
          have hTc := below_setRow hTb (show W0.heap.size ≤ (WD).heap.size by omega) cc
          have kca := (setRow_other (World.setRow (World.setRow (World.alloc (World.alloc (World.alloc WD (.cells zc 34)) (.cells za 34)) (.cells zb 34)) (((World.alloc WD (.cells zc 34))).heap.size) ca) (((World.alloc (World.alloc WD (.cells zc 34)) (.cells za 34))).heap.size) cb) ((WD).heap.size) (((World.alloc WD (.cells zc 34))).heap.size) cc (by omega)).trans kba
          have kcb := (setRow_other (World.setRow (World.setRow (World.alloc (World.alloc (World.alloc WD (.cells zc 34)) (.cells za 34)) (.cells zb 34)) (((World.alloc WD (.cells zc 34))).heap.size) ca) (((World.alloc (World.alloc WD (.cells zc 34)) (.cells za 34))).heap.size) cb) ((WD).heap.size) (((World.alloc (World.alloc WD (.cells zc 34)) (.cells za 34))).heap.size) cc (by omega)).trans kbb
          have kcc := setRow_heap (World.setRow (World.setRow (World.alloc (World.alloc (World.alloc WD (.cells zc 34)) (.cells za 34)) (.cells zb 34)) (((World.alloc WD (.cells zc 34))).heap.size) ca) (((World.alloc (World.alloc WD (.cells zc 34)) (.cells za 34))).heap.size) cb) ((WD).heap.size) zc cc _ _ kbc
          refine hK.out _ _ hTc (fun _ => ?_)
          clear hK K
          try simp only [Act.put]
          refine wpAnyH_done (by kernel_rfl) ?_ _
          refine ⟨rfl, (((World.alloc WD (.cells zc 34))).heap.size, ((World.alloc (World.alloc WD (.cells zc 34)) (.cells za 34))).heap.size, (WD).heap.size), ?_, hTc, kca, kcb, kcc⟩
          simp only [List.foldl, lsA, lsB, lsC]
      · rw [if_pos (by rfl)]
        refine wp_alloc_type rfl (fun zb hzb => ?_)
        have hnb := heap_alloc_new (World.alloc WD (.cells zc 34)) (.cells zb 34)
        have hS2 := hS1.alloc hS1.size (.cells zb 34)
        refine hK.out _ _ hS2 (fun _ => ?_)
        clear hK K
        try simp only [Act.put, lsA, lsB, lsC]
        refine wpAnyH_ready (rs := [6]) (by kernel_rfl) (by simp) (arC rfl (fun K hK => ?_) AllReadyH.nil)
        · rw [if_pos (by rfl)]
          refine wp_alloc_type rfl (fun za hza => ?_)
          have hna := heap_alloc_new (World.alloc (World.alloc WD (.cells zc 34)) (.cells zb 34)) (.cells za 34)
          have hS3 := hS2.alloc hS2.size (.cells za 34)
          refine hK.out _ _ hS3 (fun _ => ?_)
          clear hK K
          try simp only [Act.put, lsA, lsB, lsC]
          have e1 : ((World.alloc WD (.cells zc 34))).heap.size = WD.heap.size + 1 := by simp
          have e2 : ((World.alloc (World.alloc WD (.cells zc 34)) (.cells zb 34))).heap.size = WD.heap.size + 2 := by simp
          have hc : ((World.alloc (World.alloc (World.alloc WD (.cells zc 34)) (.cells zb 34)) (.cells za 34))).heap[(WD).heap.size]? = some (.cells zc 34 (0, 0)) := by rw [old_alloc _ (by omega), old_alloc _ (by omega)]; exact hnc
          have hb : ((World.alloc (World.alloc (World.alloc WD (.cells zc 34)) (.cells zb 34)) (.cells za 34))).heap[((World.alloc WD (.cells zc 34))).heap.size]? = some (.cells zb 34 (0, 0)) := by rw [old_alloc _ (by omega)]; exact hnb
          have ha : ((World.alloc (World.alloc (World.alloc WD (.cells zc 34)) (.cells zb 34)) (.cells za 34))).heap[((World.alloc (World.alloc WD (.cells zc 34)) (.cells zb 34))).heap.size]? = some (.cells za 34 (0, 0)) := hna
          have hge := hS.size
          refine wpAnyH_ready (rs := [9]) (by kernel_rfl) (by simp) (arC rfl (fun K hK => ?_) AllReadyH.nil)
          rw [if_pos (by rfl)]
          refine wp_store_row 34 _ _ rfl (((World.alloc (World.alloc WD (.cells zc 34)) (.cells zb 34))).heap.size) ca rfl rfl 34 za ha (by rw [hsa]; exact ysz) (by rw [hsa]; exact hza) hoa ?_
          have hTa := below_setRow hS3 (show W0.heap.size ≤ ((World.alloc (World.alloc WD (.cells zc 34)) (.cells zb 34))).heap.size by omega) ca
          have kaa := setRow_heap (World.alloc (World.alloc (World.alloc WD (.cells zc 34)) (.cells zb 34)) (.cells za 34)) (((World.alloc (World.alloc WD (.cells zc 34)) (.cells zb 34))).heap.size) za ca _ _ ha
          have kab := (setRow_other (World.alloc (World.alloc (World.alloc WD (.cells zc 34)) (.cells zb 34)) (.cells za 34)) (((World.alloc (World.alloc WD (.cells zc 34)) (.cells zb 34))).heap.size) (((World.alloc WD (.cells zc 34))).heap.size) ca (by omega)).trans hb
          have kac := (setRow_other (World.alloc (World.alloc (World.alloc WD (.cells zc 34)) (.cells zb 34)) (.cells za 34)) (((World.alloc (World.alloc WD (.cells zc 34)) (.cells zb 34))).heap.size) ((WD).heap.size) ca (by omega)).trans hc
          refine hK.out _ _ hTa (fun _ => ?_)
          clear hK K
          try simp only [Act.put]
          refine wpAnyH_ready (rs := [10]) (by kernel_rfl) (by simp) (arC rfl (fun K hK => ?_) AllReadyH.nil)
          rw [if_pos (by rfl)]
          refine wp_store_row 34 _ _ rfl (((World.alloc WD (.cells zc 34))).heap.size) cb rfl rfl 34 zb kab (by rw [hsb]; exact ysz) (by rw [hsb]; exact hzb) hob ?_
          have hTb := below_setRow hTa (show W0.heap.size ≤ ((World.alloc WD (.cells zc 34))).heap.size by omega) cb
          have kba := (setRow_other (World.setRow (World.alloc (World.alloc (World.alloc WD (.cells zc 34)) (.cells zb 34)) (.cells za 34)) (((World.alloc (World.alloc WD (.cells zc 34)) (.cells zb 34))).heap.size) ca) (((World.alloc WD (.cells zc 34))).heap.size) (((World.alloc (World.alloc WD (.cells zc 34)) (.cells zb 34))).heap.size) cb (by omega)).trans kaa
          have kbb := setRow_heap (World.setRow (World.alloc (World.alloc (World.alloc WD (.cells zc 34)) (.cells zb 34)) (.cells za 34)) (((World.alloc (World.alloc WD (.cells zc 34)) (.cells zb 34))).heap.size) ca) (((World.alloc WD (.cells zc 34))).heap.size) zb cb _ _ kab
          have kbc := (setRow_other (World.setRow (World.alloc (World.alloc (World.alloc WD (.cells zc 34)) (.cells zb 34)) (.cells za 34)) (((World.alloc (World.alloc WD (.cells zc 34)) (.cells zb 34))).heap.size) ca) (((World.alloc WD (.cells zc 34))).heap.size) ((WD).heap.size) cb (by omega)).trans kac
          refine hK.out _ _ hTb (fun _ => ?_)
          clear hK K
          try simp only [Act.put]
          refine wpAnyH_ready (rs := [11]) (by kernel_rfl) (by simp) (arC rfl (fun K hK => ?_) AllReadyH.nil)
          rw [if_pos (by rfl)]
          refine wp_store_row 34 _ _ rfl ((WD).heap.size) cc rfl rfl 34 zc kbc (by rw [hsc]; exact ysz) (by rw [hsc]; exact hzc) hoc ?_
          have hTc := below_setRow hTb (show W0.heap.size ≤ (WD).heap.size by omega) cc
          have kca := (setRow_other (World.setRow (World.setRow (World.alloc (World.alloc (World.alloc WD (.cells zc 34)) (.cells zb 34)) (.cells za 34)) (((World.alloc (World.alloc WD (.cells zc 34)) (.cells zb 34))).heap.size) ca) (((World.alloc WD (.cells zc 34))).heap.size) cb) ((WD).heap.size) (((World.alloc (World.alloc WD (.cells zc 34)) (.cells zb 34))).heap.size) cc (by omega)).trans kba
          have kcb := (setRow_other (World.setRow (World.setRow (World.alloc (World.alloc (World.alloc WD (.cells zc 34)) (.cells zb 34)) (.cells za 34)) (((World.alloc (World.alloc WD (.cells zc 34)) (.cells zb 34))).heap.size) ca) (((World.alloc WD (.cells zc 34))).heap.size) cb) ((WD).heap.size) (((World.alloc WD (.cells zc 34))).heap.size) cc (by omega)).trans kbb
          have kcc := setRow_heap (World.setRow (World.setRow (World.alloc (World.alloc (World.alloc WD (.cells zc 34)) (.cells zb 34)) (.cells za 34)) (((World.alloc (World.alloc WD (.cells zc 34)) (.cells zb 34))).heap.size) ca) (((World.alloc WD (.cells zc 34))).heap.size) cb) ((WD).heap.size) zc cc _ _ kbc
          refine hK.out _ _ hTc (fun _ => ?_)
          clear hK K
          try simp only [Act.put]
          refine wpAnyH_done (by kernel_rfl) ?_ _
          refine ⟨rfl, (((World.alloc (World.alloc WD (.cells zc 34)) (.cells zb 34))).heap.size, ((World.alloc WD (.cells zc 34))).heap.size, (WD).heap.size), ?_, hTc, kca, kcb, kcc⟩
          simp only [List.foldl, lsA, lsB, lsC]
  · rintro ⟨ba, bb, bc⟩ W ⟨hFb, hFa, hFB, hFc⟩
    have hbW : Below w.heap.size w W := hb0.trans (hFb.mono (by omega))
    have hzW := hFb.size
    have la : ba < W.heap.size := (Array.getElem?_eq_some_iff.1 hFa).1
    have lb : bb < W.heap.size := (Array.getElem?_eq_some_iff.1 hFB).1
    have lc : bc < W.heap.size := (Array.getElem?_eq_some_iff.1 hFc).1
    have hcz : cv.size = 11 := by cases v; simp only [Tm.In] at hv; obtain ⟨_, _, _, _, _, _, rfl, -⟩ := hv; rfl
    have hcvW : W.heap[w.heap.size + 1]? = some (.cells cv 29 (0, 0)) := by rw [hFb.block _ (by omega)]; exact hn1
    have HLt : Hid ((loadVar 29 ⟨w.heap.size + 1, 0, none⟩).run Tryz.prog W = .ok (.agg cv) W) := yldT hcz (fun x hx => by rw [Nat.zero_add, cell_of_row _ _ _ _ _ _ hcvW])
    have lo : ∀ k, Lo w.heap.size k → k < W.heap.size := fun k hk => by have : k < w.heap.size := hk; omega
    have HBu : Hid (Calls Tryz.prog 14 #[.agg cv] W fun e w' => ∃ x, e = .returned x ∧ Below W.heap.size W w' ∧ v.V w' (Fr W w') x) := built_any v.sz v (Nat.le_refl _) cv (Lo w.heap.size) W (v.In_same (fun k hk => hbW.block k hk) (fun _ h => h) cv hv) lo
    simp only [List.foldl, Act.put, lsA, lsB, lsC]
    clear HL0a HL0b HL0c hW0
    go_wp2_with ((with_reducible refine ld_row ?_ ?_ HLt.out ?_); rfl; rfl)
    refine HBu.out.mono ?_
    rintro e w1 ⟨x, rfl, hb1, hx⟩
    have hz1 := hb1.size
    have hbw1 : Below w.heap.size w w1 := hbW.trans (hb1.mono (by omega))
    -- what stays from here on
    have HB : Hid (∀ V, Below w1.heap.size w1 V → (loadVar 34 ⟨ba, 0, none⟩).run Tryz.prog V = .ok (.agg ca) V ∧ (loadVar 34 ⟨bb, 0, none⟩).run Tryz.prog V = .ok (.agg cb) V ∧ (loadVar 34 ⟨bc, 0, none⟩).run Tryz.prog V = .ok (.agg cc) V ∧ (loadVar 29 ⟨w.heap.size + 1, 0, none⟩).run Tryz.prog V = .ok (.agg cv) V) := fun V hV => by
      have e : ∀ k, k < W.heap.size → V.heap[k]? = W.heap[k]? := fun k hk => by rw [hV.block k (by omega), hb1.block k hk]
      exact ⟨yld hsa (by rw [e _ la]; exact hFa), yld hsb (by rw [e _ lb]; exact hFB), yld hsc (by rw [e _ lc]; exact hFc), yldT hcz (fun x hx => by rw [Nat.zero_add, cell_of_row _ _ _ _ _ _ (by rw [e _ (by omega)]; exact hcvW)])⟩
    have up : ∀ V, Below w1.heap.size w1 V → Below w.heap.size w V := fun V hV => hbw1.trans (hV.mono hbw1.size)
    have lo1 : ∀ k, Lo w.heap.size k → Lo w1.heap.size k := fun k hk => by have : k < w.heap.size := hk; show k < _; omega
    have xV : ∀ V, Below w1.heap.size w1 V → v.V V (Lo w1.heap.size) x := fun V hV => v.V_same (fun k hk => hV.block k hk.2) (fun k hk => hk.2) x hx
    have aV : ∀ V, Below w1.heap.size w1 V → a.In V (Lo w1.heap.size) ca := fun V hV => a.In_same (fun k hk => (up V hV).block k hk) lo1 ca ha
    have bV : ∀ V, Below w1.heap.size w1 V → b.In V (Lo w1.heap.size) cb := fun V hV => b.In_same (fun k hk => (up V hV).block k hk) lo1 cb hb
    have cV : ∀ V, Below w1.heap.size w1 V → c.In V (Lo w1.heap.size) cc := fun V hV => c.In_same (fun k hk => (up V hV).block k hk) lo1 cc hc
    have HCk : Hid (∀ V, Below w1.heap.size w1 V → Calls Tryz.prog 21 #[.agg cv] V fun e w' => e = .returned (.tuple #[.int .i64 v.cAt, .int .i64 v.all.e]) ∧ Below V.heap.size V w') := fun V hV => refCheck_any v cv (Lo w1.heap.size) V (v.In_same (fun k hk => (up V hV).block k hk) lo1 cv hv) (Sub.lo hV.size)
    have HIa : Hid (∀ V, Below w1.heap.size w1 V → Calls Tryz.prog 22 #[x, .agg ca] V fun e w' => e = .returned (.tuple #[.bool (Sp.isA v a).1, .int .i64 (Sp.isA v a).2.1, .int .i64 (Sp.isA v a).2.2]) ∧ Below V.heap.size V w') := fun V hV => Is_all v x a ca _ V hV.size (xV V hV) (aV V hV)
    have HIb : Hid (∀ V, Below w1.heap.size w1 V → Calls Tryz.prog 22 #[x, .agg cb] V fun e w' => e = .returned (.tuple #[.bool (Sp.isA v b).1, .int .i64 (Sp.isA v b).2.1, .int .i64 (Sp.isA v b).2.2]) ∧ Below V.heap.size V w') := fun V hV => Is_all v x b cb _ V hV.size (xV V hV) (bV V hV)
    have HIc : Hid (∀ V, Below w1.heap.size w1 V → Calls Tryz.prog 22 #[x, .agg cc] V fun e w' => e = .returned (.tuple #[.bool (Sp.isA v c).1, .int .i64 (Sp.isA v c).2.1, .int .i64 (Sp.isA v c).2.2]) ∧ Below V.heap.size V w') := fun V hV => Is_all v x c cc _ V hV.size (xV V hV) (cV V hV)
    have HIt : Hid (∀ V (t : Ty) ct, Below w1.heap.size w1 V → t.In V (Lo V.heap.size) ct → Calls Tryz.prog 22 #[x, .agg ct] V fun e w' => e = .returned (.tuple #[.bool (Sp.isA v t).1, .int .i64 (Sp.isA v t).2.1, .int .i64 (Sp.isA v t).2.2]) ∧ Below V.heap.size V w') := fun V t ct hV hin => Is_all v x t ct V.heap.size V (Nat.le_refl _) (v.V_same (Same.refl _ _) (fun k hk => Nat.lt_of_lt_of_le hk hV.size) x (xV V hV)) hin
    have HEi : Hid (∀ V, Below w1.heap.size w1 V → Calls Tryz.prog 8 #[.agg ca, .agg cb] V (AnsT (Sp.eiE a b) (a.ei b) V)) := fun V hV => Either_any a b ca cb _ V hV.size (aV V hV) (bV V hV)
    have HSa : Hid (∀ V, Below w1.heap.size w1 V → Calls Tryz.prog 6 #[.agg ca, .agg cb] V fun e w' => e = .returned (.tuple #[.bool (Sp.subA a b).1, .int .i64 (Sp.subA a b).2]) ∧ Below V.heap.size V w') := fun V hV => Sub_any a b ca cb _ V hV.size (aV V hV) (bV V hV)
    have HSb : Hid (∀ V, Below w1.heap.size w1 V → Calls Tryz.prog 6 #[.agg cb, .agg cc] V fun e w' => e = .returned (.tuple #[.bool (Sp.subA b c).1, .int .i64 (Sp.subA b c).2]) ∧ Below V.heap.size V w') := fun V hV => Sub_any b c cb cc _ V hV.size (bV V hV) (cV V hV)
    have HIc2 : Hid (Sp.c2 a b c v = true → ∀ V, Below w1.heap.size w1 V → Calls Tryz.prog 22 #[x, .agg cc] V fun e w' => e = .returned (.tuple #[.bool true, .int .i64 (Sp.isA v c).2.1, .int .i64 0]) ∧ Below V.heap.size V w') := fun hq V hV => by
      have := HIc.out V hV
      rw [(Sp.c2_is hq).1, (Sp.c2_is hq).2] at this
      exact this
    have HT1 : Hid (∀ V, Calls Tryz.prog 15 #[.iface 4 (.bool true)] V (AnsT 0 tt.typ V)) := fun V => TypeOf_ok tt _ 0 V (Nat.zero_le _) (by simp [tt, Tm.V]) (by decide +kernel)
    have HTy : Hid (Calls Tryz.prog 15 #[x] w1 (AnsT v.all.e v.typ w1)) := by
      by_cases he : v.all.e = 0
      · rw [he]; exact TypeOf_ok v x _ w1 (Nat.le_refl _) (xV w1 (Below.refl _ _)) he
      · exact TypeOf_err v x _ w1 (Nat.le_refl _) (xV w1 (Below.refl _ _)) he
    have HW : Hid (Below w.heap.size w w1) := hbw1
    have hxs := v.V_shape x hx
    clear hb1 hx hbw1 up lo1 xV aV bV cV HBu HLt lo hcvW hcz la lb lc hFa hFB hFc hFb hbW hz0 hn0 hn1 hb0 ha hb hc hv hzW
    go_wp2_with fail
    refine HTy.out.mono ?_
    rintro e w2 ⟨cs, rfl, hb2, hcs, hty⟩
    have HST : Hid ((storeVar 34 ⟨w2.heap.size, 0, none⟩ (.agg cs)).run Tryz.prog (w2.alloc (.cells zty 34)) = .ok () (w2.alloc (.cells cs 34))) := yst rfl hcs.1 hcs.2
    have H2 : Hid (Below w1.heap.size w1 (w2.alloc (.cells cs 34)) ∧ (w2.alloc (.cells cs 34)).heap[w2.heap.size]? = some (.cells cs 34 (0, 0)) ∧ cs.size = 18 ∧ (v.all.e = 0 → ∃ t', Ty.In (w2.alloc (.cells cs 34)) (Lo w2.heap.size) t' cs ∧ v.typ.al t')) :=
      ⟨hb2.alloc hb2.size _, heap_alloc_new w2 _, hcs.1, fun he => by obtain ⟨t', h1, h2⟩ := hty he; exact ⟨t', t'.In_same (fun k hk => old_alloc _ hk.2) (fun k hk => hk.2) cs h1, h2⟩⟩
    obtain ⟨w3, hw3⟩ : ∃ w3, w3 = w2.alloc (.cells cs 34) := ⟨_, rfl⟩
    have HBT : Hid (w2.heap.size < w3.heap.size) := by show w2.heap.size < _; rw [hw3]; simp
    rw [← hw3] at H2 HST
    clear hb2 hcs hty HTy hw3 hxs
    go_wp2_with (first
          | ((with_reducible refine st_row ?_ ?_ ?_ HST.out ?_); rfl; rfl; rfl)
          | ((with_reducible refine ld_row ?_ ?_ (HB.out _ H2.out.1).2.2.2 ?_); rfl; rfl))
    refine (HCk.out _ H2.out.1).mono ?_
    rintro e w4 ⟨rfl, hb4⟩
    have H4 : Hid (Below w1.heap.size w1 w4) := H2.out.1.trans (hb4.mono H2.out.1.size)
    have hn4 : w4.heap[w2.heap.size]? = some (.cells cs 34 (0, 0)) := by rw [hb4.block w2.heap.size HBT.out]; exact H2.out.2.1
    have HLs : Hid ((loadVar 34 ⟨w2.heap.size, 0, none⟩).run Tryz.prog w4 = .ok (.agg cs) w4) := yld H2.out.2.2.1 hn4
    have HTI : Hid (v.all.e = 0 → ∃ t', Ty.In w4 (Lo w4.heap.size) t' cs ∧ v.typ.al t') := fun he => by
      obtain ⟨t', h1, h2⟩ := H2.out.2.2.2 he
      have hlt := HBT.out
      exact ⟨t', t'.In_same (fun k hk => hb4.block k (by have : k < w2.heap.size := hk; omega)) (fun k hk => by have : k < w2.heap.size := hk; have := hb4.size; show k < _; omega) cs h1, h2⟩
    clear hb4 hn4 HCk HST H2 HBT
    by_cases he : v.all.e = 0
    · obtain ⟨t', hin, hal⟩ := HTI.out he
      have HI := HIt.out w4 t' cs H4.out hin
      rw [Ty.al_isA hal (Tm.typ_can he)] at HI
      obtain ⟨q1, q2⟩ := Tm.typ_isA he
      rw [q1, q2] at HI
      have HI2 : Hid (Calls Tryz.prog 22 #[x, .agg cs] w4 fun e w' => e = .returned (.tuple #[.bool true, .int .i64 (Sp.isA v v.typ).2.1, .int .i64 0]) ∧ Below w4.heap.size w4 w') := HI
      have HEE : Hid (v.all.e = 0) := he
      rw [he]
      clear HI hin hal q1 q2 HTI he
      generalize (Sp.isA v v.typ).2.1 = at' at HI2
      go_wp2_with ((with_reducible refine ld_row ?_ ?_ HLs.out ?_); rfl; rfl)
      refine HI2.out.mono ?_
      rintro e w4' ⟨rfl, hb4⟩
      have H4' : Hid (Below w1.heap.size w1 w4') := H4.out.trans (hb4.mono H4.out.size)
      clear hb4 HI2 HLs H4
      have hB4 : Below w1.heap.size w1 w4' := H4'.out
      clear H4'
      go_wp2_with (first
            | ((with_reducible refine ld_row ?_ ?_ (HB.out _ (by assumption)).1 ?_); rfl; rfl)
            | ((with_reducible refine ld_row ?_ ?_ (HB.out _ (by assumption)).2.1 ?_); rfl; rfl)
            | ((with_reducible refine ld_row ?_ ?_ (HB.out _ (by assumption)).2.2.1 ?_); rfl; rfl))
      refine (HEi.out _ (by assumption)).mono ?_
      rintro e w5 ⟨cu, rfl, hb5, hcu, hei⟩
      have HSu : Hid ((storeVar 34 ⟨w5.heap.size, 0, none⟩ (.agg cu)).run Tryz.prog (w5.alloc (.cells zty 34)) = .ok () (w5.alloc (.cells cu 34))) := yst rfl hcu.1 hcu.2
      have hb05 : Below w1.heap.size w1 w5 := chain (by assumption) hb5
      have H5 : Hid (Below w1.heap.size w1 (w5.alloc (.cells cu 34)) ∧ (w5.alloc (.cells cu 34)).heap[w5.heap.size]? = some (.cells cu 34 (0, 0)) ∧ cu.size = 18 ∧ (Sp.eiE a b = 0 → ∃ t', Ty.In (w5.alloc (.cells cu 34)) (Lo w5.heap.size) t' cu ∧ (a.ei b).al t')) :=
        ⟨hb05.alloc hb05.size _, heap_alloc_new w5 _, hcu.1, fun he => by obtain ⟨t', h1, h2⟩ := hei he; exact ⟨t', t'.In_same (fun k hk => old_alloc _ hk.2) (fun k hk => hk.2) cu h1, h2⟩⟩
      obtain ⟨w6, hw6⟩ : ∃ w6, w6 = w5.alloc (.cells cu 34) := ⟨_, rfl⟩
      have HZ6 : Hid (w6.heap.size = w5.heap.size + 1) := by show _ = _; rw [hw6]; simp
      rw [← hw6] at H5 HSu
      have hB6 : Below w1.heap.size w1 w6 := H5.out.1
      clear hb5 hcu hei hb05 HEi hw6
      go_wp2_with (first
            | ((with_reducible refine st_row ?_ ?_ ?_ HSu.out ?_); rfl; rfl; rfl)
            | ((with_reducible refine ld_row ?_ ?_ (HB.out _ (by assumption)).1 ?_); rfl; rfl)
            | ((with_reducible refine ld_row ?_ ?_ (HB.out _ (by assumption)).2.1 ?_); rfl; rfl)
            | ((with_reducible refine ld_row ?_ ?_ (HB.out _ (by assumption)).2.2.1 ?_); rfl; rfl))
      refine (HIa.out _ hB6).mono ?_
      rintro e w7 ⟨rfl, hb7⟩
      have hB7 : Below w1.heap.size w1 w7 := chain hB6 hb7
      clear HSu HIa
      go_wp2_with (first
            | ((with_reducible refine ld_row ?_ ?_ (HB.out _ (by assumption)).1 ?_); rfl; rfl)
            | ((with_reducible refine ld_row ?_ ?_ (HB.out _ (by assumption)).2.1 ?_); rfl; rfl)
            | ((with_reducible refine ld_row ?_ ?_ (HB.out _ (by assumption)).2.2.1 ?_); rfl; rfl))
      refine (HIb.out _ hB7).mono ?_
      rintro e w8 ⟨rfl, hb8⟩
      have hB8 : Below w1.heap.size w1 w8 := chain hB7 hb8
      have hb68 : Below w6.heap.size w6 w8 := chain hb7 hb8
      have hn8 : w8.heap[w5.heap.size]? = some (.cells cu 34 (0, 0)) := by rw [hb68.block _ (by have := HZ6.out; omega)]; exact H5.out.2.1
      have HLu : Hid ((loadVar 34 ⟨w5.heap.size, 0, none⟩).run Tryz.prog w8 = .ok (.agg cu) w8) := yld H5.out.2.2.1 hn8
      have HIu : Hid (Sp.c1 a b v = true → Calls Tryz.prog 22 #[x, .agg cu] w8 fun e w' => e = .returned (.tuple #[.bool true, .int .i64 (Sp.isA v (a.ei b)).2.1, .int .i64 0]) ∧ Below w8.heap.size w8 w') := fun hc => by
        obtain ⟨hg, hcan, k1, k2⟩ := Sp.c1_is hc
        have hf : Sp.eiE a b = 0 := by simp only [Sp.c1, Bool.and_eq_true, decide_eq_true_eq] at hc; exact hc.1.1
        obtain ⟨t', hin, hal⟩ := H5.out.2.2.2 hf
        have HI := HIt.out w8 t' cu hB8 (t'.In_same (fun k hk => hb68.block k (by have : k < w5.heap.size := hk; have := HZ6.out; omega)) (fun k hk => by have : k < w5.heap.size := hk; have := HZ6.out; have := hb68.size; show k < _; omega) cu hin)
        rw [Ty.al_isA hal hcan, k1, k2] at HI
        exact HI
      clear hb7 hb8 hb68 hn8 HIb HIt H5 HZ6 hB6 hB7
      go_wp2_with (first
            | ((with_reducible refine ld_row ?_ ?_ HLu.out ?_); rfl; rfl)
            | ((with_reducible refine ld_row ?_ ?_ (HB.out _ (by assumption)).1 ?_); rfl; rfl)
            | ((with_reducible refine ld_row ?_ ?_ (HB.out _ (by assumption)).2.1 ?_); rfl; rfl)
            | ((with_reducible refine ld_row ?_ ?_ (HB.out _ (by assumption)).2.2.1 ?_); rfl; rfl))
      all_goals first
        | (refine (HIu.out (by simp [Sp.c1, *])).mono ?_
           rintro e w9 ⟨rfl, hb9⟩
           have hB9 : Below w1.heap.size w1 w9 := chain hB8 hb9
           clear hb9 hB8
           go_wp2_with (first
            | ((with_reducible refine ld_row ?_ ?_ (HB.out _ (by assumption)).1 ?_); rfl; rfl)
            | ((with_reducible refine ld_row ?_ ?_ (HB.out _ (by assumption)).2.1 ?_); rfl; rfl)
            | ((with_reducible refine ld_row ?_ ?_ (HB.out _ (by assumption)).2.2.1 ?_); rfl; rfl))
           refine (HSa.out _ hB9).mono ?_
           rintro e w10 ⟨rfl, hb10⟩
           have hB10 : Below w1.heap.size w1 w10 := chain hB9 hb10
           clear hb10 hB9)
        | (refine (HSa.out _ hB8).mono ?_
           rintro e w10 ⟨rfl, hb10⟩
           have hB10 : Below w1.heap.size w1 w10 := chain hB8 hb10
           clear hb10 hB8)
      all_goals
        go_wp2_with (first
            | ((with_reducible refine ld_row ?_ ?_ (HB.out _ (by assumption)).1 ?_); rfl; rfl)
            | ((with_reducible refine ld_row ?_ ?_ (HB.out _ (by assumption)).2.1 ?_); rfl; rfl)
            | ((with_reducible refine ld_row ?_ ?_ (HB.out _ (by assumption)).2.2.1 ?_); rfl; rfl))
        refine (HSb.out _ hB10).mono ?_
        rintro e w11 ⟨rfl, hb11⟩
        have hB11 : Below w1.heap.size w1 w11 := chain hB10 hb11
        clear hb11 hB10
        go_wp2_with (first
            | ((with_reducible refine ld_row ?_ ?_ (HB.out _ (by assumption)).1 ?_); rfl; rfl)
            | ((with_reducible refine ld_row ?_ ?_ (HB.out _ (by assumption)).2.1 ?_); rfl; rfl)
            | ((with_reducible refine ld_row ?_ ?_ (HB.out _ (by assumption)).2.2.1 ?_); rfl; rfl))
      all_goals first
        | (refine (HIc2.out (by simp [Sp.c2, *]) _ hB11).mono ?_
           rintro e w12 ⟨rfl, hb12⟩
           have HFi : Hid (Below w.heap.size w w12) := HW.out.trans ((chain hB11 hb12).mono HW.out.size)
           clear hb12 hB11
           go_wp2_with fail
           go_ret
           exact ⟨rfl, HFi.out⟩)
        | (refine (HT1.out _).mono ?_
           rintro e w12 ⟨cq, rfl, hb12, hcq, hty⟩
           obtain ⟨t', hin, hal⟩ := hty rfl
           obtain ⟨d0, d1⟩ := tt_of hin hal
           have HSq : Hid ((storeVar 34 ⟨w12.heap.size, 0, none⟩ (.agg cq)).run Tryz.prog (w12.alloc (.cells zty 34)) = .ok () (w12.alloc (.cells cq 34))) := yst rfl hcq.1 hcq.2
           have r0 : (w12.alloc (.cells cq 34)).cell? ⟨w12.heap.size, 0, none⟩ = some (.int .i64 3) := by rw [cell_of_row _ _ _ _ _ _ (heap_alloc_new w12 _)]; exact d0
           have r1 : (w12.alloc (.cells cq 34)).cell? ⟨w12.heap.size, 1, none⟩ = some (.int .i64 2) := by rw [cell_of_row _ _ _ _ _ _ (heap_alloc_new w12 _)]; exact d1
           have HFi : Hid (Below w.heap.size w (w12.alloc (.cells cq 34))) := by
             have h1 : Below w.heap.size w w12 := HW.out.trans ((chain hB11 hb12).mono HW.out.size)
             exact h1.alloc h1.size _
           obtain ⟨w13, hw13⟩ : ∃ w13, w13 = w12.alloc (.cells cq 34) := ⟨_, rfl⟩
           rw [← hw13] at HSq r0 r1 HFi
           clear hb12 hB11 hcq hty hin hal d0 d1 hw13
           go_wp2_with ((with_reducible refine st_row ?_ ?_ ?_ HSq.out ?_); rfl; rfl; rfl)
           go_ret
           exact ⟨rfl, HFi.out⟩)
    · have he' : (v.all.e == 0) = false := by simp [he]
      have he2 : ¬ v.all.e = 0 := he
      have hB4 : Below w1.heap.size w1 w4 := H4.out
      clear HTI H4 HLs he
      go_wp2_with (first
            | ((with_reducible refine ld_row ?_ ?_ (HB.out _ (by assumption)).1 ?_); rfl; rfl)
            | ((with_reducible refine ld_row ?_ ?_ (HB.out _ (by assumption)).2.1 ?_); rfl; rfl)
            | ((with_reducible refine ld_row ?_ ?_ (HB.out _ (by assumption)).2.2.1 ?_); rfl; rfl))
      refine (HEi.out _ (by assumption)).mono ?_
      rintro e w5 ⟨cu, rfl, hb5, hcu, hei⟩
      have HSu : Hid ((storeVar 34 ⟨w5.heap.size, 0, none⟩ (.agg cu)).run Tryz.prog (w5.alloc (.cells zty 34)) = .ok () (w5.alloc (.cells cu 34))) := yst rfl hcu.1 hcu.2
      have hb05 : Below w1.heap.size w1 w5 := chain (by assumption) hb5
      have H5 : Hid (Below w1.heap.size w1 (w5.alloc (.cells cu 34)) ∧ (w5.alloc (.cells cu 34)).heap[w5.heap.size]? = some (.cells cu 34 (0, 0)) ∧ cu.size = 18 ∧ (Sp.eiE a b = 0 → ∃ t', Ty.In (w5.alloc (.cells cu 34)) (Lo w5.heap.size) t' cu ∧ (a.ei b).al t')) :=
        ⟨hb05.alloc hb05.size _, heap_alloc_new w5 _, hcu.1, fun he => by obtain ⟨t', h1, h2⟩ := hei he; exact ⟨t', t'.In_same (fun k hk => old_alloc _ hk.2) (fun k hk => hk.2) cu h1, h2⟩⟩
      obtain ⟨w6, hw6⟩ : ∃ w6, w6 = w5.alloc (.cells cu 34) := ⟨_, rfl⟩
      have HZ6 : Hid (w6.heap.size = w5.heap.size + 1) := by show _ = _; rw [hw6]; simp
      rw [← hw6] at H5 HSu
      have hB6 : Below w1.heap.size w1 w6 := H5.out.1
      clear hb5 hcu hei hb05 HEi hw6
      go_wp2_with (first
            | ((with_reducible refine st_row ?_ ?_ ?_ HSu.out ?_); rfl; rfl; rfl)
            | ((with_reducible refine ld_row ?_ ?_ (HB.out _ (by assumption)).1 ?_); rfl; rfl)
            | ((with_reducible refine ld_row ?_ ?_ (HB.out _ (by assumption)).2.1 ?_); rfl; rfl)
            | ((with_reducible refine ld_row ?_ ?_ (HB.out _ (by assumption)).2.2.1 ?_); rfl; rfl))
      refine (HIa.out _ hB6).mono ?_
      rintro e w7 ⟨rfl, hb7⟩
      have hB7 : Below w1.heap.size w1 w7 := chain hB6 hb7
      clear HSu HIa
      go_wp2_with (first
            | ((with_reducible refine ld_row ?_ ?_ (HB.out _ (by assumption)).1 ?_); rfl; rfl)
            | ((with_reducible refine ld_row ?_ ?_ (HB.out _ (by assumption)).2.1 ?_); rfl; rfl)
            | ((with_reducible refine ld_row ?_ ?_ (HB.out _ (by assumption)).2.2.1 ?_); rfl; rfl))
      refine (HIb.out _ hB7).mono ?_
      rintro e w8 ⟨rfl, hb8⟩
      have hB8 : Below w1.heap.size w1 w8 := chain hB7 hb8
      have hb68 : Below w6.heap.size w6 w8 := chain hb7 hb8
      have hn8 : w8.heap[w5.heap.size]? = some (.cells cu 34 (0, 0)) := by rw [hb68.block _ (by have := HZ6.out; omega)]; exact H5.out.2.1
      have HLu : Hid ((loadVar 34 ⟨w5.heap.size, 0, none⟩).run Tryz.prog w8 = .ok (.agg cu) w8) := yld H5.out.2.2.1 hn8
      have HIu : Hid (Sp.c1 a b v = true → Calls Tryz.prog 22 #[x, .agg cu] w8 fun e w' => e = .returned (.tuple #[.bool true, .int .i64 (Sp.isA v (a.ei b)).2.1, .int .i64 0]) ∧ Below w8.heap.size w8 w') := fun hc => by
        obtain ⟨hg, hcan, k1, k2⟩ := Sp.c1_is hc
        have hf : Sp.eiE a b = 0 := by simp only [Sp.c1, Bool.and_eq_true, decide_eq_true_eq] at hc; exact hc.1.1
        obtain ⟨t', hin, hal⟩ := H5.out.2.2.2 hf
        have HI := HIt.out w8 t' cu hB8 (t'.In_same (fun k hk => hb68.block k (by have : k < w5.heap.size := hk; have := HZ6.out; omega)) (fun k hk => by have : k < w5.heap.size := hk; have := HZ6.out; have := hb68.size; show k < _; omega) cu hin)
        rw [Ty.al_isA hal hcan, k1, k2] at HI
        exact HI
      clear hb7 hb8 hb68 hn8 HIb HIt H5 HZ6 hB6 hB7
      go_wp2_with (first
            | ((with_reducible refine ld_row ?_ ?_ HLu.out ?_); rfl; rfl)
            | ((with_reducible refine ld_row ?_ ?_ (HB.out _ (by assumption)).1 ?_); rfl; rfl)
            | ((with_reducible refine ld_row ?_ ?_ (HB.out _ (by assumption)).2.1 ?_); rfl; rfl)
            | ((with_reducible refine ld_row ?_ ?_ (HB.out _ (by assumption)).2.2.1 ?_); rfl; rfl))
      all_goals first
        | (refine (HIu.out (by simp [Sp.c1, *])).mono ?_
           rintro e w9 ⟨rfl, hb9⟩
           have hB9 : Below w1.heap.size w1 w9 := chain hB8 hb9
           clear hb9 hB8
           go_wp2_with (first
            | ((with_reducible refine ld_row ?_ ?_ (HB.out _ (by assumption)).1 ?_); rfl; rfl)
            | ((with_reducible refine ld_row ?_ ?_ (HB.out _ (by assumption)).2.1 ?_); rfl; rfl)
            | ((with_reducible refine ld_row ?_ ?_ (HB.out _ (by assumption)).2.2.1 ?_); rfl; rfl))
           refine (HSa.out _ hB9).mono ?_
           rintro e w10 ⟨rfl, hb10⟩
           have hB10 : Below w1.heap.size w1 w10 := chain hB9 hb10
           clear hb10 hB9)
        | (refine (HSa.out _ hB8).mono ?_
           rintro e w10 ⟨rfl, hb10⟩
           have hB10 : Below w1.heap.size w1 w10 := chain hB8 hb10
           clear hb10 hB8)
      all_goals
        go_wp2_with (first
            | ((with_reducible refine ld_row ?_ ?_ (HB.out _ (by assumption)).1 ?_); rfl; rfl)
            | ((with_reducible refine ld_row ?_ ?_ (HB.out _ (by assumption)).2.1 ?_); rfl; rfl)
            | ((with_reducible refine ld_row ?_ ?_ (HB.out _ (by assumption)).2.2.1 ?_); rfl; rfl))
        refine (HSb.out _ hB10).mono ?_
        rintro e w11 ⟨rfl, hb11⟩
        have hB11 : Below w1.heap.size w1 w11 := chain hB10 hb11
        clear hb11 hB10
        go_wp2_with (first
            | ((with_reducible refine ld_row ?_ ?_ (HB.out _ (by assumption)).1 ?_); rfl; rfl)
            | ((with_reducible refine ld_row ?_ ?_ (HB.out _ (by assumption)).2.1 ?_); rfl; rfl)
            | ((with_reducible refine ld_row ?_ ?_ (HB.out _ (by assumption)).2.2.1 ?_); rfl; rfl))
      all_goals first
        | (refine (HIc2.out (by simp [Sp.c2, *]) _ hB11).mono ?_
           rintro e w12 ⟨rfl, hb12⟩
           have HFi : Hid (Below w.heap.size w w12) := HW.out.trans ((chain hB11 hb12).mono HW.out.size)
           clear hb12 hB11
           go_wp2_with fail
           go_ret
           exact ⟨rfl, HFi.out⟩)
        | (refine (HT1.out _).mono ?_
           rintro e w12 ⟨cq, rfl, hb12, hcq, hty⟩
           obtain ⟨t', hin, hal⟩ := hty rfl
           obtain ⟨d0, d1⟩ := tt_of hin hal
           have HSq : Hid ((storeVar 34 ⟨w12.heap.size, 0, none⟩ (.agg cq)).run Tryz.prog (w12.alloc (.cells zty 34)) = .ok () (w12.alloc (.cells cq 34))) := yst rfl hcq.1 hcq.2
           have r0 : (w12.alloc (.cells cq 34)).cell? ⟨w12.heap.size, 0, none⟩ = some (.int .i64 3) := by rw [cell_of_row _ _ _ _ _ _ (heap_alloc_new w12 _)]; exact d0
           have r1 : (w12.alloc (.cells cq 34)).cell? ⟨w12.heap.size, 1, none⟩ = some (.int .i64 2) := by rw [cell_of_row _ _ _ _ _ _ (heap_alloc_new w12 _)]; exact d1
           have HFi : Hid (Below w.heap.size w (w12.alloc (.cells cq 34))) := by
             have h1 : Below w.heap.size w w12 := HW.out.trans ((chain hB11 hb12).mono HW.out.size)
             exact h1.alloc h1.size _
           obtain ⟨w13, hw13⟩ : ∃ w13, w13 = w12.alloc (.cells cq 34) := ⟨_, rfl⟩
           rw [← hw13] at HSq r0 r1 HFi
           clear hb12 hB11 hcq hty hin hal d0 d1 hw13
           go_wp2_with ((with_reducible refine st_row ?_ ?_ ?_ HSq.out ?_); rfl; rfl; rfl)
           go_ret
           exact ⟨rfl, HFi.out⟩)
end Go.Proofs.YtjdjpbdfchhcfaaGreat

