/- tenonref14.(*Graph).visit, by fuel: a visit of the document's is the plain walk's. -/
import Derived.Test.YtghfikeakfiopaaK18
import Derived.Deep.RegionWith
import Derived.Deep.RegionHeld3
namespace Go.Proofs.Ytghfikeakfiopaa
open Go.RowKit Go.ChangeMaps

theorem VIx.drewN {w0 W : World} {vb inb n : Nat} {eE eL : Value} {P : Int} {K : Nat} {gs : Option Nat} {c : Nat} {st : Wst VS} {ov : Bool} {er : Int} (h : VIx w0 vb inb n eE eL P K gs c st ov er W) (q : Nat) : VIx w0 vb inb n eE eL P K gs c st ov er (W.drewN q) := ⟨h.vis, h.cal.keep (fun _ _ => rfl), h.cne, h.ent.keep rfl, h.old, ⟨h.fr.os, h.fr.tape, h.fr.output, h.fr.size, h.fr.block⟩, h.bd, h.es⟩
theorem VIx.up {w0 W : World} {vb inb n : Nat} {eE eL : Value} {P : Int} {K K' : Nat} {gs : Option Nat} {c : Nat} {st : Wst VS} {ov : Bool} {er : Int} (h : VIx w0 vb inb n eE eL P K gs c st ov er W) (hk : K ≤ K') : VIx w0 vb inb n eE eL P K' gs c st ov er W := ⟨h.vis, h.cal, h.cne, h.ent, h.old, h.fr, Nat.le_trans h.bd hk, h.es⟩
theorem VIr.of {w0 W : World} {vb inb n : Nat} {eE eL : Value} {P : Int} {K : Nat} {gs : Option Nat} {c : Nat} {st : Wst VS} {ov : Bool} {er : Int} {r : Option Bool × Wst VS} (h : VIx w0 vb inb n eE eL P K gs c st ov er W) (h1 : r.2 = st) (h2 : (!decide (r.1 = some true)) = ov) (h3 : (if r.1 = none then 9 else 0) = er) : VIr w0 vb inb n eE eL P K r W := by
  subst h1 h2 h3
  exact ⟨gs, c, h⟩
theorem VIr.drew {w0 W : World} {vb inb n : Nat} {eE eL : Value} {P : Int} {K : Nat} {r : Option Bool × Wst VS} (h : VIr w0 vb inb n eE eL P K r W) : VIr w0 vb inb n eE eL P K r W.drew := by
  obtain ⟨gs, c, h⟩ := h
  exact ⟨gs, c, h.drew⟩
section
variable {w0 : World} {vb gb inb : Nat} {N : List Int} {gn : Option Nat} {cn : Nat} {nx : Nat → List Nat} {lo xb : Nat} {bl : Nat → Option Nat} {cp : Nat → Nat} {aE : Option Addr} {En : List Bool} {cE : Nat} {aL : Option Addr} {Le : List Bool} {cL : Nat} {P : Int}
def VisC (w0 : World) (vb gb inb : Nat) (N : List Int) (nx : Nat → List Nat) (aE : Option Addr) (En : List Bool) (cE : Nat) (aL : Option Addr) (Le : List Bool) (cL : Nat) (P : Int) (f : Nat) : Prop :=
  ∀ K j st W gs c, VIx w0 vb inb N.length (.slice aE En.length cE) (.slice aL Le.length cL) P K gs c st false 0 W → K ≤ 8192 → j < N.length → Sp.cf st.1 ≤ f → Calls Try.prog 18 #[.pointer (some ⟨gb, 0, none⟩), .int .i64 (j : Nat), .pointer (some ⟨vb, 0, none⟩)] W fun e W' => e = .returned (.tuple #[]) ∧ VIr w0 vb inb N.length (.slice aE En.length cE) (.slice aL Le.length cL) P K (wVis (wOne (Sp.vis N En Le P) nx f) j st) W'
def VLi (w0 : World) (vb inb n : Nat) (eE eL : Value) (P : Int) (K f : Nat) (on : Bool) (all : List Nat → Wst VS → Option Bool × Wst VS) (l : List Nat) (Q : Option Bool × Wst VS) (i : Nat) (wr : World) : Prop :=
  ∃ s1 ov er gs c, VIx w0 vb inb n eE eL P K gs c s1 ov er wr ∧ Sp.cf s1.1 ≤ f ∧ ((ov = false ∧ er = 0 ∧ (if on = true then all (l.drop i) s1 else (some true, s1)) = Q) ∨ (ov = true ∧ Q.2 = s1 ∧ ¬ Q.1 = some true ∧ er = if Q.1 = none then 9 else 0))
set_option maxRecDepth 100000 in
set_option maxHeartbeats 4000000 in
theorem visit_in (f K j : Nat) (st : Wst VS) (W : World) (gs : Option Nat) (c : Nat) (h : VIx w0 vb inb N.length (.slice aE En.length cE) (.slice aL Le.length cL) P K gs c st false 0 W) (hj : j < N.length) (ht : st.1.getD j false = true) :
    Calls Try.prog 18 #[.pointer (some ⟨gb, 0, none⟩), .int .i64 (j : Nat), .pointer (some ⟨vb, 0, none⟩)] W fun e W' => e = .returned (.tuple #[]) ∧ VIr w0 vb inb N.length (.slice aE En.length cE) (.slice aL Le.length cL) P K (wVis (wOne (Sp.vis N En Le P) nx f) j st) W' := by
  obtain ⟨_, _, k4, _⟩ := h.cells
  have ke := (h.entc hj).1
  rw [ht] at ke
  have hz : (j : Int) < (N.length : Int) := by omega
  have HR : Hid (VIr w0 vb inb N.length (.slice aE En.length cE) (.slice aL Le.length cL) P K (wVis (wOne (Sp.vis N En Le P) nx f) j st) W) := by
    show VIr _ _ _ _ _ _ _ _ _ _
    unfold wVis
    rw [if_pos ht]
    exact VIr.of h rfl (by simp) (by simp)
  clear h
  go_enter Try.func18, Try.ntmps18
  go_wp2_with fail
  ((try simp only [Exit.inBlock, Exit.then]); refine bodyPost_ret (results_none rfl _ _ _) rfl ?_)
  exact ⟨rfl, HR.out⟩

set_option maxRecDepth 100000 in
set_option maxHeartbeats 16000000 in
theorem visit_of (hS : VSt w0 vb gb N gn cn nx lo xb bl cp aE En aL Le) (f : Nat) (ih : VisC w0 vb gb inb N nx aE En cE aL Le cL P f) : VisC w0 vb gb inb N nx aE En cE aL Le cL P (f + 1) := by
  intro K j st W gs c h hK hj hcf
  by_cases ht : st.1.getD j false = true
  · exact visit_in (f + 1) K j st W gs c h hj ht
  have hst : st.1[j]? = some false := by
    have hl := h.len
    rw [List.getD_eq_getElem?_getD, List.getElem?_eq_getElem (show j < st.1.length by omega)] at ht
    rw [List.getElem?_eq_getElem (show j < st.1.length by omega)]
    simpa using ht
  have HS : Hid (VSt w0 vb gb N gn cn nx lo xb bl cp aE En aL Le) := hS
  have HIH : Hid (VisC w0 vb gb inb N nx aE En cE aL Le cL P f) := ih
  have hz : (j : Int) < (N.length : Int) := by omega
  have hzn : j < N.length := hj
  have ke := (h.entc hj).1
  have kf := (h.entc hj).2
  have k4 := h.cells.2.2.1
  rw [show st.1.getD j false = false by simpa using ht] at ke
  have hcf1 : Sp.cf (st.1.set j true) ≤ f := by have := cf_set hst; omega
  obtain ⟨hK2, h1⟩ := h.mark hst
  obtain ⟨W1, hW1⟩ : ∃ W1, W.setCell ⟨inb, j, none⟩ (.bool true) = W1 := ⟨_, rfl⟩
  rw [hW1] at h1
  obtain ⟨E, cs, en, le⟩ := st
  simp only at h1 hcf1 hst hcf
  have E0 : Hid (wVis (wOne (Sp.vis N En Le P) nx (f + 1)) j (E, ⟨cs, en, le⟩) = wOne (Sp.vis N En Le P) nx (f + 1) j (E, ⟨cs, en, le⟩)) := by
    show _ = _
    unfold wVis
    rw [if_neg ht]
  rw [E0.out]
  have hcl : cs.length ≤ 8192 := by have := h.bd; simp only at this; omega
  have hes : en ≤ cs.length ∧ le ≤ cs.length := h.es
  clear ht hst hcf h E0 ih hj
  -- the node itself
  obtain ⟨x, hx⟩ : ∃ x, N[j]? = some x := ⟨_, List.getElem?_eq_getElem hzn⟩
  obtain ⟨gN, rfl⟩ : ∃ g, gn = some g := by
    cases gn with
    | some g => exact ⟨g, rfl⟩
    | none => have := hS.nds.2.1 rfl; subst this; simp at hzn
  have hgN := (hS.nds.2.2 gN rfl).lt
  have HX : Hid (∀ X gs' c' s ov er K', VIx w0 vb inb N.length (.slice aE En.length cE) (.slice aL Le.length cL) P K' gs' c' s ov er X → X.cell? ⟨gb, 0, none⟩ = some (.slice (some ⟨gN, 0, none⟩) N.length cn) ∧ X.cell? ⟨gN, j, none⟩ = some (.int .u64 x) ∧ X.cell? ⟨gb, 2, none⟩ = some (.slice (some ⟨xb, 0, none⟩) N.length N.length) ∧ X.cell? ⟨xb, j, none⟩ = some (.slice (adr (bl j)) (nx j).length (cp j))) := by
    intro X gs' c' s ov er K' hX
    refine ⟨by rw [hX.stc hS.gl.1 hS.ne.1]; exact hS.nds.1, ?_, by rw [hX.stc hS.gl.1 hS.ne.1]; exact hS.to, ?_⟩
    · rw [hX.stc hgN (hS.ne.2.1 gN rfl)]; exact (hS.nds.2.2 gN rfl).cell (by simp [rv, hx])
    · rw [hX.stc hS.nxt.lt.1 hS.ne.2.2.1]; have := (hS.nxt.cell hzn).1; rwa [List.length_map] at this
  have hxd : N.getD j 0 = x := by rw [List.getD_eq_getElem?_getD, hx]; rfl
  obtain ⟨g0, g1, g2, g3⟩ := HX.out W1 _ _ _ _ _ _ h1
  have hC := call_any vb (.slice aE En.length cE) (.slice aL Le.length cL) P gs c cs (.slice (some ⟨inb, 0, none⟩) N.length N.length) (.int .i64 en) (.int .i64 le) false 0 x false W1 h1.vis h1.cal h1.ne.2 (by omega)
  have H1 : Hid (VIx w0 vb inb N.length (.slice aE En.length cE) (.slice aL Le.length cL) P (K - 2) gs c (E.set j true, ⟨cs, en, le⟩) false 0 W1) := h1
  have HKK : Hid (2 ≤ K ∧ K ≤ 8192) := ⟨hK2, hK⟩
  have HV0 : Hid ((Sp.vis N En Le P).enter ⟨cs, en, le⟩ j = if ((cs.length + 1 : Nat) : Int) = P then (none, ⟨cs ++ [(x, false)], en, le⟩) else (some (En.getD en true), ⟨cs ++ [(x, false)], en + 1, le⟩)) := by
    show _ = _
    simp only [Sp.vis]
    rw [Go.wrap_small _ (by omega) (by omega), opt_small _ (by omega), hxd]
  have HXD : Hid (N.getD j 0 = x) := hxd
  have hS2 := hS
  have HS2 : Hid (VSt w0 vb gb N (some gN) cn nx lo xb bl cp aE En aL Le) := hS2
  clear h1 hx hxd hK hK2 hS hS2
  obtain ⟨RES, hRES⟩ : ∃ RES, wOne (Sp.vis N En Le P) nx (f + 1) j (E, ⟨cs, en, le⟩) = RES := ⟨_, rfl⟩
  rw [hRES]
  have HRES : Hid (wOne (Sp.vis N En Le P) nx (f + 1) j (E, ⟨cs, en, le⟩) = RES) := hRES
  clear hRES
  go_enter Try.func18, Try.ntmps18
  go_wp2_with fail
  refine hC.mono ?_
  rintro e w2 hce
  obtain ⟨he, g', c', h2⟩ := H1.out.call hce
  clear hce hC ke kf k4 g0 g1 g2 g3 H1 hW1
  simp only at h2 he
  subst he
  by_cases hP : ((cs.length + 1 : Nat) : Int) = P
  · have HR : Hid (VIr w0 vb inb N.length (.slice aE En.length cE) (.slice aL Le.length cL) P K RES w2) := by
      show VIr _ _ _ _ _ _ _ _ _ _
      rw [← HRES.out]
      rw [if_pos hP, decide_eq_true hP] at h2
      have hv := HV0.out
      rw [if_pos hP] at hv
      rw [wOne]
      simp only [hv]
      exact VIr.of (h2.up (by have := HKK.out; omega)) rfl (by simp) (by simp)
    have hd : decide (((cs.length + 1 : Nat) : Int) = P) = true := decide_eq_true hP
    rw [hd]
    clear h2 hP
    go_wp2_with fail
    ((try simp only [Exit.inBlock, Exit.then]); refine bodyPost_ret (results_none rfl _ _ _) rfl ?_)
    exact ⟨rfl, HR.out⟩
  rw [if_neg hP, decide_eq_false hP] at h2
  have HV : Hid ((Sp.vis N En Le P).enter ⟨cs, en, le⟩ j = (some (En.getD en true), ⟨cs ++ [(x, false)], en + 1, le⟩)) := by
    show _ = _
    rw [HV0.out, if_neg hP]
  rw [decide_eq_false hP]
  have hK1 : K - 2 + 1 = K - 1 := by have := HKK.out; omega
  rw [hK1] at h2
  obtain ⟨k0, k1, k4, k5, k6, k7, kf⟩ := h2.cells
  have HEn : Hid (∀ t b, En[t]? = some b → ∃ g o, aE = some ⟨g, o, none⟩ ∧ w2.cell? ⟨g, o + t, none⟩ = some (.bool b)) := by
    intro t b hb
    obtain ⟨g, o, ea, hg, hgv, hcell⟩ := HS.out.ent t b hb
    exact ⟨g, o, ea, by rw [h2.stc hg hgv]; exact hcell⟩
  have H2 : Hid (VIx w0 vb inb N.length (.slice aE En.length cE) (.slice aL Le.length cL) P (K - 1) g' c' (E.set j true, ⟨cs ++ [(x, false)], en, le⟩) false 0 w2) := h2
  clear h2 k1 k4 k6 k7 hP HV0 hK1
  have hll := HS.out.nl.2 j hzn
  by_cases hlE : en < En.length
  · obtain ⟨on, hEn⟩ : ∃ on, En[en]? = some on := ⟨_, List.getElem?_eq_getElem hlE⟩
    cases on with
    | true =>
      obtain ⟨gE, oE, rfl, kE⟩ := HEn.out en _ hEn
      have hzE : (en : Int) < (En.length : Int) := by have := (List.getElem?_eq_some_iff.1 hEn).1; omega
      have hon : En.getD en true = true := by rw [List.getD_eq_getElem?_getD, hEn]; rfl
      obtain ⟨Q, hQ⟩ : ∃ Q, wAll (wOne (Sp.vis N En Le P) nx f) (nx j) (E.set j true, ⟨cs ++ [(x, false)], en + 1, le⟩) = Q := ⟨_, rfl⟩
      have HQ : Hid (RES = if Q.1 = some true then wLeave (Sp.vis N En Le P) j Q.2 else Q) := by
        show _ = _
        rw [← HRES.out, wOne]
        simp only [HV.out, hon]
        rw [hQ]
        simp
      clear hon HV HEn HRES hEn
      go_wp2_with fail
      go_quiet (fail)
      obtain ⟨W3, hW3⟩ : ∃ W3, (w2.drewN nq).setCell ⟨vb, 5, none⟩ (.int .i64 ((en : Int) + 1)) = W3 := ⟨_, rfl⟩
      have H3 : Hid (VIx w0 vb inb N.length (.slice (some ⟨gE, oE, none⟩) En.length cE) (.slice aL Le.length cL) P (K - 1) g' c' (E.set j true, ⟨cs ++ [(x, false)], en + 1, le⟩) false 0 W3) := by
        show VIx _ _ _ _ _ _ _ _ _ _ _ _ _ _
        rw [← hW3]
        have := (H2.out.drewN nq).en (by simp; omega)
        simpa using this
      obtain ⟨q0, q1, q2, q3⟩ := HX.out W3 _ _ _ _ _ _ H3.out
      clear H2
      go_wp2_with fail
      go_loopw [8] (fun v8 wr => ∃ i : Nat, v8 = .int .i64 i ∧ i ≤ (nx j).length ∧ Hid (VLi w0 vb inb N.length (.slice (some ⟨gE, oE, none⟩) En.length cE) (.slice aL Le.length cL) P (K - 1) f true (wAll (wOne (Sp.vis N En Le P) nx f)) (nx j) Q i wr)) (fun v8 _ => (nx j).length - (intOf v8).toNat)
      case atStart => exact ⟨0, rfl, Nat.zero_le _, _, false, 0, _, _, H3.out, hcf1, .inl ⟨rfl, rfl, by rw [if_pos rfl]; exact hQ⟩⟩
      case round =>
        obtain ⟨i, rfl, hi, HI0⟩ := hrel
        obtain ⟨s1, ov, er, gs, c, hI1, hI2, hI3⟩ := HI0.out
        have HI : Hid (VIx w0 vb inb N.length (.slice (some ⟨gE, oE, none⟩) En.length cE) (.slice aL Le.length cL) P (K - 1) gs c s1 ov er wr ∧ Sp.cf s1.1 ≤ f ∧ ((ov = false ∧ er = 0 ∧ wAll (wOne (Sp.vis N En Le P) nx f) ((nx j).drop i) s1 = Q) ∨ (ov = true ∧ Q.2 = s1 ∧ ¬ Q.1 = some true ∧ er = if Q.1 = none then 9 else 0))) := ⟨hI1, hI2, by simpa using hI3⟩
        clear hI1 hI2 hI3 HI0
        obtain ⟨y0, y1, _, y5, y6, y7, yf⟩ := HI.out.1.cells
        clear q0 q1 q2 q3 k0 k5 kf H3 hzE kE
        clear hQ
        by_cases hlt : i < (nx j).length
        · have hltz : (i : Int) < ((nx j).length : Int) := by omega
          cases ov with
          | false =>
            have hrow := HS.out.nxt.row j hzn
            obtain ⟨k, hk⟩ : ∃ k, (nx j)[i]? = some k := ⟨_, List.getElem?_eq_getElem hlt⟩
            have hkn : k < N.length := HS.out.nb j hzn k (List.mem_of_getElem? hk)
            obtain ⟨g, hg⟩ : ∃ g, bl j = some g := by
              cases hb : bl j with
              | some g => exact ⟨g, rfl⟩
              | none => have := (hrow.1 hb).1; rw [List.map_eq_nil_iff] at this; rw [this] at hlt; simp at hlt
            have kr : wr.cell? ⟨g, i, none⟩ = some (.int .i64 (k : Nat)) := by
              rw [HI.out.1.stc (HS2.out.nxt.lt.2 j g hzn hg) (HS2.out.ne.2.2.2 j g hzn hg)]
              exact (hrow.2 g hg).cell (by simp [iv, hk])
            have ea : adr (bl j) = some ⟨g, 0, none⟩ := by rw [hg]; rfl
            have hdr : (nx j).drop i = k :: (nx j).drop (i + 1) := by
              rw [List.getElem?_eq_getElem hlt] at hk
              injection hk with hk
              rw [← hk]; exact List.drop_eq_getElem_cons hlt
            have her : er = 0 ∧ wAll (wOne (Sp.vis N En Le P) nx f) ((nx j).drop i) s1 = Q := by
              rcases HI.out.2.2 with h | h
              · exact h.2
              · cases h.1
            obtain ⟨rfl, hQi⟩ := her
            rw [hdr, wAll_cons] at hQi
            have hcl1 := HIH.out (K - 1) k s1 wr gs c HI.out.1 (by have := HKK.out; omega) hkn HI.out.2.1
            have HM : Hid (Mor s1.1 (wVis (wOne (Sp.vis N En Le P) nx f) k s1).2.1) := by
              show Mor _ _
              unfold wVis
              split
              · exact Mor.refl _
              · exact wOne_mor _ nx f k s1
            have hcfi := HI.out.2.1
            obtain ⟨r, hr⟩ : ∃ r, wVis (wOne (Sp.vis N En Le P) nx f) k s1 = r := ⟨_, rfl⟩
            rw [hr] at hcl1 HM hQi
            have HQi : Hid ((if r.1 = some true then wAll (wOne (Sp.vis N En Le P) nx f) ((nx j).drop (i + 1)) r.2 else r) = Q) := hQi
            have HCF : Hid (Sp.cf r.2.1 ≤ f) := Nat.le_trans HM.out.cf hcfi
            clear hrow hk hdr hQi hr HM hcfi hg HI
            go_wp2_with fail
            refine hcl1.mono ?_
            rintro e w4 ⟨rfl, gs4, c4, h4⟩
            have H4 : Hid (VIx w0 vb inb N.length (.slice (some ⟨gE, oE, none⟩) En.length cE) (.slice aL Le.length cL) P (K - 1) gs4 c4 r.2 (!decide (r.1 = some true)) (if r.1 = none then 9 else 0) w4) := h4
            clear h4 hcl1
            go_wp2_with fail
            go_roundw
            case rel =>
              rw [← ea]
              refine ⟨_, _, _, _, _, _, _, _, _, _, _, _, _, _, _, _, _, _, _, _, _, _, _, _, ?_, rfl⟩
              refine ⟨i + 1, by go_num, by omega, r.2, _, _, gs4, c4, H4.out, HCF.out, ?_⟩
              rw [if_pos rfl]
              by_cases hr1 : r.1 = some true
              · have := HQi.out
                rw [if_pos hr1] at this
                exact .inl ⟨by simp [hr1], by simp [hr1], this⟩
              · have := HQi.out
                rw [if_neg hr1] at this
                rw [← this]
                exact .inr ⟨by simp [hr1], rfl, hr1, rfl⟩
            case measure => simp [intOf]; omega
          | true =>
            have HR : Hid (VIr w0 vb inb N.length (.slice (some ⟨gE, oE, none⟩) En.length cE) (.slice aL Le.length cL) P K RES wr) := by
              show VIr _ _ _ _ _ _ _ _ _ _
              rcases HI.out.2.2 with h | h
              · cases h.1
              · rw [HQ.out, if_neg h.2.2.1]
                exact VIr.of (HI.out.1.up (by omega)) h.2.1 (by simp [h.2.2.1]) h.2.2.2.symm
            clear HI
            go_wp2_with fail
            ((try simp only [Exit.inBlock, Exit.then]); refine bodyPost_ret (results_none rfl _ _ _) rfl ?_)
            exact ⟨rfl, HR.out⟩
        · have hltz : ¬ (i : Int) < ((nx j).length : Int) := by omega
          obtain rfl : i = (nx j).length := by omega
          cases ov with
          | true =>
            have HR : Hid (VIr w0 vb inb N.length (.slice (some ⟨gE, oE, none⟩) En.length cE) (.slice aL Le.length cL) P K RES wr) := by
              show VIr _ _ _ _ _ _ _ _ _ _
              rcases HI.out.2.2 with h | h
              · cases h.1
              · rw [HQ.out, if_neg h.2.2.1]
                exact VIr.of (HI.out.1.up (by omega)) h.2.1 (by simp [h.2.2.1]) h.2.2.2.symm
            clear HI
            go_wp2_with fail
            ((try simp only [Exit.inBlock, Exit.then]); refine bodyPost_ret (results_none rfl _ _ _) rfl ?_)
            exact ⟨rfl, HR.out⟩
          | false =>
            have her : er = 0 ∧ (some true, s1) = Q := by
              rcases HI.out.2.2 with h | h
              · have h2 := h.2.2
                rw [List.drop_of_length_le (Nat.le_refl _), wAll] at h2
                exact ⟨h.2.1, h2⟩
              · cases h.1
            obtain ⟨rfl, hQi⟩ := her
            skip
            obtain ⟨E1, cs1, en1, le1⟩ := s1
            simp only at y5 y6
            have hcl1 : cs1.length ≤ 8192 := by have := HI.out.1.bd; have := HKK.out; simp only at *; omega
            have hle1 : le1 ≤ cs1.length := HI.out.1.es.2
            obtain ⟨z0, z1, z2, z3⟩ := HX.out wr _ _ _ _ _ _ HI.out.1
            have hC := call_any vb (.slice (some ⟨gE, oE, none⟩) En.length cE) (.slice aL Le.length cL) P gs c cs1 (.slice (some ⟨inb, 0, none⟩) N.length N.length) (.int .i64 en1) (.int .i64 le1) false 0 x true wr HI.out.1.vis HI.out.1.cal HI.out.1.ne.2 (by omega)
            have HL0 : Hid (RES = wLeave (Sp.vis N En Le P) j (E1, ⟨cs1, en1, le1⟩)) := by
              show _ = _
              rw [HQ.out, ← hQi, if_pos rfl]
            have HL : Hid (RES = if ((cs1.length + 1 : Nat) : Int) = P then (none, (E1, ⟨cs1 ++ [(x, true)], en1, le1⟩)) else (some (Le.getD le1 true), (E1, ⟨cs1 ++ [(x, true)], en1, le1 + 1⟩))) := by
              show _ = _
              rw [HL0.out]
              unfold wLeave
              simp only [Sp.vis]
              rw [Go.wrap_small _ (by omega) (by omega), opt_small _ (by omega), HXD.out]
              split <;> rfl
            clear HL0 HQ hQi
            go_wp2_with fail
            refine hC.mono ?_
            rintro e w5 hce
            obtain ⟨he, g5, c5, h5⟩ := HI.out.1.call hce
            clear hce hC y0 y1 y5 y6 y7 yf z0 z1 z2 z3 HI
            simp only at h5 he
            subst he
            by_cases hP1 : ((cs1.length + 1 : Nat) : Int) = P
            · have HR : Hid (VIr w0 vb inb N.length (.slice (some ⟨gE, oE, none⟩) En.length cE) (.slice aL Le.length cL) P K RES w5) := by
                show VIr _ _ _ _ _ _ _ _ _ _
                rw [if_pos hP1, decide_eq_true hP1] at h5
                rw [HL.out, if_pos hP1]
                exact VIr.of (h5.up (by have := HKK.out; omega)) rfl (by simp) (by simp)
              rw [decide_eq_true hP1]
              clear h5 hP1 HL
              go_wp2_with fail
              ((try simp only [Exit.inBlock, Exit.then]); refine bodyPost_ret (results_none rfl _ _ _) rfl ?_)
              exact ⟨rfl, HR.out⟩
            · rw [if_neg hP1, decide_eq_false hP1] at h5
              rw [decide_eq_false hP1]
              obtain ⟨x0, x1, _, _, x6, x7, xf⟩ := h5.cells
              simp only at x6
              have hB5 : ∀ b nb, (!b) = nb → RES = (some b, (E1, ⟨cs1 ++ [(x, true)], en1, le1 + 1⟩)) → VIr w0 vb inb N.length (.slice (some ⟨gE, oE, none⟩) En.length cE) (.slice aL Le.length cL) P K RES ((w5.setCell ⟨vb, 7, none⟩ (.bool nb)).setCell ⟨vb, 6, none⟩ (.int .i64 ((le1 : Int) + 1))) := by
                intro b nb hn hb
                subst hn
                rw [hb]
                have h6 := (h5.setOv (!b)).le (by simp; omega)
                refine VIr.of (st := (E1, ⟨cs1 ++ [(x, true)], en1, le1 + 1⟩)) (ov := !b) (er := 0) (h6.up (by have := HKK.out; omega)) rfl (by cases b <;> simp) (by simp)
              have HB5 : Hid (∀ b nb, (!b) = nb → RES = (some b, (E1, ⟨cs1 ++ [(x, true)], en1, le1 + 1⟩)) → VIr w0 vb inb N.length (.slice (some ⟨gE, oE, none⟩) En.length cE) (.slice aL Le.length cL) P K RES ((w5.setCell ⟨vb, 7, none⟩ (.bool nb)).setCell ⟨vb, 6, none⟩ (.int .i64 ((le1 : Int) + 1)))) := hB5
              have n6 : ∀ v, (w5.setCell ⟨vb, 7, none⟩ v).cell? ⟨vb, 6, none⟩ = some (.int .i64 le1) := fun v => by rw [World.cell?_setCell_other _ _ _ _ (by intro e; injection e with e1 e2; omega)]; exact x6
              have nf : ∀ v, (w5.setCell ⟨vb, 7, none⟩ v).frozen? ⟨vb, 6, none⟩ = false := fun v => by rw [World.frozen?_setCell]; exact xf 6
              have HLe : Hid (∀ t b, Le[t]? = some b → ∃ g o, aL = some ⟨g, o, none⟩ ∧ w5.cell? ⟨g, o + t, none⟩ = some (.bool b)) := by
                intro t b hb
                obtain ⟨g, o, ea, hg, hgv, hcell⟩ := HS.out.lev t b hb
                exact ⟨g, o, ea, by rw [h5.stc hg hgv]; exact hcell⟩
              have HLr : Hid (RES = (some (Le.getD le1 true), (E1, ⟨cs1 ++ [(x, true)], en1, le1 + 1⟩))) := by show _ = _; rw [HL.out, if_neg hP1]
              clear h5 hB5 hP1 HL
              by_cases hlL : le1 < Le.length
              · obtain ⟨b, hb⟩ : ∃ b, Le[le1]? = some b := ⟨_, List.getElem?_eq_getElem hlL⟩
                obtain ⟨gL, oL, rfl, kL⟩ := HLe.out le1 b hb
                have hzL : (le1 : Int) < (Le.length : Int) := by omega
                have hbb : Le.getD le1 true = b := by rw [List.getD_eq_getElem?_getD, hb]; rfl
                have HRb : RES = (some b, (E1, ⟨cs1 ++ [(x, true)], en1, le1 + 1⟩)) := by rw [HLr.out, hbb]
                clear hb hbb HLe HLr
                cases b with
                | true =>
                  have HR := HB5.out true false rfl HRb
                  clear HRb HB5
                  go_wp2_with fail
                  go_region
                  go_wp2_with fail
                  go_end0
                  exact ⟨rfl, by first | with_reducible exact HR | exact HR.drew⟩
                | false =>
                  have HR := HB5.out false true rfl HRb
                  clear HRb HB5
                  go_wp2_with fail
                  go_region
                  go_wp2_with fail
                  go_end0
                  exact ⟨rfl, by first | with_reducible exact HR | exact HR.drew⟩
              · have hzL : ¬ (le1 : Int) < (Le.length : Int) := by omega
                have hbb : Le.getD le1 true = true := by rw [List.getD_eq_getElem?_getD, List.getElem?_eq_none (by omega)]; rfl
                have HR := HB5.out true false rfl (by rw [HLr.out, hbb])
                clear hbb HLe HB5 HLr
                go_wp2_with fail
                go_region
                go_wp2_with fail
                go_end0
                exact ⟨rfl, by first | with_reducible exact HR | exact HR.drew⟩
    | false =>
      obtain ⟨gE, oE, rfl, kE⟩ := HEn.out en _ hEn
      have hzE : (en : Int) < (En.length : Int) := by have := (List.getElem?_eq_some_iff.1 hEn).1; omega
      have hon : En.getD en true = false := by rw [List.getD_eq_getElem?_getD, hEn]; rfl
      obtain ⟨Q, hQ⟩ : ∃ Q : Option Bool × Wst VS, (some true, (E.set j true, ⟨cs ++ [(x, false)], en + 1, le⟩)) = Q := ⟨_, rfl⟩
      have HQ : Hid (RES = if Q.1 = some true then wLeave (Sp.vis N En Le P) j Q.2 else Q) := by
        show _ = _
        rw [← HRES.out, wOne]
        simp only [HV.out, hon]
        rw [← hQ]
        simp
      clear hon HV HEn HRES hEn
      go_wp2_with fail
      go_quiet (fail)
      obtain ⟨W3, hW3⟩ : ∃ W3, (w2.drewN nq).setCell ⟨vb, 5, none⟩ (.int .i64 ((en : Int) + 1)) = W3 := ⟨_, rfl⟩
      have H3 : Hid (VIx w0 vb inb N.length (.slice (some ⟨gE, oE, none⟩) En.length cE) (.slice aL Le.length cL) P (K - 1) g' c' (E.set j true, ⟨cs ++ [(x, false)], en + 1, le⟩) false 0 W3) := by
        show VIx _ _ _ _ _ _ _ _ _ _ _ _ _ _
        rw [← hW3]
        have := (H2.out.drewN nq).en (by simp; omega)
        simpa using this
      obtain ⟨q0, q1, q2, q3⟩ := HX.out W3 _ _ _ _ _ _ H3.out
      clear H2
      go_wp2_with fail
      go_loopw [8] (fun v8 wr => ∃ i : Nat, v8 = .int .i64 i ∧ i ≤ (nx j).length ∧ Hid (VLi w0 vb inb N.length (.slice (some ⟨gE, oE, none⟩) En.length cE) (.slice aL Le.length cL) P (K - 1) f false (wAll (wOne (Sp.vis N En Le P) nx f)) (nx j) Q i wr)) (fun v8 _ => (nx j).length - (intOf v8).toNat)
      case atStart => exact ⟨0, rfl, Nat.zero_le _, _, false, 0, _, _, H3.out, hcf1, .inl ⟨rfl, rfl, by rw [if_neg (by decide)]; exact hQ⟩⟩
      case round =>
        obtain ⟨i, rfl, hi, HI0⟩ := hrel
        obtain ⟨s1, ov, er, gs, c, hI1, hI2, hI3⟩ := HI0.out
        have HI : Hid (VIx w0 vb inb N.length (.slice (some ⟨gE, oE, none⟩) En.length cE) (.slice aL Le.length cL) P (K - 1) gs c s1 ov er wr ∧ Sp.cf s1.1 ≤ f ∧ ((ov = false ∧ er = 0 ∧ (some true, s1) = Q) ∨ (ov = true ∧ Q.2 = s1 ∧ ¬ Q.1 = some true ∧ er = if Q.1 = none then 9 else 0))) := ⟨hI1, hI2, by simpa using hI3⟩
        clear hI1 hI2 hI3 HI0
        obtain ⟨y0, y1, _, y5, y6, y7, yf⟩ := HI.out.1.cells
        clear q0 q1 q2 q3 k0 k5 kf H3 hzE kE
        obtain ⟨rfl, rfl, hQi⟩ : ov = false ∧ er = 0 ∧ (some true, s1) = Q := by
          rcases HI.out.2.2 with h | h
          · exact h
          · exact absurd (by rw [← hQ]) h.2.2.1
        by_cases hlt : i < (nx j).length
        · have hltz : (i : Int) < ((nx j).length : Int) := by omega
          skip
          obtain ⟨E1, cs1, en1, le1⟩ := s1
          simp only at y5 y6
          have hcl1 : cs1.length ≤ 8192 := by have := HI.out.1.bd; have := HKK.out; simp only at *; omega
          have hle1 : le1 ≤ cs1.length := HI.out.1.es.2
          obtain ⟨z0, z1, z2, z3⟩ := HX.out wr _ _ _ _ _ _ HI.out.1
          have hC := call_any vb (.slice (some ⟨gE, oE, none⟩) En.length cE) (.slice aL Le.length cL) P gs c cs1 (.slice (some ⟨inb, 0, none⟩) N.length N.length) (.int .i64 en1) (.int .i64 le1) false 0 x true wr HI.out.1.vis HI.out.1.cal HI.out.1.ne.2 (by omega)
          have HL0 : Hid (RES = wLeave (Sp.vis N En Le P) j (E1, ⟨cs1, en1, le1⟩)) := by
            show _ = _
            rw [HQ.out, ← hQi, if_pos rfl]
          have HL : Hid (RES = if ((cs1.length + 1 : Nat) : Int) = P then (none, (E1, ⟨cs1 ++ [(x, true)], en1, le1⟩)) else (some (Le.getD le1 true), (E1, ⟨cs1 ++ [(x, true)], en1, le1 + 1⟩))) := by
            show _ = _
            rw [HL0.out]
            unfold wLeave
            simp only [Sp.vis]
            rw [Go.wrap_small _ (by omega) (by omega), opt_small _ (by omega), HXD.out]
            split <;> rfl
          clear HL0 HQ hQi
          go_wp2_with fail
          refine hC.mono ?_
          rintro e w5 hce
          obtain ⟨he, g5, c5, h5⟩ := HI.out.1.call hce
          clear hce hC y0 y1 y5 y6 y7 yf z0 z1 z2 z3 HI
          simp only at h5 he
          subst he
          by_cases hP1 : ((cs1.length + 1 : Nat) : Int) = P
          · have HR : Hid (VIr w0 vb inb N.length (.slice (some ⟨gE, oE, none⟩) En.length cE) (.slice aL Le.length cL) P K RES w5) := by
              show VIr _ _ _ _ _ _ _ _ _ _
              rw [if_pos hP1, decide_eq_true hP1] at h5
              rw [HL.out, if_pos hP1]
              exact VIr.of (h5.up (by have := HKK.out; omega)) rfl (by simp) (by simp)
            rw [decide_eq_true hP1]
            clear h5 hP1 HL
            go_wp2_with fail
            ((try simp only [Exit.inBlock, Exit.then]); refine bodyPost_ret (results_none rfl _ _ _) rfl ?_)
            exact ⟨rfl, HR.out⟩
          · rw [if_neg hP1, decide_eq_false hP1] at h5
            rw [decide_eq_false hP1]
            obtain ⟨x0, x1, _, _, x6, x7, xf⟩ := h5.cells
            simp only at x6
            have hB5 : ∀ b nb, (!b) = nb → RES = (some b, (E1, ⟨cs1 ++ [(x, true)], en1, le1 + 1⟩)) → VIr w0 vb inb N.length (.slice (some ⟨gE, oE, none⟩) En.length cE) (.slice aL Le.length cL) P K RES ((w5.setCell ⟨vb, 7, none⟩ (.bool nb)).setCell ⟨vb, 6, none⟩ (.int .i64 ((le1 : Int) + 1))) := by
              intro b nb hn hb
              subst hn
              rw [hb]
              have h6 := (h5.setOv (!b)).le (by simp; omega)
              refine VIr.of (st := (E1, ⟨cs1 ++ [(x, true)], en1, le1 + 1⟩)) (ov := !b) (er := 0) (h6.up (by have := HKK.out; omega)) rfl (by cases b <;> simp) (by simp)
            have HB5 : Hid (∀ b nb, (!b) = nb → RES = (some b, (E1, ⟨cs1 ++ [(x, true)], en1, le1 + 1⟩)) → VIr w0 vb inb N.length (.slice (some ⟨gE, oE, none⟩) En.length cE) (.slice aL Le.length cL) P K RES ((w5.setCell ⟨vb, 7, none⟩ (.bool nb)).setCell ⟨vb, 6, none⟩ (.int .i64 ((le1 : Int) + 1)))) := hB5
            have n6 : ∀ v, (w5.setCell ⟨vb, 7, none⟩ v).cell? ⟨vb, 6, none⟩ = some (.int .i64 le1) := fun v => by rw [World.cell?_setCell_other _ _ _ _ (by intro e; injection e with e1 e2; omega)]; exact x6
            have nf : ∀ v, (w5.setCell ⟨vb, 7, none⟩ v).frozen? ⟨vb, 6, none⟩ = false := fun v => by rw [World.frozen?_setCell]; exact xf 6
            have HLe : Hid (∀ t b, Le[t]? = some b → ∃ g o, aL = some ⟨g, o, none⟩ ∧ w5.cell? ⟨g, o + t, none⟩ = some (.bool b)) := by
              intro t b hb
              obtain ⟨g, o, ea, hg, hgv, hcell⟩ := HS.out.lev t b hb
              exact ⟨g, o, ea, by rw [h5.stc hg hgv]; exact hcell⟩
            have HLr : Hid (RES = (some (Le.getD le1 true), (E1, ⟨cs1 ++ [(x, true)], en1, le1 + 1⟩))) := by show _ = _; rw [HL.out, if_neg hP1]
            clear h5 hB5 hP1 HL
            by_cases hlL : le1 < Le.length
            · obtain ⟨b, hb⟩ : ∃ b, Le[le1]? = some b := ⟨_, List.getElem?_eq_getElem hlL⟩
              obtain ⟨gL, oL, rfl, kL⟩ := HLe.out le1 b hb
              have hzL : (le1 : Int) < (Le.length : Int) := by omega
              have hbb : Le.getD le1 true = b := by rw [List.getD_eq_getElem?_getD, hb]; rfl
              have HRb : RES = (some b, (E1, ⟨cs1 ++ [(x, true)], en1, le1 + 1⟩)) := by rw [HLr.out, hbb]
              clear hb hbb HLe HLr
              cases b with
              | true =>
                have HR := HB5.out true false rfl HRb
                clear HRb HB5
                go_wp2_with fail
                go_region
                go_wp2_with fail
                go_end0
                exact ⟨rfl, by first | with_reducible exact HR | exact HR.drew⟩
              | false =>
                have HR := HB5.out false true rfl HRb
                clear HRb HB5
                go_wp2_with fail
                go_region
                go_wp2_with fail
                go_end0
                exact ⟨rfl, by first | with_reducible exact HR | exact HR.drew⟩
            · have hzL : ¬ (le1 : Int) < (Le.length : Int) := by omega
              have hbb : Le.getD le1 true = true := by rw [List.getD_eq_getElem?_getD, List.getElem?_eq_none (by omega)]; rfl
              have HR := HB5.out true false rfl (by rw [HLr.out, hbb])
              clear hbb HLe HB5 HLr
              go_wp2_with fail
              go_region
              go_wp2_with fail
              go_end0
              exact ⟨rfl, by first | with_reducible exact HR | exact HR.drew⟩
        · have hltz : ¬ (i : Int) < ((nx j).length : Int) := by omega
          skip
          obtain ⟨E1, cs1, en1, le1⟩ := s1
          simp only at y5 y6
          have hcl1 : cs1.length ≤ 8192 := by have := HI.out.1.bd; have := HKK.out; simp only at *; omega
          have hle1 : le1 ≤ cs1.length := HI.out.1.es.2
          obtain ⟨z0, z1, z2, z3⟩ := HX.out wr _ _ _ _ _ _ HI.out.1
          have hC := call_any vb (.slice (some ⟨gE, oE, none⟩) En.length cE) (.slice aL Le.length cL) P gs c cs1 (.slice (some ⟨inb, 0, none⟩) N.length N.length) (.int .i64 en1) (.int .i64 le1) false 0 x true wr HI.out.1.vis HI.out.1.cal HI.out.1.ne.2 (by omega)
          have HL0 : Hid (RES = wLeave (Sp.vis N En Le P) j (E1, ⟨cs1, en1, le1⟩)) := by
            show _ = _
            rw [HQ.out, ← hQi, if_pos rfl]
          have HL : Hid (RES = if ((cs1.length + 1 : Nat) : Int) = P then (none, (E1, ⟨cs1 ++ [(x, true)], en1, le1⟩)) else (some (Le.getD le1 true), (E1, ⟨cs1 ++ [(x, true)], en1, le1 + 1⟩))) := by
            show _ = _
            rw [HL0.out]
            unfold wLeave
            simp only [Sp.vis]
            rw [Go.wrap_small _ (by omega) (by omega), opt_small _ (by omega), HXD.out]
            split <;> rfl
          clear HL0 HQ hQi
          go_wp2_with fail
          refine hC.mono ?_
          rintro e w5 hce
          obtain ⟨he, g5, c5, h5⟩ := HI.out.1.call hce
          clear hce hC y0 y1 y5 y6 y7 yf z0 z1 z2 z3 HI
          simp only at h5 he
          subst he
          by_cases hP1 : ((cs1.length + 1 : Nat) : Int) = P
          · have HR : Hid (VIr w0 vb inb N.length (.slice (some ⟨gE, oE, none⟩) En.length cE) (.slice aL Le.length cL) P K RES w5) := by
              show VIr _ _ _ _ _ _ _ _ _ _
              rw [if_pos hP1, decide_eq_true hP1] at h5
              rw [HL.out, if_pos hP1]
              exact VIr.of (h5.up (by have := HKK.out; omega)) rfl (by simp) (by simp)
            rw [decide_eq_true hP1]
            clear h5 hP1 HL
            go_wp2_with fail
            ((try simp only [Exit.inBlock, Exit.then]); refine bodyPost_ret (results_none rfl _ _ _) rfl ?_)
            exact ⟨rfl, HR.out⟩
          · rw [if_neg hP1, decide_eq_false hP1] at h5
            rw [decide_eq_false hP1]
            obtain ⟨x0, x1, _, _, x6, x7, xf⟩ := h5.cells
            simp only at x6
            have hB5 : ∀ b nb, (!b) = nb → RES = (some b, (E1, ⟨cs1 ++ [(x, true)], en1, le1 + 1⟩)) → VIr w0 vb inb N.length (.slice (some ⟨gE, oE, none⟩) En.length cE) (.slice aL Le.length cL) P K RES ((w5.setCell ⟨vb, 7, none⟩ (.bool nb)).setCell ⟨vb, 6, none⟩ (.int .i64 ((le1 : Int) + 1))) := by
              intro b nb hn hb
              subst hn
              rw [hb]
              have h6 := (h5.setOv (!b)).le (by simp; omega)
              refine VIr.of (st := (E1, ⟨cs1 ++ [(x, true)], en1, le1 + 1⟩)) (ov := !b) (er := 0) (h6.up (by have := HKK.out; omega)) rfl (by cases b <;> simp) (by simp)
            have HB5 : Hid (∀ b nb, (!b) = nb → RES = (some b, (E1, ⟨cs1 ++ [(x, true)], en1, le1 + 1⟩)) → VIr w0 vb inb N.length (.slice (some ⟨gE, oE, none⟩) En.length cE) (.slice aL Le.length cL) P K RES ((w5.setCell ⟨vb, 7, none⟩ (.bool nb)).setCell ⟨vb, 6, none⟩ (.int .i64 ((le1 : Int) + 1)))) := hB5
            have n6 : ∀ v, (w5.setCell ⟨vb, 7, none⟩ v).cell? ⟨vb, 6, none⟩ = some (.int .i64 le1) := fun v => by rw [World.cell?_setCell_other _ _ _ _ (by intro e; injection e with e1 e2; omega)]; exact x6
            have nf : ∀ v, (w5.setCell ⟨vb, 7, none⟩ v).frozen? ⟨vb, 6, none⟩ = false := fun v => by rw [World.frozen?_setCell]; exact xf 6
            have HLe : Hid (∀ t b, Le[t]? = some b → ∃ g o, aL = some ⟨g, o, none⟩ ∧ w5.cell? ⟨g, o + t, none⟩ = some (.bool b)) := by
              intro t b hb
              obtain ⟨g, o, ea, hg, hgv, hcell⟩ := HS.out.lev t b hb
              exact ⟨g, o, ea, by rw [h5.stc hg hgv]; exact hcell⟩
            have HLr : Hid (RES = (some (Le.getD le1 true), (E1, ⟨cs1 ++ [(x, true)], en1, le1 + 1⟩))) := by show _ = _; rw [HL.out, if_neg hP1]
            clear h5 hB5 hP1 HL
            by_cases hlL : le1 < Le.length
            · obtain ⟨b, hb⟩ : ∃ b, Le[le1]? = some b := ⟨_, List.getElem?_eq_getElem hlL⟩
              obtain ⟨gL, oL, rfl, kL⟩ := HLe.out le1 b hb
              have hzL : (le1 : Int) < (Le.length : Int) := by omega
              have hbb : Le.getD le1 true = b := by rw [List.getD_eq_getElem?_getD, hb]; rfl
              have HRb : RES = (some b, (E1, ⟨cs1 ++ [(x, true)], en1, le1 + 1⟩)) := by rw [HLr.out, hbb]
              clear hb hbb HLe HLr
              cases b with
              | true =>
                have HR := HB5.out true false rfl HRb
                clear HRb HB5
                go_wp2_with fail
                go_region
                go_wp2_with fail
                go_end0
                exact ⟨rfl, by first | with_reducible exact HR | exact HR.drew⟩
              | false =>
                have HR := HB5.out false true rfl HRb
                clear HRb HB5
                go_wp2_with fail
                go_region
                go_wp2_with fail
                go_end0
                exact ⟨rfl, by first | with_reducible exact HR | exact HR.drew⟩
            · have hzL : ¬ (le1 : Int) < (Le.length : Int) := by omega
              have hbb : Le.getD le1 true = true := by rw [List.getD_eq_getElem?_getD, List.getElem?_eq_none (by omega)]; rfl
              have HR := HB5.out true false rfl (by rw [HLr.out, hbb])
              clear hbb HLe HB5 HLr
              go_wp2_with fail
              go_region
              go_wp2_with fail
              go_end0
              exact ⟨rfl, by first | with_reducible exact HR | exact HR.drew⟩
  · have hEn : True := trivial
    have hzE : ¬ (en : Int) < (En.length : Int) := by omega
    have hon : En.getD en true = true := by rw [List.getD_eq_getElem?_getD, List.getElem?_eq_none (by omega)]; rfl
    obtain ⟨Q, hQ⟩ : ∃ Q, wAll (wOne (Sp.vis N En Le P) nx f) (nx j) (E.set j true, ⟨cs ++ [(x, false)], en + 1, le⟩) = Q := ⟨_, rfl⟩
    have HQ : Hid (RES = if Q.1 = some true then wLeave (Sp.vis N En Le P) j Q.2 else Q) := by
      show _ = _
      rw [← HRES.out, wOne]
      simp only [HV.out, hon]
      rw [hQ]
      simp
    clear hon HV HEn HRES hEn
    go_wp2_with fail
    go_quiet (fail)
    obtain ⟨W3, hW3⟩ : ∃ W3, (w2.drewN nq).setCell ⟨vb, 5, none⟩ (.int .i64 ((en : Int) + 1)) = W3 := ⟨_, rfl⟩
    have H3 : Hid (VIx w0 vb inb N.length (.slice aE En.length cE) (.slice aL Le.length cL) P (K - 1) g' c' (E.set j true, ⟨cs ++ [(x, false)], en + 1, le⟩) false 0 W3) := by
      show VIx _ _ _ _ _ _ _ _ _ _ _ _ _ _
      rw [← hW3]
      have := (H2.out.drewN nq).en (by simp; omega)
      simpa using this
    obtain ⟨q0, q1, q2, q3⟩ := HX.out W3 _ _ _ _ _ _ H3.out
    clear H2
    go_wp2_with fail
    go_loopw [8] (fun v8 wr => ∃ i : Nat, v8 = .int .i64 i ∧ i ≤ (nx j).length ∧ Hid (VLi w0 vb inb N.length (.slice aE En.length cE) (.slice aL Le.length cL) P (K - 1) f true (wAll (wOne (Sp.vis N En Le P) nx f)) (nx j) Q i wr)) (fun v8 _ => (nx j).length - (intOf v8).toNat)
    case atStart => exact ⟨0, rfl, Nat.zero_le _, _, false, 0, _, _, H3.out, hcf1, .inl ⟨rfl, rfl, by rw [if_pos rfl]; exact hQ⟩⟩
    case round =>
      obtain ⟨i, rfl, hi, HI0⟩ := hrel
      obtain ⟨s1, ov, er, gs, c, hI1, hI2, hI3⟩ := HI0.out
      have HI : Hid (VIx w0 vb inb N.length (.slice aE En.length cE) (.slice aL Le.length cL) P (K - 1) gs c s1 ov er wr ∧ Sp.cf s1.1 ≤ f ∧ ((ov = false ∧ er = 0 ∧ wAll (wOne (Sp.vis N En Le P) nx f) ((nx j).drop i) s1 = Q) ∨ (ov = true ∧ Q.2 = s1 ∧ ¬ Q.1 = some true ∧ er = if Q.1 = none then 9 else 0))) := ⟨hI1, hI2, by simpa using hI3⟩
      clear hI1 hI2 hI3 HI0
      obtain ⟨y0, y1, _, y5, y6, y7, yf⟩ := HI.out.1.cells
      clear q0 q1 q2 q3 k0 k5 kf H3 hzE
      clear hQ
      by_cases hlt : i < (nx j).length
      · have hltz : (i : Int) < ((nx j).length : Int) := by omega
        cases ov with
        | false =>
          have hrow := HS.out.nxt.row j hzn
          obtain ⟨k, hk⟩ : ∃ k, (nx j)[i]? = some k := ⟨_, List.getElem?_eq_getElem hlt⟩
          have hkn : k < N.length := HS.out.nb j hzn k (List.mem_of_getElem? hk)
          obtain ⟨g, hg⟩ : ∃ g, bl j = some g := by
            cases hb : bl j with
            | some g => exact ⟨g, rfl⟩
            | none => have := (hrow.1 hb).1; rw [List.map_eq_nil_iff] at this; rw [this] at hlt; simp at hlt
          have kr : wr.cell? ⟨g, i, none⟩ = some (.int .i64 (k : Nat)) := by
            rw [HI.out.1.stc (HS2.out.nxt.lt.2 j g hzn hg) (HS2.out.ne.2.2.2 j g hzn hg)]
            exact (hrow.2 g hg).cell (by simp [iv, hk])
          have ea : adr (bl j) = some ⟨g, 0, none⟩ := by rw [hg]; rfl
          have hdr : (nx j).drop i = k :: (nx j).drop (i + 1) := by
            rw [List.getElem?_eq_getElem hlt] at hk
            injection hk with hk
            rw [← hk]; exact List.drop_eq_getElem_cons hlt
          have her : er = 0 ∧ wAll (wOne (Sp.vis N En Le P) nx f) ((nx j).drop i) s1 = Q := by
            rcases HI.out.2.2 with h | h
            · exact h.2
            · cases h.1
          obtain ⟨rfl, hQi⟩ := her
          rw [hdr, wAll_cons] at hQi
          have hcl1 := HIH.out (K - 1) k s1 wr gs c HI.out.1 (by have := HKK.out; omega) hkn HI.out.2.1
          have HM : Hid (Mor s1.1 (wVis (wOne (Sp.vis N En Le P) nx f) k s1).2.1) := by
            show Mor _ _
            unfold wVis
            split
            · exact Mor.refl _
            · exact wOne_mor _ nx f k s1
          have hcfi := HI.out.2.1
          obtain ⟨r, hr⟩ : ∃ r, wVis (wOne (Sp.vis N En Le P) nx f) k s1 = r := ⟨_, rfl⟩
          rw [hr] at hcl1 HM hQi
          have HQi : Hid ((if r.1 = some true then wAll (wOne (Sp.vis N En Le P) nx f) ((nx j).drop (i + 1)) r.2 else r) = Q) := hQi
          have HCF : Hid (Sp.cf r.2.1 ≤ f) := Nat.le_trans HM.out.cf hcfi
          clear hrow hk hdr hQi hr HM hcfi hg HI
          go_wp2_with fail
          refine hcl1.mono ?_
          rintro e w4 ⟨rfl, gs4, c4, h4⟩
          have H4 : Hid (VIx w0 vb inb N.length (.slice aE En.length cE) (.slice aL Le.length cL) P (K - 1) gs4 c4 r.2 (!decide (r.1 = some true)) (if r.1 = none then 9 else 0) w4) := h4
          clear h4 hcl1
          go_wp2_with fail
          go_roundw
          case rel =>
            rw [← ea]
            refine ⟨_, _, _, _, _, _, _, _, _, _, _, _, _, _, _, _, _, _, _, _, _, _, _, _, ?_, rfl⟩
            refine ⟨i + 1, by go_num, by omega, r.2, _, _, gs4, c4, H4.out, HCF.out, ?_⟩
            rw [if_pos rfl]
            by_cases hr1 : r.1 = some true
            · have := HQi.out
              rw [if_pos hr1] at this
              exact .inl ⟨by simp [hr1], by simp [hr1], this⟩
            · have := HQi.out
              rw [if_neg hr1] at this
              rw [← this]
              exact .inr ⟨by simp [hr1], rfl, hr1, rfl⟩
          case measure => simp [intOf]; omega
        | true =>
          have HR : Hid (VIr w0 vb inb N.length (.slice aE En.length cE) (.slice aL Le.length cL) P K RES wr) := by
            show VIr _ _ _ _ _ _ _ _ _ _
            rcases HI.out.2.2 with h | h
            · cases h.1
            · rw [HQ.out, if_neg h.2.2.1]
              exact VIr.of (HI.out.1.up (by omega)) h.2.1 (by simp [h.2.2.1]) h.2.2.2.symm
          clear HI
          go_wp2_with fail
          ((try simp only [Exit.inBlock, Exit.then]); refine bodyPost_ret (results_none rfl _ _ _) rfl ?_)
          exact ⟨rfl, HR.out⟩
      · have hltz : ¬ (i : Int) < ((nx j).length : Int) := by omega
        obtain rfl : i = (nx j).length := by omega
        cases ov with
        | true =>
          have HR : Hid (VIr w0 vb inb N.length (.slice aE En.length cE) (.slice aL Le.length cL) P K RES wr) := by
            show VIr _ _ _ _ _ _ _ _ _ _
            rcases HI.out.2.2 with h | h
            · cases h.1
            · rw [HQ.out, if_neg h.2.2.1]
              exact VIr.of (HI.out.1.up (by omega)) h.2.1 (by simp [h.2.2.1]) h.2.2.2.symm
          clear HI
          go_wp2_with fail
          ((try simp only [Exit.inBlock, Exit.then]); refine bodyPost_ret (results_none rfl _ _ _) rfl ?_)
          exact ⟨rfl, HR.out⟩
        | false =>
          have her : er = 0 ∧ (some true, s1) = Q := by
            rcases HI.out.2.2 with h | h
            · have h2 := h.2.2
              rw [List.drop_of_length_le (Nat.le_refl _), wAll] at h2
              exact ⟨h.2.1, h2⟩
            · cases h.1
          obtain ⟨rfl, hQi⟩ := her
          skip
          obtain ⟨E1, cs1, en1, le1⟩ := s1
          simp only at y5 y6
          have hcl1 : cs1.length ≤ 8192 := by have := HI.out.1.bd; have := HKK.out; simp only at *; omega
          have hle1 : le1 ≤ cs1.length := HI.out.1.es.2
          obtain ⟨z0, z1, z2, z3⟩ := HX.out wr _ _ _ _ _ _ HI.out.1
          have hC := call_any vb (.slice aE En.length cE) (.slice aL Le.length cL) P gs c cs1 (.slice (some ⟨inb, 0, none⟩) N.length N.length) (.int .i64 en1) (.int .i64 le1) false 0 x true wr HI.out.1.vis HI.out.1.cal HI.out.1.ne.2 (by omega)
          have HL0 : Hid (RES = wLeave (Sp.vis N En Le P) j (E1, ⟨cs1, en1, le1⟩)) := by
            show _ = _
            rw [HQ.out, ← hQi, if_pos rfl]
          have HL : Hid (RES = if ((cs1.length + 1 : Nat) : Int) = P then (none, (E1, ⟨cs1 ++ [(x, true)], en1, le1⟩)) else (some (Le.getD le1 true), (E1, ⟨cs1 ++ [(x, true)], en1, le1 + 1⟩))) := by
            show _ = _
            rw [HL0.out]
            unfold wLeave
            simp only [Sp.vis]
            rw [Go.wrap_small _ (by omega) (by omega), opt_small _ (by omega), HXD.out]
            split <;> rfl
          clear HL0 HQ hQi
          go_wp2_with fail
          refine hC.mono ?_
          rintro e w5 hce
          obtain ⟨he, g5, c5, h5⟩ := HI.out.1.call hce
          clear hce hC y0 y1 y5 y6 y7 yf z0 z1 z2 z3 HI
          simp only at h5 he
          subst he
          by_cases hP1 : ((cs1.length + 1 : Nat) : Int) = P
          · have HR : Hid (VIr w0 vb inb N.length (.slice aE En.length cE) (.slice aL Le.length cL) P K RES w5) := by
              show VIr _ _ _ _ _ _ _ _ _ _
              rw [if_pos hP1, decide_eq_true hP1] at h5
              rw [HL.out, if_pos hP1]
              exact VIr.of (h5.up (by have := HKK.out; omega)) rfl (by simp) (by simp)
            rw [decide_eq_true hP1]
            clear h5 hP1 HL
            go_wp2_with fail
            ((try simp only [Exit.inBlock, Exit.then]); refine bodyPost_ret (results_none rfl _ _ _) rfl ?_)
            exact ⟨rfl, HR.out⟩
          · rw [if_neg hP1, decide_eq_false hP1] at h5
            rw [decide_eq_false hP1]
            obtain ⟨x0, x1, _, _, x6, x7, xf⟩ := h5.cells
            simp only at x6
            have hB5 : ∀ b nb, (!b) = nb → RES = (some b, (E1, ⟨cs1 ++ [(x, true)], en1, le1 + 1⟩)) → VIr w0 vb inb N.length (.slice aE En.length cE) (.slice aL Le.length cL) P K RES ((w5.setCell ⟨vb, 7, none⟩ (.bool nb)).setCell ⟨vb, 6, none⟩ (.int .i64 ((le1 : Int) + 1))) := by
              intro b nb hn hb
              subst hn
              rw [hb]
              have h6 := (h5.setOv (!b)).le (by simp; omega)
              refine VIr.of (st := (E1, ⟨cs1 ++ [(x, true)], en1, le1 + 1⟩)) (ov := !b) (er := 0) (h6.up (by have := HKK.out; omega)) rfl (by cases b <;> simp) (by simp)
            have HB5 : Hid (∀ b nb, (!b) = nb → RES = (some b, (E1, ⟨cs1 ++ [(x, true)], en1, le1 + 1⟩)) → VIr w0 vb inb N.length (.slice aE En.length cE) (.slice aL Le.length cL) P K RES ((w5.setCell ⟨vb, 7, none⟩ (.bool nb)).setCell ⟨vb, 6, none⟩ (.int .i64 ((le1 : Int) + 1)))) := hB5
            have n6 : ∀ v, (w5.setCell ⟨vb, 7, none⟩ v).cell? ⟨vb, 6, none⟩ = some (.int .i64 le1) := fun v => by rw [World.cell?_setCell_other _ _ _ _ (by intro e; injection e with e1 e2; omega)]; exact x6
            have nf : ∀ v, (w5.setCell ⟨vb, 7, none⟩ v).frozen? ⟨vb, 6, none⟩ = false := fun v => by rw [World.frozen?_setCell]; exact xf 6
            have HLe : Hid (∀ t b, Le[t]? = some b → ∃ g o, aL = some ⟨g, o, none⟩ ∧ w5.cell? ⟨g, o + t, none⟩ = some (.bool b)) := by
              intro t b hb
              obtain ⟨g, o, ea, hg, hgv, hcell⟩ := HS.out.lev t b hb
              exact ⟨g, o, ea, by rw [h5.stc hg hgv]; exact hcell⟩
            have HLr : Hid (RES = (some (Le.getD le1 true), (E1, ⟨cs1 ++ [(x, true)], en1, le1 + 1⟩))) := by show _ = _; rw [HL.out, if_neg hP1]
            clear h5 hB5 hP1 HL
            by_cases hlL : le1 < Le.length
            · obtain ⟨b, hb⟩ : ∃ b, Le[le1]? = some b := ⟨_, List.getElem?_eq_getElem hlL⟩
              obtain ⟨gL, oL, rfl, kL⟩ := HLe.out le1 b hb
              have hzL : (le1 : Int) < (Le.length : Int) := by omega
              have hbb : Le.getD le1 true = b := by rw [List.getD_eq_getElem?_getD, hb]; rfl
              have HRb : RES = (some b, (E1, ⟨cs1 ++ [(x, true)], en1, le1 + 1⟩)) := by rw [HLr.out, hbb]
              clear hb hbb HLe HLr
              cases b with
              | true =>
                have HR := HB5.out true false rfl HRb
                clear HRb HB5
                go_wp2_with fail
                go_region
                go_wp2_with fail
                go_end0
                exact ⟨rfl, by first | with_reducible exact HR | exact HR.drew⟩
              | false =>
                have HR := HB5.out false true rfl HRb
                clear HRb HB5
                go_wp2_with fail
                go_region
                go_wp2_with fail
                go_end0
                exact ⟨rfl, by first | with_reducible exact HR | exact HR.drew⟩
            · have hzL : ¬ (le1 : Int) < (Le.length : Int) := by omega
              have hbb : Le.getD le1 true = true := by rw [List.getD_eq_getElem?_getD, List.getElem?_eq_none (by omega)]; rfl
              have HR := HB5.out true false rfl (by rw [HLr.out, hbb])
              clear hbb HLe HB5 HLr
              go_wp2_with fail
              go_region
              go_wp2_with fail
              go_end0
              exact ⟨rfl, by first | with_reducible exact HR | exact HR.drew⟩
theorem visit_all (hS : VSt w0 vb gb N gn cn nx lo xb bl cp aE En aL Le) : ∀ f, VisC w0 vb gb inb N nx aE En cE aL Le cL P f
  | 0 => fun K j st W gs c h hK hj hcf => by
    refine visit_in 0 K j st W gs c h hj ?_
    have hl := h.len
    rw [List.getD_eq_getElem?_getD, List.getElem?_eq_getElem (show j < st.1.length by omega)]
    cases hb : st.1[j]'(by omega) with
    | true => rfl
    | false => have := cf_set (E := st.1) (n := j) (by rw [List.getElem?_eq_getElem (show j < st.1.length by omega), hb]); omega
  | f + 1 => visit_of hS f (visit_all hS f)
end
end Go.Proofs.Ytghfikeakfiopaa

