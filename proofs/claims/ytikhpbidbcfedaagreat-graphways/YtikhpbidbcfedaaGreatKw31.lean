/- graph.walk.all, given one. -/
import Derived.Test.YtikhpbidbcfedaaGreatKw30
namespace Go.Proofs.YtikhpbidbcfedaaGreat
open Go.RowKit Go.ChangeMaps

section
variable {σ : Type} {V : Vr σ} {zf : σ → Nat} {n m0 eb : Nat} {M : Nat → Option Obj → Prop} {I : σ → World → Prop} {Fe Fl : Nat} {ce cl : Array Value} {nx : Nat → List Nat} {lo xb : Nat} {bl : Nat → Option Nat} {cp : Nat → Nat}
def OneD (σ : Type) (V : Vr σ) (zf : σ → Nat) (n m0 eb : Nat) (M : Nat → Option Obj → Prop) (I : σ → World → Prop) (Fe Fl : Nat) (ce cl : Array Value) (nx : Nat → List Nat) (lo xb : Nat) (bl : Nat → Option Nat) (cp : Nat → Nat) (f : Nat) : Prop :=
  ∀ T j st W, WkJ σ zf T n m0 eb M I nx lo xb bl cp st W → j < n → st.1[j]? = some false → Sp.cf st.1 ≤ f → Calls Tryz.prog 67 #[.agg (wsC xb eb n Fe Fl ce cl), .int .i64 (j : Nat)] W (WkF σ zf T n m0 eb M I nx lo xb bl cp (wOne V nx f j st) W)
def AllD (σ : Type) (V : Vr σ) (zf : σ → Nat) (n m0 eb : Nat) (M : Nat → Option Obj → Prop) (I : σ → World → Prop) (Fe Fl : Nat) (ce cl : Array Value) (nx : Nat → List Nat) (lo xb : Nat) (bl : Nat → Option Nat) (cp : Nat → Nat) (f : Nat) : Prop :=
  ∀ T (l : List Nat) st W gs c, WkJ σ zf T n m0 eb M I nx lo xb bl cp st W → Sp.cf st.1 ≤ f → (∀ j ∈ l, j < n) → NdI W gs c (l.map fun j : Nat => (j : Int)) → StaO M eb gs → l.length * 8 ≤ 140737488355328 → Calls Tryz.prog 46 #[.agg (wsC xb eb n Fe Fl ce cl), .slice (adr gs) l.length c] W (WkF σ zf T n m0 eb M I nx lo xb bl cp (wAll (wOne V nx f) l st) W)

set_option maxRecDepth 100000 in
set_option maxHeartbeats 8000000 in
theorem all_ofO (hV : VisO σ V zf n m0 eb M I Fe Fl ce cl) (f : Nat) (hOne : OneD σ V zf n m0 eb M I Fe Fl ce cl nx lo xb bl cp f) : AllD σ V zf n m0 eb M I Fe Fl ce cl nx lo xb bl cp f := by
  intro T l st W gs c hW hcf hl hnd hsta hlen
  have HO : Hid (OneD σ V zf n m0 eb M I Fe Fl ce cl nx lo xb bl cp f) := hOne
  have HV : Hid (VisO σ V zf n m0 eb M I Fe Fl ce cl) := hV
  obtain ⟨W0, hW0⟩ : ∃ W0, W.alloc (.cells (wsC xb eb n Fe Fl ce cl) 83) = W0 := ⟨_, rfl⟩
  have HB0 : Hid (∀ X, KwO (fun k o => M k o ∨ k = eb) W0 X → X.heap[W.heap.size]? = some (.cells (wsC xb eb n Fe Fl ce cl) 83 (0, 0))) := fun X hX => by
    have h1 : W0.heap[W.heap.size]? = some (.cells (wsC xb eb n Fe Fl ce cl) 83 (0, 0)) := by rw [← hW0]; exact heap_alloc_new _ _
    refine (hX.block _ (Array.getElem?_eq_some_iff.1 h1).1 ?_).trans h1
    have hz := hW.sz
    rintro (h | h)
    · rw [h1] at h; exact hV.box _ _ (by omega) h
    · have := hV.eo.1; omega
  have HW0 : Hid (WkJ σ zf T n m0 eb M I nx lo xb bl cp st W0) := by rw [← hW0]; exact hW.alloc hV _
  have HK0 : Hid (KwO (fun k o => M k o ∨ k = eb) W W0) := by rw [← hW0]; exact (KwO.refl _ _).alloc _
  have HR : Hid (∀ X, KwO (fun k o => M k o ∨ k = eb) W0 X → ∀ t j, l[t]? = some j → ∃ g, gs = some g ∧ X.cell? ⟨g, t, none⟩ = some (.int .i64 (j : Nat))) := fun X hX t j ht => by
    cases gs with
    | none => have := (hnd.1 rfl).1; rw [List.map_eq_nil_iff] at this; subst this; simp at ht
    | some g =>
      have ho := hnd.2 g rfl
      refine ⟨g, rfl, ?_⟩
      have e1 : W0.heap[g]? = W.heap[g]? := by rw [← hW0]; exact Below.heap_alloc W _ g ho.lt
      have e2 : X.heap[g]? = W0.heap[g]? := hX.block g (by have := ho.lt; rw [← hW0, al_size]; omega) (by rintro (h | h); exact (hsta g rfl).1 _ h; exact (hsta g rfl).2 h)
      exact (ho.keep (e2.trans e1)).cell (by simp [iv, ht])
  have HL : Hid (∀ j ∈ l, j < n) := hl
  have HCF : Hid (Sp.cf st.1 ≤ f) := hcf
  have hbx : W0.cell? ⟨W.heap.size, 1, none⟩ = some (.slice (some ⟨eb, 0, none⟩) n n) := by
    simp [World.cell?, HB0.out W0 (KwO.refl _ _), wsC]
  clear hW hcf hl hnd hsta hOne hV hbx
  go_enter Tryz.func46, Tryz.ntmps46
  go_wp2
  go_loopw [9] (fun v9 wr => ∃ (i : Nat) (s1 : Wst σ), v9 = .int .i64 i ∧ i ≤ l.length ∧ Hid (WkJ σ zf T n m0 eb M I nx lo xb bl cp s1 wr ∧ KwO (fun k o => M k o ∨ k = eb) W0 wr ∧ wAll (wOne V nx f) (l.drop i) s1 = wAll (wOne V nx f) l st ∧ Sp.cf s1.1 ≤ f)) (fun v9 _ => l.length - (intOf v9).toNat)
  case atStart => exact ⟨0, st, rfl, Nat.zero_le _, HW0.out, KwO.refl _ _, rfl, HCF.out⟩
  case round =>
    obtain ⟨i, s1, rfl, hi, HI⟩ := hrel
    have hb := HB0.out wr HI.out.2.1
    have hb0 : wr.cell? ⟨W.heap.size, 0, none⟩ = some (.slice (some ⟨xb, 0, none⟩) n n) := by simp [World.cell?, hb, wsC]
    have hb1 : wr.cell? ⟨W.heap.size, 1, none⟩ = some (.slice (some ⟨eb, 0, none⟩) n n) := by simp [World.cell?, hb, wsC]
    have hb2 : wr.cell? ⟨W.heap.size, 2, none⟩ = some (.func (.func Fe) #[] ce) := by simp [World.cell?, hb, wsC]
    have hb3 : wr.cell? ⟨W.heap.size, 3, none⟩ = some (.func (.func Fl) #[] cl) := by simp [World.cell?, hb, wsC]
    clear hb
    by_cases hlt : i < l.length
    · obtain ⟨j, hj⟩ : ∃ j, l[i]? = some j := ⟨_, List.getElem?_eq_getElem hlt⟩
      obtain ⟨g, rfl, hcj⟩ := HR.out wr HI.out.2.1 i j hj
      have hjn : j < n := HL.out j (List.mem_of_getElem? hj)
      have ea : adr (some g) = some ⟨g, 0, none⟩ := rfl
      have hdr : l.drop i = j :: l.drop (i + 1) := by
        rw [List.getElem?_eq_getElem hlt] at hj
        injection hj with hj
        rw [← hj]; exact List.drop_eq_getElem_cons hlt
      obtain ⟨bj, hbj⟩ : ∃ bj, s1.1[j]? = some bj := ⟨_, List.getElem?_eq_getElem (by rw [HI.out.1.len]; exact hjn)⟩
      have hce : wr.cell? ⟨eb, j, none⟩ = some (.bool bj) := HI.out.1.ent.cell (by simp [bv, hbj])
      have hgd : s1.1.getD j false = bj := by rw [List.getD_eq_getElem?_getD, hbj]; rfl
      have E1 : Hid (wAll (wOne V nx f) (l.drop i) s1 = if bj = true then wAll (wOne V nx f) (l.drop (i + 1)) s1 else if (wOne V nx f j s1).1 = some true then wAll (wOne V nx f) (l.drop (i + 1)) (wOne V nx f j s1).2 else wOne V nx f j s1) := by
        show _ = _
        rw [hdr, wAll, hgd]
      clear hdr hgd hj
      cases bj with
      | true =>
        go_wp2
        go_roundw
        case rel => exact ⟨i + 1, s1, by go_num, by omega, HI.out.1, HI.out.2.1, by rw [← HI.out.2.2.1, E1.out, if_pos rfl], HI.out.2.2.2⟩
        case measure => simp [intOf]; omega
      | false =>
        have hO := HO.out T j s1 wr HI.out.1 hjn hbj HI.out.2.2.2
        have HM : Hid (Mor s1.1 (wOne V nx f j s1).2.1) := wOne_mor V nx f j s1
        obtain ⟨r, hr⟩ : ∃ r, r = wOne V nx f j s1 := ⟨_, rfl⟩
        rw [← hr] at hO HM
        have E2 : Hid (wAll (wOne V nx f) l st = if r.1 = some true then wAll (wOne V nx f) (l.drop (i + 1)) r.2 else r) := by
          show _ = _
          rw [← HI.out.2.2.1, E1.out, if_neg (by decide), ← hr]
        have HKI : Hid (KwO (fun k o => M k o ∨ k = eb) W0 wr ∧ Sp.cf s1.1 ≤ f) := ⟨HI.out.2.1, HI.out.2.2.2⟩
        clear hr E1 hbj HI
        obtain ⟨r1, r2⟩ := r
        cases r1 with
        | none =>
          go_wp2_with (go_at_call 67; refine hO.mono ?_; rintro e w2 ⟨⟨v, rfl⟩, q1, q2⟩; exact ⟨rfl, (by rw [E2.out, if_neg (by simp)]; exact ⟨⟨v, rfl⟩, q1, HK0.out.trans (HKI.out.1.trans q2)⟩)⟩)
        | some b =>
          cases b with
          | false =>
            go_wp2_with (go_at_call 67; refine hO.mono ?_; rintro e w2 ⟨q0, q1, q2⟩; obtain rfl : e = .returned (.bool false) := q0)
            go_ret
            rw [E2.out, if_neg (by simp)]
            exact ⟨rfl, q1, HK0.out.trans (HKI.out.1.trans q2)⟩
          | true =>
            go_wp2_with (go_at_call 67; refine hO.mono ?_; rintro e w2 ⟨q0, q1, q2⟩; obtain rfl : e = .returned (.bool true) := q0)
            go_roundw
            case rel =>
              refine ⟨_, _, _, _, _, _, _, _, _, _, _, _, _, _, _, _, _, _, _, ?_, rfl⟩
              exact ⟨i + 1, r2, by go_num, by omega, q1, HKI.out.1.trans q2, by rw [E2.out, if_pos trivial], Nat.le_trans HM.out.cf HKI.out.2⟩
            case measure => simp [intOf]; omega
    · obtain rfl : i = l.length := by omega
      have E3 : Hid (wAll (wOne V nx f) l st = (some true, s1)) := by
        show _ = _
        rw [← HI.out.2.2.1, List.drop_of_length_le (Nat.le_refl _), wAll]
      go_wp2
      go_ret
      rw [E3.out]
      exact ⟨rfl, HI.out.1, HK0.out.trans HI.out.2.1⟩
end
end Go.Proofs.YtikhpbidbcfedaaGreat

