/- tenonlaw14.GraphWalks' function literals: a visitor that holds what it is called with against what the document's walk wrote down. -/
import Derived.Test.YtghfikeakfiopaaK14
import Derived.Test.YtghfikeakfiopaaK18
import Derived.BigRegion
namespace Go.Proofs.Ytghfikeakfiopaa
open Go.RowKit Go.ChangeMaps

theorem pre_snoc {D cs : List (Int × Bool)} {p : Int × Bool} : (cs ++ [p]) <+: D ↔ cs <+: D ∧ D[cs.length]? = some p := by
  constructor
  · rintro ⟨t, rfl⟩
    refine ⟨⟨p :: t, by simp⟩, ?_⟩
    rw [List.append_assoc, List.getElem?_append_right (Nat.le_refl _)]
    simp
  · rintro ⟨⟨t, rfl⟩, h⟩
    rw [List.getElem?_append_right (Nat.le_refl _), Nat.sub_self] at h
    cases t with
    | nil => simp at h
    | cons q t => simp at h; subst h; exact ⟨t, by simp⟩
theorem w64_next (n : Nat) : wrap64 (wrap64 (n : Int) + 1) = wrap64 ((n + 1 : Nat) : Int) := by unfold wrap64; omega

def LM (ob nb eb lb : Nat) (k : Nat) : Prop := k = ob ∨ k = nb ∨ k = eb ∨ k = lb
structure LwI (w0 : World) (ob nb eb lb : Nat) (D : List (Int × Bool)) (s : VS) (W : World) : Prop where
  ok : W.heap[ob]? = some (.cells #[.bool (decide (s.calls <+: D))] 4 (0, 0))
  n : W.heap[nb]? = some (.cells #[.int .i64 (wrap64 (s.calls.length : Nat))] 3 (0, 0))
  en : W.heap[eb]? = some (.cells #[.int .i64 (wrap64 (s.en : Nat))] 3 (0, 0))
  le : W.heap[lb]? = some (.cells #[.int .i64 (wrap64 (s.le : Nat))] 3 (0, 0))
  fr : Kw (LM ob nb eb lb) w0 W
structure LwS (w0 : World) (ob nb eb lb vp vb pb : Nat) (P : Int) (gs : Option Nat) (c : Nat) (D : List (Int × Bool)) : Prop where
  lt : ob < w0.heap.size ∧ nb < w0.heap.size ∧ eb < w0.heap.size ∧ lb < w0.heap.size
  ap : ob ≠ nb ∧ ob ≠ eb ∧ ob ≠ lb ∧ nb ≠ eb ∧ nb ≠ lb ∧ eb ≠ lb
  v : w0.cell? ⟨vp, 0, none⟩ = some (.pointer (some ⟨vb, 0, none⟩)) ∧ vp < w0.heap.size ∧ ¬ LM ob nb eb lb vp
  cl : w0.cell? ⟨vb, 3, none⟩ = some (.slice (adr gs) D.length c) ∧ vb < w0.heap.size ∧ ¬ LM ob nb eb lb vb
  cs : NdC w0 gs c D ∧ ∀ g, gs = some g → ¬ LM ob nb eb lb g
  p : w0.cell? ⟨pb, 0, none⟩ = some (.int .i64 P) ∧ pb < w0.heap.size ∧ ¬ LM ob nb eb lb pb
  len : D.length ≤ 8192
section
variable {w0 W : World} {ob nb eb lb vp vb pb : Nat} {P : Int} {gs : Option Nat} {c : Nat} {D : List (Int × Bool)} {s : VS}
theorem LwI.st (h : LwI w0 ob nb eb lb D s W) {b o : Nat} (hb : b < w0.heap.size) (hn : ¬ LM ob nb eb lb b) : W.cell? ⟨b, o, none⟩ = w0.cell? ⟨b, o, none⟩ := World.cell?_of_block (h.fr.block b hb hn)
theorem LwI.keep {W' : World} (hS : LwS w0 ob nb eb lb vp vb pb P gs c D) (h : LwI w0 ob nb eb lb D s W) (hs : W.heap.size ≤ W'.heap.size) (hb : ∀ k, k < W.heap.size → k < w0.heap.size → W'.heap[k]? = W.heap[k]?) (ho : W'.os = W.os) (ht : W'.tape = W.tape) (hp : W'.output = W.output) : LwI w0 ob nb eb lb D s W' := by
  have hz := h.fr.size
  obtain ⟨l1, l2, l3, l4⟩ := hS.lt
  exact ⟨(hb ob (by omega) l1).trans h.ok, (hb nb (by omega) l2).trans h.n, (hb eb (by omega) l3).trans h.en, (hb lb (by omega) l4).trans h.le, ⟨ho.trans h.fr.os, ht.trans h.fr.tape, hp.trans h.fr.output, Nat.le_trans h.fr.size hs, fun j h1 h2 => (hb j (Nat.lt_of_lt_of_le h1 hz) h1).trans (h.fr.block j h1 h2)⟩⟩
theorem LwI.drew (h : LwI w0 ob nb eb lb D s W) : LwI w0 ob nb eb lb D s W.drew := ⟨h.ok, h.n, h.en, h.le, h.fr.drew⟩
theorem box_put {W : World} {b : Nat} {v v' : Value} {t : TypeId} (h : W.heap[b]? = some (.cells #[v] t (0, 0))) : (W.setCell ⟨b, 0, none⟩ v').heap[b]? = some (.cells #[v'] t (0, 0)) := by
  rw [Sort.setCell_eq]; show (W.heap.modify b _)[b]? = _
  rw [Array.getElem?_modify, if_pos rfl, h]; rfl
theorem LwI.told (hS : LwS w0 ob nb eb lb vp vb pb P gs c D) (h : LwI w0 ob nb eb lb D s W) (p : Int × Bool) : LwI w0 ob nb eb lb D ⟨s.calls ++ [p], s.en, s.le⟩ ((W.setCell ⟨ob, 0, none⟩ (.bool (decide ((s.calls ++ [p]) <+: D)))).setCell ⟨nb, 0, none⟩ (.int .i64 (wrap64 (((s.calls ++ [p]).length : Nat) : Int)))) := by
  obtain ⟨a1, a2, a3, a4, a5, a6⟩ := hS.ap
  have e1 : ∀ k, k ≠ ob → (W.setCell ⟨ob, 0, none⟩ (.bool (decide ((s.calls ++ [p]) <+: D)))).heap[k]? = W.heap[k]? := fun k hk => Below.heap_setCell W _ _ k hk
  have e2 : ∀ k, k ≠ nb → ((W.setCell ⟨ob, 0, none⟩ (.bool (decide ((s.calls ++ [p]) <+: D)))).setCell ⟨nb, 0, none⟩ (.int .i64 (wrap64 (((s.calls ++ [p]).length : Nat) : Int)))).heap[k]? = (W.setCell ⟨ob, 0, none⟩ (.bool (decide ((s.calls ++ [p]) <+: D)))).heap[k]? := fun k hk => Below.heap_setCell _ _ _ k hk
  refine ⟨(e2 ob a1).trans (box_put h.ok), box_put ((e1 nb (Ne.symm a1)).trans h.n), (e2 eb (Ne.symm a4)).trans ((e1 eb (Ne.symm a2)).trans h.en), (e2 lb (Ne.symm a5)).trans ((e1 lb (Ne.symm a3)).trans h.le), ?_⟩
  exact (h.fr.set (M := LM ob nb eb lb) (.inl (.inl rfl)) _).set (.inl (.inr (.inl rfl))) _
theorem LwI.kw {p : Int × Bool} : Kw (LM ob nb eb lb) W ((W.setCell ⟨ob, 0, none⟩ (.bool (decide ((s.calls ++ [p]) <+: D)))).setCell ⟨nb, 0, none⟩ (.int .i64 (wrap64 (((s.calls ++ [p]).length : Nat) : Int)))) := ((Kw.refl _ _).set (M := LM ob nb eb lb) (.inl (.inl rfl)) _).set (.inl (.inr (.inl rfl))) _
def LcE (w0 : World) (ob nb eb lb : Nat) (P : Int) (D : List (Int × Bool)) (s : VS) (p : Int × Bool) (W : World) (e : Ending) (W' : World) : Prop :=
  (if wrap64 (((s.calls ++ [p]).length : Nat) : Int) = P then PanE e else e = .returned (.tuple #[])) ∧ LwI w0 ob nb eb lb D ⟨s.calls ++ [p], s.en, s.le⟩ W' ∧ Kw (LM ob nb eb lb) W W'

set_option maxRecDepth 100000 in
set_option maxHeartbeats 16000000 in
theorem lcall_any (hS : LwS w0 ob nb eb lb vp vb pb P gs c D) (h : LwI w0 ob nb eb lb D s W) (x : Int) (b : Bool) :
    Calls Try.prog 6 #[.int .u64 x, .bool b, .pointer (some ⟨ob, 0, none⟩), .pointer (some ⟨nb, 0, none⟩), .pointer (some ⟨vp, 0, none⟩), .pointer (some ⟨pb, 0, none⟩)] W (LcE w0 ob nb eb lb P D s (x, b) W) := by
  have c1 : W.cell? ⟨ob, 0, none⟩ = some (.bool (decide (s.calls <+: D))) := by simp [World.cell?, h.ok]
  have f1 : W.frozen? ⟨ob, 0, none⟩ = false := by simp [World.frozen?, h.ok]
  have c2 : W.cell? ⟨nb, 0, none⟩ = some (.int .i64 (wrap64 (s.calls.length : Nat))) := by simp [World.cell?, h.n]
  have f2 : W.frozen? ⟨nb, 0, none⟩ = false := by simp [World.frozen?, h.n]
  have c3 : W.cell? ⟨vp, 0, none⟩ = some (.pointer (some ⟨vb, 0, none⟩)) := by rw [h.st hS.v.2.1 hS.v.2.2]; exact hS.v.1
  have c4 : W.cell? ⟨vb, 3, none⟩ = some (.slice (adr gs) D.length c) := by rw [h.st hS.cl.2.1 hS.cl.2.2]; exact hS.cl.1
  have c5 : W.cell? ⟨pb, 0, none⟩ = some (.int .i64 P) := by rw [h.st hS.p.2.1 hS.p.2.2]; exact hS.p.1
  have HC : Hid (∀ t q, D[t]? = some q → ∃ g, gs = some g ∧ W.cell? ⟨g, t * 2, none⟩ = some (.int .u64 q.1) ∧ W.cell? ⟨g, t * 2 + 1, none⟩ = some (.bool q.2)) := fun t q hq => by
    cases gs with
    | none => have := (hS.cs.1.1 rfl).1; subst this; simp at hq
    | some g =>
      have ho := hS.cs.1.2 g rfl
      have hcv : ∀ (l : List (Int × Bool)) t q, l[t]? = some q → (cv l)[t * 2]? = some (.int .u64 q.1) ∧ (cv l)[t * 2 + 1]? = some (.bool q.2) := by
        intro l
        induction l with
        | nil => intro t q h; simp at h
        | cons r l ih =>
          intro t q h
          cases t with
          | zero => simp at h; subst h; simp [cv]
          | succ t =>
            have := ih t q (by simpa using h)
            rw [show (t + 1) * 2 = t * 2 + 1 + 1 by omega]
            simpa [cv] using this
      exact ⟨g, rfl, by rw [h.st ho.lt (hS.cs.2 g rfl)]; exact ho.cell (hcv D t q hq).1, by rw [h.st ho.lt (hS.cs.2 g rfl)]; exact ho.cell (hcv D t q hq).2⟩
  have HT : Hid (∀ r, decide ((s.calls ++ [(x, b)]) <+: D) = r → LwI w0 ob nb eb lb D ⟨s.calls ++ [(x, b)], s.en, s.le⟩ ((W.setCell ⟨ob, 0, none⟩ (.bool r)).setCell ⟨nb, 0, none⟩ (.int .i64 (wrap64 (((s.calls ++ [(x, b)]).length : Nat) : Int)))) ∧ Kw (LM ob nb eb lb) W ((W.setCell ⟨ob, 0, none⟩ (.bool r)).setCell ⟨nb, 0, none⟩ (.int .i64 (wrap64 (((s.calls ++ [(x, b)]).length : Nat) : Int))))) := fun r hr => by
    subst hr
    exact ⟨h.told hS _, LwI.kw⟩
  have HKP : Hid (∀ w1 w2 : World, Below w1.heap.size w1 w2 → LwI w0 ob nb eb lb D ⟨s.calls ++ [(x, b)], s.en, s.le⟩ w1 → LwI w0 ob nb eb lb D ⟨s.calls ++ [(x, b)], s.en, s.le⟩ w2) := fun w1 w2 hb hI => hI.keep hS hb.size (fun k h1 _ => hb.block k h1) hb.os hb.tape hb.output
  have hne : nb ≠ ob := Ne.symm hS.ap.1
  have hnep : pb ≠ ob ∧ pb ≠ nb := ⟨fun e => hS.p.2.2 (.inl e), fun e => hS.p.2.2 (.inr (.inl e))⟩
  have n2 : ∀ v, (W.setCell ⟨ob, 0, none⟩ v).cell? ⟨nb, 0, none⟩ = some (.int .i64 (wrap64 (s.calls.length : Nat))) := fun v => by rw [World.cell?_of_block (w := W) (Below.heap_setCell W _ v nb hne)]; exact c2
  have nf2 : ∀ v, (W.setCell ⟨ob, 0, none⟩ v).frozen? ⟨nb, 0, none⟩ = false := fun v => by rw [World.frozen?_of_block (w := W) (Below.heap_setCell W _ v nb hne)]; exact f2
  have n5 : ∀ v v', ((W.setCell ⟨ob, 0, none⟩ v).setCell ⟨nb, 0, none⟩ v').cell? ⟨pb, 0, none⟩ = some (.int .i64 P) := fun v v' => by rw [World.cell?_of_block (w := W.setCell ⟨ob, 0, none⟩ v) (Below.heap_setCell _ _ v' pb hnep.2), World.cell?_of_block (w := W) (Below.heap_setCell W _ v pb hnep.1)]; exact c5
  have HPS : Hid (decide ((s.calls ++ [(x, b)]) <+: D) = (decide (s.calls <+: D) && decide (D[s.calls.length]? = some (x, b)))) := by
    show _ = _
    rw [Bool.eq_iff_iff, Bool.and_eq_true, decide_eq_true_eq, decide_eq_true_eq, decide_eq_true_eq]
    exact pre_snoc
  have HLN : Hid (s.calls <+: D → s.calls.length ≤ D.length ∧ wrap64 ((s.calls.length : Nat) : Int) = (s.calls.length : Int)) := fun hp => by
    have h1 := hp.length_le
    have h2 := hS.len
    exact ⟨h1, by unfold wrap64; omega⟩
  have hzz : wrap64 (wrap64 ((s.calls.length : Nat) : Int) + 1) = wrap64 (((s.calls ++ [(x, b)]).length : Nat) : Int) := by
    rw [w64_next]; simp
  obtain ⟨z', hz'⟩ : ∃ z', wrap64 (((s.calls ++ [(x, b)]).length : Nat) : Int) = z' := ⟨_, rfl⟩
  obtain ⟨m, hm⟩ : ∃ m, s.calls.length = m := ⟨_, rfl⟩
  obtain ⟨z, hz⟩ : ∃ z, wrap64 ((s.calls.length : Nat) : Int) = z := ⟨_, rfl⟩
  obtain ⟨okb, hokb⟩ : ∃ okb, decide (s.calls <+: D) = okb := ⟨_, rfl⟩
  unfold LcE
  rw [hz'] at HT hzz ⊢
  rw [hz] at c2 n2 hzz HLN
  rw [hokb] at c1 HPS
  rw [hm] at HPS HLN
  have hcl := hS.len
  have HTP : Hid (∀ r, decide ((s.calls ++ [(x, b)]) <+: D) = r → LcE w0 ob nb eb lb P D s (x, b) W (.returned (.tuple #[])) ((W.setCell ⟨ob, 0, none⟩ (.bool r)).setCell ⟨nb, 0, none⟩ (.int .i64 z')) → True) := fun _ _ _ => trivial
  clear HTP hz' hz hm h hS
  -- the three ways
  have key : ∀ r, decide ((s.calls ++ [(x, b)]) <+: D) = r → (okb = false ∧ r = false) ∨ (okb = true ∧ ¬ z < (D.length : Int) ∧ r = false) ∨ (okb = true ∧ z = (m : Int) ∧ m < D.length ∧ ∃ q, D[m]? = some q ∧ r = (q.1 == x && q.2 == b)) := fun r hr => by
    rw [HPS.out] at hr
    cases okb with
    | false => exact .inl ⟨rfl, by simpa using hr.symm⟩
    | true =>
      obtain ⟨h1, h2⟩ := HLN.out (by simpa using hokb)
      by_cases hlt : m < D.length
      · right; right
        obtain ⟨q, hq⟩ : ∃ q, D[m]? = some q := ⟨_, List.getElem?_eq_getElem hlt⟩
        refine ⟨rfl, h2, hlt, q, hq, ?_⟩
        rw [← hr, hq]
        obtain ⟨q1, q2⟩ := q
        by_cases e1 : q1 = x
        · by_cases e2 : q2 = b
          · simp [e1, e2]
          · simp [e1, e2]
        · simp [e1]
      · right; left
        refine ⟨rfl, by omega, ?_⟩
        rw [← hr, List.getElem?_eq_none (by omega)]
        simp
  obtain ⟨r, hr⟩ : ∃ r, decide ((s.calls ++ [(x, b)]) <+: D) = r := ⟨_, rfl⟩
  obtain ⟨ht1, ht2⟩ := HT.out r hr
  have HF : Hid (LwI w0 ob nb eb lb D ⟨s.calls ++ [(x, b)], s.en, s.le⟩ ((W.setCell ⟨ob, 0, none⟩ (.bool r)).setCell ⟨nb, 0, none⟩ (.int .i64 z')) ∧ Kw (LM ob nb eb lb) W ((W.setCell ⟨ob, 0, none⟩ (.bool r)).setCell ⟨nb, 0, none⟩ (.int .i64 z'))) := ⟨ht1, ht2⟩
  have hk := key r hr
  have HP := Pan_any
  have heq := eql_ca
  clear key HT HPS HLN hokb ht1 ht2 hr
  rcases hk with ⟨rfl, rfl⟩ | ⟨rfl, hlt, rfl⟩ | ⟨rfl, rfl, hlt, q, hq, hrq⟩
  · clear c3 c4 HC
    by_cases hP : z' = P
    · subst hP
      simp only [if_true]
      have hPb : (z' == z') = true := by simp
      go_enter Try.func6, Try.ntmps6
      go_wp2_with fail
      go_region
      go_wp2_with fail
      refine (HP _ _).mono ?_
      rintro e w2 ⟨⟨v, rfl⟩, hb⟩
      exact ⟨rfl, ⟨v, rfl⟩, HKP.out _ _ hb HF.out.1.drew, HF.out.2.drew.trans ⟨hb.os, hb.tape, hb.output, hb.size, fun j h1 _ => hb.block j h1⟩⟩
    · have hPb : (z' == P) = false := by simpa using hP
      simp only [if_neg hP]
      go_enter Try.func6, Try.ntmps6
      go_wp2_with fail
      go_region
      go_wp2_with fail
      go_end0
      exact ⟨rfl, HF.out.1.drew, HF.out.2.drew⟩
  · clear HC
    have hltb : decide (z < (D.length : Int)) = false := decide_eq_false hlt
    by_cases hP : z' = P
    · subst hP
      simp only [if_true]
      have hPb : (z' == z') = true := by simp
      go_enter Try.func6, Try.ntmps6
      go_wp2_with fail
      go_region
      go_wp2_with fail
      refine (HP _ _).mono ?_
      rintro e w2 ⟨⟨v, rfl⟩, hb⟩
      exact ⟨rfl, ⟨v, rfl⟩, HKP.out _ _ hb HF.out.1.drew, HF.out.2.drew.trans ⟨hb.os, hb.tape, hb.output, hb.size, fun j h1 _ => hb.block j h1⟩⟩
    · have hPb : (z' == P) = false := by simpa using hP
      simp only [if_neg hP]
      go_enter Try.func6, Try.ntmps6
      go_wp2_with fail
      go_region
      go_wp2_with fail
      go_end0
      exact ⟨rfl, HF.out.1.drew, HF.out.2.drew⟩
  · obtain ⟨g, rfl, y1, y2⟩ := HC.out m q hq
    have hltz : (m : Int) < (D.length : Int) := by omega
    have ea : adr (some g) = some ⟨g, 0, none⟩ := rfl
    obtain ⟨q1, q2⟩ := q
    simp only at y1 y2 hrq
    subst hrq
    have hz1 : z' = (m : Int) + 1 := by rw [← hzz]; unfold wrap64; omega
    clear HC hq hzz
    by_cases hP : z' = P
    · have hPb : ((m : Int) + 1 == P) = true := by rw [← hP, hz1]; simp
      simp only [if_pos hP]
      have hPm : P = (m : Int) + 1 := by rw [← hP, hz1]
      clear hP
      subst hz1
      subst hPm
      go_enter Try.func6, Try.ntmps6
      go_wp2_with fail
      go_region
      go_wp2_with fail
      refine (HP _ _).mono ?_
      rintro e w2 ⟨⟨v, rfl⟩, hb⟩
      exact ⟨rfl, ⟨v, rfl⟩, HKP.out _ _ hb HF.out.1.drew, HF.out.2.drew.trans ⟨hb.os, hb.tape, hb.output, hb.size, fun j h1 _ => hb.block j h1⟩⟩
    · simp only [if_neg hP]
      subst hz1
      have hPb : ((m : Int) + 1 == P) = false := by simpa using hP
      clear hP
      go_enter Try.func6, Try.ntmps6
      go_wp2_with fail
      go_region
      go_wp2_with fail
      go_end0
      exact ⟨rfl, HF.out.1.drew, HF.out.2.drew⟩
end
end Go.Proofs.Ytghfikeakfiopaa

