/- What ValueTerms needs of clean terms. -/
import Derived.Test.YtdklpdclbedceaaSa
import Derived.Test.YtdklpdclbedceaaSpoilT
import Derived.Test.YtdklpdclbedceaaOfV
import Derived.Test.YtdklpdclbedceaaRefCheck
import Derived.Test.YtdklpdclbedceaaPlBad
namespace Go.Proofs.Ytdklpdclbedceaa
open Go.RowKit

mutual
theorem Tm.V_clean {w : World} {B : Nat → Prop} : (t : Tm) → ∀ v, t.V w B v → t.clean.V w B v
  | .mk k b i f tx by' rf l fs c vr, v, h => by
    rw [Tm.clean]
    simp only [Tm.V] at h ⊢
    obtain ⟨h1, h2, h3, h4, h5, h6, h7, h8, h9, h10, h11, h12⟩ := h
    refine ⟨h1, fun e => ?_, fun e => ?_, fun e => ?_, fun e => ?_, fun e => ?_, fun e => ?_, fun e => ?_, fun e => ?_, fun e => ?_, h11, h12⟩
    · have := h2 e; subst e; simpa using this
    · have := h3 e; subst e; simpa using this
    · have := h4 e; subst e; simpa using this
    · have := h5 e; subst e; simpa using this
    · have := h6 e; subst e; simpa using this
    · have := h7 e; subst e; simpa using this
    · obtain ⟨a, cap, e1, e2, e3⟩ := h8 e
      subst e
      simp only [if_true, TmL.clean_len]
      exact ⟨a, cap, e1, e2, TmL.V_clean l _ _ e3⟩
    · obtain ⟨a, cap, e1, e2, e3⟩ := h9 e
      subst e
      simp only [true_or, if_true, TmF.clean_len]
      exact ⟨a, cap, e1, e2, TmF.V_clean fs _ _ e3⟩
    · obtain ⟨g, a, cap, e1, e2, e3, e4, e5, e6, e7, e8⟩ := h10 e
      subst e
      simp only [or_true, if_true, TmF.clean_len]
      exact ⟨g, a, cap, e1, e2, e3, e4, e5, e6, e7, TmF.V_clean fs _ _ e8⟩
theorem TmL.V_clean {w : World} {B : Nat → Prop} : (l : TmL) → ∀ a j, l.V w B a j → l.clean.V w B a j
  | .nil, _, _, _ => by simp [TmL.clean, TmL.V]
  | .cons t l, a, j, h => by
    simp only [TmL.clean, TmL.V] at h ⊢
    obtain ⟨g, o, v, e, hg, hc, ht, hl⟩ := h
    exact ⟨g, o, v, e, hg, hc, Tm.V_clean t _ ht, TmL.V_clean l _ _ hl⟩
theorem TmF.V_clean {w : World} {B : Nat → Prop} : (l : TmF) → ∀ a j, l.V w B a j → l.clean.V w B a j
  | .nil, _, _, _ => by simp [TmF.clean, TmF.V]
  | .cons n t l, a, j, h => by
    simp only [TmF.clean, TmF.V] at h ⊢
    obtain ⟨g, o, v, e, hg, hc, hd, hn, ht, hl⟩ := h
    exact ⟨g, o, v, e, hg, hc, hd, hn, Tm.V_clean t _ ht, TmF.V_clean l _ _ hl⟩
end
mutual
theorem Tm.clean_clean : (t : Tm) → t.clean.clean = t.clean
  | .mk k b i f tx by' rf l fs c vr => by
    simp only [Tm.clean, Tm.mk.injEq, true_and]
    refine ⟨?_, ?_, ?_, ?_, ?_, ?_, ?_, ?_, ?_, ?_⟩
    all_goals (split <;> first | rfl | exact TmL.clean_clean l | exact TmF.clean_clean fs | simp_all)
theorem TmL.clean_clean : (l : TmL) → l.clean.clean = l.clean
  | .nil => rfl
  | .cons t l => by simp only [TmL.clean, Tm.clean_clean t, TmL.clean_clean l]
theorem TmF.clean_clean : (l : TmF) → l.clean.clean = l.clean
  | .nil => rfl
  | .cons n t l => by simp only [TmF.clean, Tm.clean_clean t, TmF.clean_clean l]
end
theorem Tm.clean_ok {t : Tm} (h : t.all.e = 0) : t.clean.Ok := ⟨1, 0, 0, by have := Tm.clean_all t; unfold Tm.all at this h; rw [this]; exact h⟩
theorem Far.dc {D E : Nat → Prop} {w w1 w2 : World} (h : Far D w w1) (k : Dc E w1 w2) (hE : ∀ k, E k → D k) : Far D w w2 :=
  ⟨k.os.trans h.os, k.tape.trans h.tape, k.output.trans h.output, Nat.le_trans h.size k.size, fun i hi hn => (k.far i (Nat.lt_of_lt_of_le hi h.size) (fun e => hn (hE i e))).trans (h.block i hi hn)⟩
/-- spoil of a term that lies in B, whose blocks can be written -/
theorem spoil_term (t : Tm) (cs : Array Value) (B : Nat → Prop) (w : World) (h : t.In w B cs) (hB : Sub B w) (hS : ∀ k, B k → Soft w k) : Calls Try.prog 17 #[.agg cs] w fun e w' => e = .returned (.tuple #[]) ∧ Dc B w w' :=
  spoilT_any t.sz cs B w (t.wt cs h) hB hS
/-- same of two terms that lie in whatever blocks -/
theorem same_two (t : Tm) (ca cb : Array Value) (S1 S2 : Nat → Prop) (w : World) (h1 : t.clean.In w S1 ca) (h2 : t.clean.In w S2 cb) (hS1 : Sub S1 w) (hS2 : Sub S2 w) (he : t.all.e = 0) : Calls Try.prog 15 #[.agg ca, .agg cb] w fun e w' => e = .returned (.bool true) ∧ Below w.heap.size w w' :=
  same_any t.clean.sz t.clean (Nat.le_refl _) ca cb (fun k => S1 k ∨ S2 k) w (t.clean.In_same (Same.refl _ _) (fun _ h => .inl h) ca h1) (t.clean.In_same (Same.refl _ _) (fun _ h => .inr h) cb h2) (fun k hk => hk.elim (hS1 k) (hS2 k)) (Tm.clean_ok he) (Tm.clean_clean t)
theorem is_two (t : Tm) (v : Value) (cb : Array Value) (S1 S2 : Nat → Prop) (w : World) (h1 : t.V w S1 v) (h2 : t.clean.In w S2 cb) (hS1 : Sub S1 w) (hS2 : Sub S2 w) (he : t.all.e = 0) : Calls Try.prog 14 #[v, .agg cb] w fun e w' => e = .returned (.bool true) ∧ Below w.heap.size w w' :=
  Is_any t.clean v cb w (fun k => S1 k ∨ S2 k) (t.clean.V_same (Same.refl _ _) (fun _ h => .inl h) v (t.V_clean v h1)) (t.clean.In_same (Same.refl _ _) (fun _ h => .inr h) cb h2) (fun k hk => hk.elim (hS1 k) (hS2 k)) (by rw [Tm.clean_all]; exact he)
end Go.Proofs.Ytdklpdclbedceaa
