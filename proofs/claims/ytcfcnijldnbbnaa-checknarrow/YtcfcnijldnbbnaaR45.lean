/- Plain mathematics: what is left of a term keeps within bounds as the term does. -/
import Derived.Test.YtcfcnijldnbbnaaR38
import Derived.Test.YtcfcnijldnbbnaaR44
namespace Go.Proofs.Ytcfcnijldnbbnaa
open Go.RowKit

def Sp.Bd (f : Tm → Nar) : Prop := ∀ x y w, f x = some (y, w) → x.Bdd → y.Bdd
theorem Sp.narL_bd {f : Tm → Nar} (h : Sp.Bd f) : (l : TmL) → l.Bdd → (Sp.narL f l).1.Bdd
  | .nil, _ => by simp [Sp.narL, TmL.Bdd]
  | .cons x l, hb => by
    simp only [TmL.Bdd] at hb
    have ih := Sp.narL_bd h l hb.2
    simp only [Sp.narL]
    cases e : f x with
    | none => exact ih
    | some r =>
      obtain ⟨y, w⟩ := r
      simp only [TmL.Bdd]
      exact ⟨h x y w e hb.1, ih⟩
theorem Sp.keepF_bd {m : ByteArray} {a : Nar} {q : Option (TmF × Bool)} {s : TmF} {w : Bool} (h : Sp.keepF m a q = some (s, w)) (ha : ∀ y w, a = some (y, w) → y.Bdd) (hq : ∀ t u, q = some (t, u) → t.Bdd) : s.Bdd := by
  obtain ⟨t, u, e, ⟨-, rfl⟩ | ⟨y, w', e2, rfl⟩⟩ := Sp.keepF_some h
  · exact hq _ _ e
  · simp only [TmF.Bdd]; exact ⟨ha y w' e2, hq t u e⟩
theorem Sp.narD_bd (op : Bool) : (N : Nat) → ∀ (ns : List ByteArray) (ks : List Bool) (fs : List (Tm → Nar)) (l r : TmF) (w : Bool), (∀ f ∈ fs, Sp.Bd f) → l.Bdd → Sp.narD op N ns ks fs l = some (r, w) → r.Bdd
  | 0, ns, ks, fs, l, r, w, _, _, h => by simp [Sp.narD] at h; rw [← h.1]; simp [TmF.Bdd]
  | N + 1, [], ks, fs, .nil, r, w, _, _, h => by simp [Sp.narD] at h; rw [← h.1]; simp [TmF.Bdd]
  | N + 1, [], ks, fs, .cons m x l, r, w, hf, hb, h => by
    simp only [TmF.Bdd] at hb
    simp only [Sp.narD] at h
    refine Sp.keepF_bd h (fun y w e => ?_) (fun t u e => Sp.narD_bd op N [] [] [] l t u (by simp) hb.2 e)
    cases op <;> simp at e
    rw [← e.1]; exact hb.1
  | N + 1, n :: ns, [], fs, l, r, w, hf, hb, h => by simp [Sp.narD] at h; rw [← h.1]; simp [TmF.Bdd]
  | N + 1, n :: ns, k :: ks, [], l, r, w, hf, hb, h => by simp [Sp.narD] at h; rw [← h.1]; simp [TmF.Bdd]
  | N + 1, n :: ns, k :: ks, f :: fs, .nil, r, w, hf, hb, h => by
    simp only [Sp.narD] at h
    cases k with
    | false => simp at h
    | true => exact Sp.narD_bd op N ns ks fs .nil r w (fun g hg => hf g (List.mem_cons_of_mem _ hg)) hb (by simpa using h)
  | N + 1, n :: ns, k :: ks, f :: fs, .cons m x l, r, w, hf, hb, h => by
    have hb' := hb
    simp only [TmF.Bdd] at hb
    simp only [Sp.narD] at h
    split at h
    · cases k with
      | false => simp at h
      | true => exact Sp.narD_bd op N ns ks fs _ r w (fun g hg => hf g (List.mem_cons_of_mem _ hg)) hb' (by simpa using h)
    · split at h
      · refine Sp.keepF_bd h (fun y w e => ?_) (fun t u e => Sp.narD_bd op N (n :: ns) (k :: ks) (f :: fs) l t u hf hb.2 e)
        cases op <;> simp at e
        rw [← e.1]; exact hb.1
      · have hr := fun t u e => Sp.narD_bd op N ns ks fs l t u (fun g hg => hf g (List.mem_cons_of_mem _ hg)) hb.2 e
        cases e : f x with
        | none =>
          rw [e] at h
          cases k with
          | false => simp at h
          | true => exact Sp.keepF_bd (by simpa using h) (fun y w e => by cases e) hr
        | some q =>
          rw [e] at h
          obtain ⟨y, wh⟩ := q
          exact Sp.keepF_bd h (fun y' w' e' => by injection e' with e'; injection e' with e1 e2; subst e1; exact hf f (List.mem_cons_self ..) x y wh e hb.1) hr
theorem Tm.setL_bd (v : Tm) (l : TmL) (h : v.Bdd) (hl : l.Bdd) : (v.setL l).Bdd := by
  cases v; simp only [Tm.setL, Tm.Bdd] at h ⊢; exact ⟨h.1, h.2.1, h.2.2.1, h.2.2.2.1, hl, h.2.2.2.2.2⟩
theorem Tm.setF_bd (v : Tm) (l : TmF) (h : v.Bdd) (hl : l.Bdd) : (v.setF l).Bdd := by
  cases v; simp only [Tm.setF, Tm.Bdd] at h ⊢; exact ⟨h.1, h.2.1, h.2.2.1, h.2.2.2.1, h.2.2.2.2.1, hl⟩
theorem Tm.lst_bd (v : Tm) (h : v.Bdd) : v.lst.Bdd ∧ v.flds.Bdd := by
  cases v; simp only [Tm.Bdd] at h; exact ⟨h.2.2.2.2.1, h.2.2.2.2.2⟩
mutual
theorem Ty.nar_bd : (t : Ty) → Sp.Bd t.nar
  | .mk k o t p n l op c => fun x y w h hb => by
    rw [Ty.nar] at h
    split at h
    · injection h with h; injection h with h1 h2; subst h1
      exact Tm.setL_bd x _ hb (TyL.nar_bdH p x.lst (Tm.lst_bd x hb).1)
    · split at h
      · cases e : Sp.narD op (n.length + x.flds.len) n l p.narFns x.flds with
        | none => rw [e] at h; simp at h
        | some r =>
          rw [e] at h
          simp only [Option.map_some, Option.some.injEq, Prod.mk.injEq] at h
          rw [← h.1]
          exact Tm.setF_bd x _ hb (Sp.narD_bd op _ n l p.narFns x.flds r.1 r.2 (TyL.nar_bdF p) (Tm.lst_bd x hb).2 e)
      · split at h
        · exact (TyL.nar_bdU p x hb none y w h).elim (fun e => by cases e) id
        · split at h
          · injection h with h; injection h with h1 h2; subst h1; exact hb
          · cases h
theorem TyL.nar_bdH : (p : TyL) → ∀ l : TmL, l.Bdd → (p.narHead l).1.Bdd
  | .nil, l, _ => by simp [TyL.narHead, TmL.Bdd]
  | .cons t p, l, hb => by simp only [TyL.narHead]; exact Sp.narL_bd (Ty.nar_bd t) l hb
theorem TyL.nar_bdF : (p : TyL) → ∀ f ∈ p.narFns, Sp.Bd f
  | .nil => by simp [TyL.narFns]
  | .cons t p => fun f hf => by
    simp only [TyL.narFns] at hf
    rcases List.mem_cons.1 hf with rfl | hf
    · exact Ty.nar_bd t
    · exact TyL.nar_bdF p f hf
theorem TyL.nar_bdU : (p : TyL) → ∀ v : Tm, v.Bdd → ∀ (first : Nar) y w, p.narU v first = some (y, w) → first = some (y, w) ∨ y.Bdd
  | .nil, v, _, first, y, w, h => by simp only [TyL.narU] at h; exact .inl h
  | .cons t p, v, hb, first, y, w, h => by
    simp only [TyL.narU] at h
    cases e : t.nar v with
    | none => rw [e] at h; exact TyL.nar_bdU p v hb first y w h
    | some r =>
      obtain ⟨x, wx⟩ := r
      have hx := Ty.nar_bd t v x wx e hb
      rw [e] at h
      cases wx with
      | true => simp only [Option.some.injEq, Prod.mk.injEq] at h; rw [← h.1]; exact .inr hx
      | false =>
        rcases TyL.nar_bdU p v hb _ y w h with q | q
        · cases first with
          | none => simp only [Option.some.injEq, Prod.mk.injEq] at q; rw [← q.1]; exact .inr hx
          | some f => exact .inl q
        · exact .inr q
end
end Go.Proofs.Ytcfcnijldnbbnaa

