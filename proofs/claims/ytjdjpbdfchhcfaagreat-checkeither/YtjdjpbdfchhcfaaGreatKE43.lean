/- check.has of a dict's type; of every type; check.Is. -/
import Derived.Test.YtjdjpbdfchhcfaaGreatKE41
import Derived.Test.YtjdjpbdfchhcfaaGreatKE29
import Derived.Test.YtjdjpbdfchhcfaaGreatKE30
namespace Go.Proofs.YtjdjpbdfchhcfaaGreat
open Go.RowKit

theorem Sp.hasD_all (op : Bool) (n : List ByteArray) (l : List Bool) (fs : List (Tm → Bool × Int)) (F : TmF) (h1 : l.length = n.length) (h2 : fs.length = n.length) : Sp.hasD op (n.length + F.len) n l fs F 1 = Sp.firstBad (Sp.stepD op l fs F.vals) (Sp.mrg (n.length + F.len) 0 0 n F.names) :=
  Sp.hasD_mrg op l fs F.vals _ 0 0 n l fs F 1 h1 h2 (fun k => by rw [Nat.zero_add]) (fun k => by rw [Nat.zero_add]) (fun k => by rw [Nat.zero_add]) (fun k => by rw [Nat.zero_add]; simp [TmL.pre]) (by simp [TmL.pre])
theorem Tm.good_len {b : Bool} {i : Int} {f : Nat} {tx by' : ByteArray} {rf : Int} {l : TmL} {fs : TmF} {c : ByteArray} {v : Int} (h : (Tm.mk 9 b i f tx by' rf l fs c v).all.e = 0) : fs.len ≤ 4096 := by
  unfold Tm.all at h
  rw [Tm.wk] at h
  by_cases h0 : (Tm.mk 9 b i f tx by' rf l fs c v).own 0 1 ≠ 0
  · rw [if_pos h0] at h; exact absurd h h0
  have h0 := Decidable.not_not.1 h0
  simp only [Tm.own] at h0
  by_cases he : Sp.ent 9 0 1 ≠ 0
  · rw [if_pos he] at h0; exact absurd h0 he
  rw [if_neg he] at h0
  simp at h0
  unfold Sp.fieldsR at h0
  split at h0
  · omega
  · rename_i hn; rw [TmF.names_len] at hn; omega

set_option maxRecDepth 100000 in
set_option maxHeartbeats 4000000 in
theorem has_6 (N : Nat) (HC : HasC N) (o : Int) (t : Tm) (p : TyL) (n : List ByteArray) (l : List Bool) (op : Bool) (c : ByteArray) (hN : p.sz ≤ N) (hok : p.ok = true) (v : Tm) (x : Value) (b B : Nat) (w : World) (hg : v.all.e = 0) (hB : B ≤ w.heap.size) (hb : b < B) (hv : v.V w (Lo B) x) (c0 : w.cell? ⟨b, 0, none⟩ = some (.int .i64 6))
    (ap an ak : Option Addr) (cp cn ck : Nat) (c4 : w.cell? ⟨b, 4, none⟩ = some (.slice ap p.len cp)) (c5 : w.cell? ⟨b, 5, none⟩ = some (.slice an n.length cn)) (c6 : w.cell? ⟨b, 6, none⟩ = some (.slice ak l.length ck)) (c7 : w.cell? ⟨b, 7, none⟩ = some (.bool op))
    (hNS : NamesAt w (Lo B) an n) (hKS : BoolsAt w (Lo B) ak l) (hp : p.Sh w (Lo B) ap 0) (hl1 : n.length = p.len) (hl2 : n.length = l.length) (hl3 : n.length ≤ 4096) :
    Calls Tryz.prog 45 #[.pointer (some ⟨b, 0, none⟩), x] w (HasE (Ty.mk 6 o t p n l op c) v w) := by
  have hbw : b < w.heap.size := by omega
  have HB : Hid (∀ o, Below w.heap.size w (w.alloc o)) := fun o => (Below.refl _ _).alloc (Nat.le_refl _) _
  have H : Hid ((Ty.mk 6 o t p n l op c).has v = if v.knd = 9 then Sp.hasD op (n.length + v.flds.len) n l p.fns v.flds 1 else (false, 0)) := by show _ = _; simp [Ty.has]
  by_cases hk : v.knd = 9
  · cases v with
    | mk k b2 i f tx by' rf l' fs c' vr =>
      have hk' : k = 9 := hk
      subst hk'
      have hgp2 := (Tm.good_parts hg).2 (.inl rfl)
      have hgl := Tm.good_len hg
      simp only [Tm.V] at hv
      obtain ⟨-, -, -, -, -, -, -, -, h9, -, -, -⟩ := hv
      obtain ⟨a, cap, rfl, hln, hlv⟩ := h9 trivial
      have hcp := hln.cap
      unfold maxLen at hcp
      have HE : Hid ((Ty.mk 6 o t p n l op c).has (Tm.mk 9 b2 i f tx by' rf l' fs c' vr) = Sp.firstBad (Sp.stepD op l p.fns fs.vals) (Sp.mrg (n.length + fs.len) 0 0 n fs.names)) := by
        show _ = _; rw [H.out, if_pos hk]; exact Sp.hasD_all op n l p.fns fs hl2.symm (by rw [TyL.fns_len]; exact hl1.symm)
      have HL : Hid (∀ W, Below w.heap.size w W → Calls Tryz.prog 85 #[.pointer (some ⟨b, 0, none⟩), .slice a fs.len cap] W fun e w' => e = .returned (.tuple #[.bool (Sp.firstBad (Sp.stepD op l p.fns fs.vals) (Sp.mrg (n.length + fs.len) 0 0 n fs.names)).1, .int .i64 (Sp.firstBad (Sp.stepD op l p.fns fs.vals) (Sp.mrg (n.length + fs.len) 0 0 n fs.names)).2]) ∧ Below W.heap.size W w') := fun W hW => by
        have hs : Same (Lo B) w W := fun k hk => hW.block k (Nat.lt_of_lt_of_le hk hB)
        exact hasDict_any N HC p hN hok n l op fs a cap b B ap an ak cp cn ck W (Nat.le_trans hB hW.size) hb (by rw [hs.cell (p := ⟨b, 4, none⟩) hb]; exact c4) (by rw [hs.cell (p := ⟨b, 5, none⟩) hb]; exact c5) (by rw [hs.cell (p := ⟨b, 6, none⟩) hb]; exact c6) (by rw [hs.cell (p := ⟨b, 7, none⟩) hb]; exact c7)
          (hNS.same hs (fun _ h => h)) (hKS.same hs (fun _ h => h)) (p.Sh_same hs (fun _ h => h) ap 0 hp) (fs.V_same hs (fun _ h => h) a 0 hlv) hgp2.1 hgp2.2 hl1 hl2.symm hl3 hgl hcp.1 (by omega)
      clear H hk hg hB hb h9 hln hlv HC hgp2 hcp c4 c5 c6 c7 hNS hKS hp hl1 hl2 hl3 hgl
      generalize Sp.firstBad (Sp.stepD op l p.fns fs.vals) (Sp.mrg (n.length + fs.len) 0 0 n fs.names) = r at *
      obtain ⟨rb, rq⟩ := r
      go_enter Tryz.func45, Tryz.ntmps45
      go_wp2_with fail
      refine (HL.out _ (HB.out _)).mono ?_
      rintro e w1 ⟨rfl, hb1⟩
      have H1 : Hid (Below w.heap.size w w1) := (HB.out _).trans (hb1.mono (by simp))
      clear hb1
      go_wp2_with fail
      go_ret2
      exact HasE.of HE.out H1.out
  · have hx := (Tm.V_other hv hg).2.1 hk
    have HE : Hid ((Ty.mk 6 o t p n l op c).has v = (false, 0)) := by show _ = _; rw [H.out, if_neg hk]
    clear H hk hg hB hb hv c4 c5 c6 c7 hNS hKS hp HC hl1 hl2 hl3
    rcases hx with rfl | ⟨T, y, rfl, hT⟩
    all_goals
      go_enter Tryz.func45, Tryz.ntmps45
      go_wp2_with fail
      go_ret2
      exact HasE.of HE.out (HB.out _)

theorem Tm.kindC {v : Tm} {x : Value} {B : Nat → Prop} {w : World} (hv : v.V w B x) (hg : v.all.e = 0) : KindC x v.knd := by
  have h := kindOf_any v x B w hv
  have ho := Tm.ok_all hg
  cases v with
  | mk k b i f tx by' rf l fs c vr =>
    obtain ⟨q1, q2, -, -⟩ := ho.parts
    have e : (Tm.mk k b i f tx by' rf l fs c vr).kindK = k := by
      unfold Tm.kindK
      rw [if_neg (by show ¬ (k < 1 ∨ 11 < k); omega)]; rfl
    rw [e] at h; exact h
theorem has_any : ∀ N, HasC N
  | 0 => fun t h => by cases t; simp [Ty.sz] at h
  | N + 1 => fun t hN hok v x b B w hg hv hsh hB => by
    cases t with
    | mk k o t p n l op c =>
      have hN' : p.sz ≤ N := by simp only [Ty.sz] at hN; omega
      have hsh' := hsh
      simp only [Ty.Sh] at hsh
      obtain ⟨hb, o', u, s, ap, np, cp, an, nn, cn, ak, nk, ck, op', c', hh, h3, h4, h5, h6, h8, -⟩ := hsh
      have hb' : b < B := hb
      have hbw : b < w.heap.size := Nat.lt_of_lt_of_le hb hB
      have c0 : w.cell? ⟨b, 0, none⟩ = some (.int .i64 k) := by rw [cell_of_row _ _ _ _ _ _ hh]; rfl
      have hxs := v.V_shape x hv
      have how : (Ty.mk k o t p n l op c).own = true := by simp only [Ty.ok, Bool.and_eq_true] at hok; exact hok.1.1
      have hkk : k = 1 ∨ k = 2 ∨ k = 3 ∨ k = 4 ∨ k = 5 ∨ k = 6 ∨ k = 7 ∨ k = 8 := by
        simp only [Ty.own] at how
        (repeat' split at how) <;> simp_all <;> omega
      have hpo : Sp.parted k = true → p.ok = true := fun h => by simp only [Ty.ok, h, if_true, Bool.and_eq_true] at hok; exact hok.2
      rcases hkk with rfl | rfl | rfl | rfl | rfl | rfl | rfl | rfl
      · exact has_1 1 o t p n l op c v x b w hxs hbw c0 (.inl rfl)
      · exact has_1 2 o t p n l op c v x b w hxs hbw c0 (.inr rfl)
      · have e := h3 rfl
        subst e
        exact has_3 o' t p n l op c v x b w hxs hbw c0 (by rw [cell_of_row _ _ _ _ _ _ hh]; rfl) (Tm.kindC hv hg)
      · obtain ⟨q1, rfl⟩ := h4 rfl
        exact has_4 o t p n l op c v x u b B w hB hb' hv q1 c0 (by rw [cell_of_row _ _ _ _ _ _ hh]; rfl) (by rw [cell_of_row _ _ _ _ _ _ hh]; rfl)
      · obtain ⟨rfl, q2, q3⟩ := h5 rfl
        have hpl : p.len = 1 := by simpa [Ty.own] using how
        have hp' := hpo rfl
        cases p with
        | nil => simp [TyL.len] at hpl
        | cons t0 p' =>
          cases p' with
          | cons _ _ => simp [TyL.len] at hpl
          | nil =>
            simp only [TyL.Sh] at q3
            obtain ⟨g, o1, b', rfl, hgg, hc, hs', -⟩ := q3
            exact has_5 N (has_any N) o t t0 n l op c (by simp [TyL.sz] at hN'; omega) (by simpa [TyL.ok] using hp') v x b B w hg hB hb' hv c0 g o1 b' cp hgg (by rw [cell_of_row _ _ _ _ _ _ hh]; rfl) (by simpa using hc) hs'
      · obtain ⟨rfl, q2, q3⟩ := h5 rfl
        obtain ⟨rfl, rfl, rfl, r4, r5⟩ := h6 rfl
        simp [Ty.own] at how
        obtain ⟨⟨a1, a2⟩, a3⟩ := how
        simp only [Sp.namesFit, Bool.and_eq_true, decide_eq_true_eq] at a3
        exact has_6 N (has_any N) o t p n l op' c hN' (hpo rfl) v x b B w hg hB hb' hv c0 ap an ak cp cn ck (by rw [cell_of_row _ _ _ _ _ _ hh]; rfl) (by rw [cell_of_row _ _ _ _ _ _ hh]; rfl) (by rw [cell_of_row _ _ _ _ _ _ hh]; rfl) (by rw [cell_of_row _ _ _ _ _ _ hh]; rfl) r4 r5 q3 a1 a2 a3.1
      · obtain ⟨rfl, q2, q3⟩ := h5 rfl
        exact has_7 N (has_any N) o t p n l op c hN' (hpo rfl) v x b B w hg hB hb' hv c0 ap cp (by rw [cell_of_row _ _ _ _ _ _ hh]; rfl) q3 q2
      · have e := h8 rfl
        subst e
        exact has_8 o t p n l op c' v x b B w hg hB hb' hv c0 (by rw [cell_of_row _ _ _ _ _ _ hh]; rfl)
theorem Is_all (v : Tm) (x : Value) (t : Ty) (cs : Array Value) (B : Nat) (w : World) (hB : B ≤ w.heap.size) (hv : v.V w (Lo B) x) (ht : t.In w (Lo B) cs) :
    Calls Tryz.prog 22 #[x, .agg cs] w fun e w' => e = .returned (.tuple #[.bool (Sp.isA v t).1, .int .i64 (Sp.isA v t).2.1, .int .i64 (Sp.isA v t).2.2]) ∧ Below w.heap.size w w' := Is_of v x t cs B w has_any hB hv ht
end Go.Proofs.YtjdjpbdfchhcfaaGreat

