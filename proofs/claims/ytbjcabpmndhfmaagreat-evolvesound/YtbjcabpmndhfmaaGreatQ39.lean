/- tenonref07.dict; tenonref07.is of a dict's type. -/
import Derived.Test.YtbjcabpmndhfmaaGreatQ38
import Derived.Test.YtbjcabpmndhfmaaGreatQ17
import Derived.Test.YtbjcabpmndhfmaaGreatQ12
import Derived.Test.YtbjcabpmndhfmaaGreatQ27
namespace Go.Proofs.YtbjcabpmndhfmaaGreat
open Go.RowKit

set_option maxRecDepth 100000 in
set_option maxHeartbeats 4000000 in
theorem rdict_any (N0 : Nat) (HC : RIsC N0) (NS : List ByteArray) (KS : List Bool) (P : TyL) (hPN : P.sz ≤ N0) (hPo : P.ok = true) (op : Bool) (F : TmF) (ct cs : Array Value) (B : Nat → Prop) (w : World) (at_ : Int) (af ap an ak : Option Addr) (cf cp cn ck : Nat)
    (hB : Sub B w) (h8 : ct[8]? = some (.slice af F.len cf)) (h13 : cs[13]? = some (.slice ap NS.length cp)) (h14 : cs[14]? = some (.slice an NS.length cn)) (h15 : cs[15]? = some (.slice ak NS.length ck)) (h16 : cs[16]? = some (.bool op))
    (hP : P.In w B ap 0) (hNS : NamesAt w B an NS) (hKS : BoolsAt w B ak KS) (hF : F.In w B af 0) (hgd : F.gd) (h0 : 0 ≤ at_) (h1 : at_ + 1 + F.pn ≤ 16384) (hl1 : P.len = NS.length) (hl2 : KS.length = NS.length) (hl3 : NS.length ≤ 4096) (hl4 : F.len ≤ 16384) :
    Calls Tryz.prog 59 #[.agg ct, .agg cs, .int .i64 at_] w (RIsE (Sp.hasD op (NS.length + F.len) NS KS P.fns F 1) at_ w) := by
  obtain ⟨W2, hW2, hb, hsz, b0, b1⟩ := is_boxes w ct cs
  have HB : Hid (Below w.heap.size w W2) := hb
  have HX : Hid (∀ W, Below W2.heap.size W2 W → W.cell? ⟨w.heap.size, 8, none⟩ = some (.slice af F.len cf) ∧ W.cell? ⟨w.heap.size + 1, 13, none⟩ = some (.slice ap NS.length cp) ∧ W.cell? ⟨w.heap.size + 1, 14, none⟩ = some (.slice an NS.length cn) ∧ W.cell? ⟨w.heap.size + 1, 15, none⟩ = some (.slice ak NS.length ck) ∧ W.cell? ⟨w.heap.size + 1, 16, none⟩ = some (.bool op) ∧ Below w.heap.size w W) := fun W hW => by
    have hbw := hb.trans (hW.mono hb.size)
    have e1 : ∀ j, W.cell? ⟨w.heap.size + 1, j, none⟩ = cs[j]? := fun j => by rw [hW.cell (p := ⟨w.heap.size + 1, j, none⟩) (by show w.heap.size + 1 < _; omega), cell_of_row _ _ _ _ _ _ b1]
    exact ⟨by rw [hW.cell (p := ⟨w.heap.size, 8, none⟩) (by show w.heap.size < _; omega), cell_of_row _ _ _ _ _ _ b0]; exact h8, by rw [e1]; exact h13, by rw [e1]; exact h14, by rw [e1]; exact h15, by rw [e1]; exact h16, hbw⟩
  have H0 : Hid (P.In w B ap 0 ∧ NamesAt w B an NS ∧ BoolsAt w B ak KS ∧ F.In w B af 0 ∧ F.gd ∧ Sub B w ∧ RIsC N0) := ⟨hP, hNS, hKS, hF, hgd, hB, HC⟩
  have HNA : Hid (∀ W k s, Below w.heap.size w W → NS[k]? = some s → ∃ g o, an = some ⟨g, o, none⟩ ∧ W.cell? ⟨g, o + k, none⟩ = some (.string s)) := fun W k s hW hk => by
    obtain ⟨g, o, e, hg, hc, _⟩ := hNS k s hk
    exact ⟨g, o, e, by rw [(hB.same hW).cell (p := ⟨g, o + k, none⟩) hg]; exact hc⟩
  have HKA : Hid (∀ W k s, Below w.heap.size w W → KS[k]? = some s → ∃ g o, ak = some ⟨g, o, none⟩ ∧ W.cell? ⟨g, o + k, none⟩ = some (.bool s)) := fun W k s hW hk => by
    obtain ⟨g, o, e, hg, hc⟩ := hKS k s hk
    exact ⟨g, o, e, by rw [(hB.same hW).cell (p := ⟨g, o + k, none⟩) hg]; exact hc⟩
  obtain ⟨RES, HRES⟩ : ∃ RES : Bool × Int, Hid (RES = Sp.hasD op (NS.length + F.len) NS KS P.fns F 1) := ⟨_, show _ = _ from rfl⟩
  rw [← HRES.out]
  have HLL : Hid (P.len = NS.length ∧ KS.length = NS.length) := ⟨hl1, hl2⟩
  clear HC hB hb hsz b0 b1 h8 h13 h14 h15 h16 hP hNS hKS hF hgd hl1 hl2
  have hFp := F.pn_pos
  have hpp : ∀ j, 0 ≤ F.vals.pre j ∧ F.vals.pre j ≤ F.pn := fun j => by have := F.vals.pre_bd j; rw [TmF.vals_pn] at this; exact this
  go_enter Tryz.func59, Tryz.ntmps59
  go_wp2_with fail
  go_loopw [8, 9, 10] (fun q x y wr => ∃ (k i M : Nat) (ns : List ByteArray) (ks : List Bool) (ps : TyL) (l : TmF), q = .int .i64 (at_ + 1 + F.vals.pre i) ∧ x = .int .i64 k ∧ y = .int .i64 i ∧ k + ns.length = NS.length ∧ i + l.len = F.len ∧ ps.sz ≤ N0 ∧ ps.ok = true ∧
      Hid (Below W2.heap.size W2 wr ∧ ps.In w B ap k ∧ l.In w B af i ∧ l.gd ∧ ks.length = ns.length ∧ ps.len = ns.length ∧ ns.length + l.len ≤ M ∧ RES = Sp.hasD op M ns ks ps.fns l (1 + F.vals.pre i) ∧ (∀ j, NS[k + j]? = ns[j]?) ∧ (∀ j, KS[k + j]? = ks[j]?) ∧ (∀ j, F.vals.pre (i + j) = F.vals.pre i + l.vals.pre j) ∧ F.vals.pre i + l.pn = F.pn))
    (fun _ x y _ => (NS.length - (intOf x).toNat) + (F.len - (intOf y).toNat))
  case atStart => exact ⟨0, 0, NS.length + F.len, NS, KS, P, F, by simp [TmL.pre], rfl, rfl, by simp, by simp, hPN, hPo, ⟨Below.refl _ _, H0.out.1, H0.out.2.2.2.1, H0.out.2.2.2.2.1, HLL.out.2, HLL.out.1, Nat.le_refl _, by rw [HRES.out]; simp [TmL.pre], fun j => by simp, fun j => by simp, fun j => by simp [TmL.pre], by simp [TmL.pre]⟩⟩
  case round =>
    obtain ⟨k, i, M, ns, ks, ps, l, rfl, rfl, rfl, hk, hi, hpN, hpo, HK⟩ := hrel
    obtain ⟨e8, e13, e14, e15, e16, hbw⟩ := HX.out wr HK.out.1
    have hpi := hpp i
    have hk0 : (0 : Int) ≤ (k : Int) := Int.natCast_nonneg _
    have hi0 : (0 : Int) ≤ (i : Int) := Int.natCast_nonneg _
    cases ns with
    | nil =>
      have hk' : k = NS.length := by simpa using hk
      subst hk'
      cases l with
      | nil =>
        have hi' : i = F.len := by simpa [TmF.len] using hi
        subst hi'
        have HR : Hid (RES = (true, 0) ∧ Below w.heap.size w wr) := ⟨by rw [HK.out.2.2.2.2.2.2.2.1]; cases M <;> simp [Sp.hasD], hbw⟩
        clear HK hk hi
        go_wp2_with fail
        go_ret2
        exact RIsE.yes (by rw [HR.out.1]) HR.out.2
      | cons m v l => 
        obtain ⟨hbw2, hpin, hlin, hgd, hks, hpl, hM, hres, hNN, hKK, hpre, hsum⟩ := HK.out
        simp only [TmF.In] at hlin
        obtain ⟨g, o1, cv, rfl, hgg, hnm, hnz, hcv, hvin, hlin'⟩ := hlin
        have hi1 : (i : Int) < (F.len : Int) := by simp [TmF.len] at hi; omega
        have hsame := H0.out.2.2.2.2.2.1.same hbw
        have en : wr.cell? ⟨g, o1 + i * 12, none⟩ = some (.string m) := by rw [hsame.cell (p := ⟨g, o1 + i * 12, none⟩) hgg]; exact hnm
        have hvp := v.pn_pos
        have hlp := l.pn_pos
        have hs2 : F.vals.pre i + v.pn + l.pn = F.pn := by simp only [TmF.pn] at hsum; omega
        have hvg := hgd.1
        have HP1 : Hid (F.vals.pre (i + 1) = F.vals.pre i + v.pn) := by show _ = _; rw [hpre 1]; simp [TmF.vals, TmL.pre]
        have hbww : ∀ W, Below wr.heap.size wr W → Below W2.heap.size W2 W := fun W hW => hbw2.trans (hW.mono hbw2.size)
        have HPL : Hid (∀ W, Below wr.heap.size wr W → (loadVar 38 ⟨g, o1 + i * 12 + 1, none⟩).run Tryz.prog W = .ok (.agg cv) W) := fun W hW => yldT (Tm.In_size hvin) (fun x hx => by rw [(H0.out.2.2.2.2.2.1.same (HX.out W (hbww W hW)).2.2.2.2.2).cell (p := ⟨g, o1 + i * 12 + 1 + x, none⟩) hgg]; exact hcv x hx)
        have HPC : Hid (∀ W, Below wr.heap.size wr W → Calls Tryz.prog 79 #[.agg cv] W fun e w' => e = .returned (.int .i64 v.pn) ∧ Below W.heap.size W w') := fun W hW => by
          have q4 := (HX.out W (hbww W hW)).2.2.2.2.2
          exact rparts_any v.sz v (Nat.le_refl _) (by omega) cv B W (v.In_same (H0.out.2.2.2.2.2.1.same q4) (fun _ h => h) cv hvin) (H0.out.2.2.2.2.2.1.later q4)
        have HNF : Hid (l.In w B (some ⟨g, o1, none⟩) (i + 1) ∧ l.gd ∧ (∀ j, F.vals.pre (i + 1 + j) = F.vals.pre (i + 1) + l.vals.pre j) ∧ F.vals.pre (i + 1) + l.pn = F.pn ∧ i + 1 + l.len = F.len) := ⟨hlin', hgd.2, fun j => by rw [HP1.out, show i + 1 + j = i + (j + 1) by omega, hpre (j + 1)]; simp only [TmF.vals, TmL.pre]; omega, by rw [HP1.out]; omega, by simp [TmF.len] at hi; omega⟩
        have HBW : Hid (Below W2.heap.size W2 wr) := hbw2
        obtain ⟨M, rfl⟩ : ∃ M', M = M' + 1 := ⟨M - 1, by simp [TmF.len] at hM; omega⟩

        have HR : Hid (RES = if op then Sp.hasD op M [] [] [] l (1 + F.vals.pre i + v.pn) else (false, 0)) := by show _ = _; rw [hres]; simp only [Sp.hasD]
        have hMl : l.len ≤ M := by simp [TmF.len] at hM; omega
        clear HK hk hi hpin hnm hnz hcv hvin hlin' hgd hks hpl hM hres hNN hKK hpre hsum hsame hgg hbww

        obtain ⟨Q, HQ⟩ : ∃ Q, Hid (at_ + 1 + F.vals.pre i = Q) := ⟨_, show _ = _ from rfl⟩
        have hQ0 : 0 ≤ Q := by have := HQ.out; omega
        have hQ1 : Q ≤ 16384 := by have := HQ.out; omega
        have hQ2 : Q + v.pn ≤ 16384 := by have := HQ.out; omega
        rw [HQ.out]

        cases op with
        | true =>
          go_wp2_with fail
          go_quiet (fail)
          go_wp2_with fail
          go_quiet (fail)
          generalize hvpg : v.pn = vp at *
          go_wp2_with ((with_reducible refine ld_row ?_ ?_ (HPL.out _ ?_) ?_); rfl; rfl; exact below_drewN' _ _ _)
          refine (HPC.out _ ?_).mono ?_
          exact below_drewN' _ _ _
          rintro e w6 ⟨rfl, hb6⟩
          have H6 : Hid (Below W2.heap.size W2 w6) := by
            refine HBW.out.trans (Below.mono ?_ HBW.out.size)
            exact below_to (below_drewN' _ _ _) hb6
          clear hb6
          go_wp2_with fail
          go_roundw
          case rel => exact ⟨NS.length, i + 1, M, [], [], .nil, l, by rw [HP1.out, ← HQ.out]; go_num, by go_num, by go_num, by simp, HNF.out.2.2.2.2, by simp [TyL.sz], by simp [TyL.ok], ⟨H6.out, by simp [TyL.In], HNF.out.1, HNF.out.2.1, rfl, rfl, by simpa using hMl, by rw [HR.out, HP1.out]; simp [TyL.fns, Int.add_assoc], (fun j => by simp), (fun j => by rw [List.getElem?_eq_none (by rw [HLL.out.2]; omega)]; simp), HNF.out.2.2.1, HNF.out.2.2.2.1⟩⟩
          case measure => simp [intOf]; omega
        | false =>
          go_wp2_with fail
          go_quiet (fail)
          go_wp2_with fail
          go_quiet (fail)
          go_wp2_with fail
          go_ret2
          exact RIsE.no0 (by rw [HR.out]; rfl) (HB.out.trans ((HBW.out.trans (below_drewN' _ _ _)).mono HB.out.size))
    | cons n ns =>
      cases l with
      | nil => 
        obtain ⟨k0, ks, rfl⟩ : ∃ k0 ks', ks = k0 :: ks' := by
          cases ks with
          | nil => have := HK.out.2.2.2.2.1; simp at this
          | cons a b => exact ⟨a, b, rfl⟩
        obtain ⟨t', ps, rfl⟩ : ∃ t' ps', ps = .cons t' ps' := by
          cases ps with
          | nil => have := HK.out.2.2.2.2.2.1; simp [TyL.len] at this
          | cons a b => exact ⟨a, b, rfl⟩
        have hk1 : (k : Int) < (NS.length : Int) := by simp at hk; omega
        have nk : NS[k]? = some n := by have := HK.out.2.2.2.2.2.2.2.2.1 0; simpa using this
        have kk : KS[k]? = some k0 := by have := HK.out.2.2.2.2.2.2.2.2.2.1 0; simpa using this
        obtain ⟨gn, on, rfl, cnm⟩ := HNA.out wr k n hbw nk
        obtain ⟨gk, ok, rfl, ckk⟩ := HKA.out wr k k0 hbw kk
        have HNN : Hid ((∀ j, NS[k + 1 + j]? = ns[j]?) ∧ (∀ j, KS[k + 1 + j]? = ks[j]?) ∧ ks.length = ns.length ∧ ps.len = ns.length ∧ k + 1 + ns.length = NS.length ∧ ps.sz ≤ N0 ∧ ps.ok = true) := ⟨fun j => by rw [show k + 1 + j = k + (j + 1) by omega, HK.out.2.2.2.2.2.2.2.2.1 (j + 1)]; simp, fun j => by rw [show k + 1 + j = k + (j + 1) by omega, HK.out.2.2.2.2.2.2.2.2.2.1 (j + 1)]; simp, by have := HK.out.2.2.2.2.1; simpa using this, by have := HK.out.2.2.2.2.2.1; simpa [TyL.len] using this, by simp at hk; omega, by simp [TyL.sz] at hpN; omega, by simp [TyL.ok] at hpo; exact hpo.2⟩
        clear nk kk

        have hi' : i = F.len := by simpa [TmF.len] using hi
        subst hi'
        obtain ⟨hbw2, hpin, hlin, hgd, hks, hpl, hM, hres, hNN, hKK, hpre, hsum⟩ := HK.out
        simp only [TyL.In] at hpin
        obtain ⟨gp, op', cs', rfl, hgp, hcp, htp, hpin'⟩ := hpin
        obtain ⟨M, rfl⟩ : ∃ M', M = M' + 1 := ⟨M - 1, by simp [TmF.len] at hM; omega⟩
        have HR : Hid (RES = if k0 then Sp.hasD op M ns ks ps.fns .nil (1 + F.vals.pre F.len) else (false, 0)) := by show _ = _; rw [hres]; simp only [Sp.hasD, TyL.fns]
        have HBW : Hid (Below W2.heap.size W2 wr ∧ ps.In w B (some ⟨gp, op', none⟩) (k + 1) ∧ ns.length + TmF.nil.len ≤ M ∧ (∀ j, F.vals.pre (F.len + j) = F.vals.pre F.len + TmF.nil.vals.pre j) ∧ F.vals.pre F.len + TmF.nil.pn = F.pn) := ⟨hbw2, hpin', by simp [TmF.len] at hM ⊢; omega, hpre, hsum⟩
        clear HK hk hi hcp htp hpin' hgd hks hpl hM hres hNN hKK hpre hsum hgp hlin
        cases k0 with
        | true =>
          go_wp2_with fail
          go_quiet (fail)
          go_wp2_with fail
          go_roundw
          case rel => exact ⟨k + 1, F.len, M, ns, ks, ps, .nil, by go_num, by go_num, by go_num, HNN.out.2.2.2.2.1, by simp [TmF.len], HNN.out.2.2.2.2.2.1, HNN.out.2.2.2.2.2.2, ⟨HBW.out.1.trans (below_drewN' _ _ _), HBW.out.2.1, by simp [TmF.In], trivial, HNN.out.2.2.1, HNN.out.2.2.2.1, HBW.out.2.2.1, by rw [HR.out]; simp, HNN.out.1, HNN.out.2.1, HBW.out.2.2.2.1, HBW.out.2.2.2.2⟩⟩
          case measure => simp [intOf]; omega
        | false =>
          go_wp2_with fail
          go_quiet (fail)
          go_wp2_with fail
          go_ret2
          exact RIsE.no0 (by rw [HR.out]; rfl) (HB.out.trans ((HBW.out.1.trans (below_drewN' _ _ _)).mono HB.out.size))
      | cons m v l => 
        obtain ⟨k0, ks, rfl⟩ : ∃ k0 ks', ks = k0 :: ks' := by
          cases ks with
          | nil => have := HK.out.2.2.2.2.1; simp at this
          | cons a b => exact ⟨a, b, rfl⟩
        obtain ⟨t', ps, rfl⟩ : ∃ t' ps', ps = .cons t' ps' := by
          cases ps with
          | nil => have := HK.out.2.2.2.2.2.1; simp [TyL.len] at this
          | cons a b => exact ⟨a, b, rfl⟩
        have hk1 : (k : Int) < (NS.length : Int) := by simp at hk; omega
        have nk : NS[k]? = some n := by have := HK.out.2.2.2.2.2.2.2.2.1 0; simpa using this
        have kk : KS[k]? = some k0 := by have := HK.out.2.2.2.2.2.2.2.2.2.1 0; simpa using this
        obtain ⟨gn, on, rfl, cnm⟩ := HNA.out wr k n hbw nk
        obtain ⟨gk, ok, rfl, ckk⟩ := HKA.out wr k k0 hbw kk
        have HNN : Hid ((∀ j, NS[k + 1 + j]? = ns[j]?) ∧ (∀ j, KS[k + 1 + j]? = ks[j]?) ∧ ks.length = ns.length ∧ ps.len = ns.length ∧ k + 1 + ns.length = NS.length ∧ ps.sz ≤ N0 ∧ ps.ok = true) := ⟨fun j => by rw [show k + 1 + j = k + (j + 1) by omega, HK.out.2.2.2.2.2.2.2.2.1 (j + 1)]; simp, fun j => by rw [show k + 1 + j = k + (j + 1) by omega, HK.out.2.2.2.2.2.2.2.2.2.1 (j + 1)]; simp, by have := HK.out.2.2.2.2.1; simpa using this, by have := HK.out.2.2.2.2.2.1; simpa [TyL.len] using this, by simp at hk; omega, by simp [TyL.sz] at hpN; omega, by simp [TyL.ok] at hpo; exact hpo.2⟩
        clear nk kk

        obtain ⟨hbw2, hpin, hlin, hgd, hks, hpl, hM, hres, hNN, hKK, hpre, hsum⟩ := HK.out
        simp only [TmF.In] at hlin
        obtain ⟨g, o1, cv, rfl, hgg, hnm, hnz, hcv, hvin, hlin'⟩ := hlin
        have hi1 : (i : Int) < (F.len : Int) := by simp [TmF.len] at hi; omega
        have hsame := H0.out.2.2.2.2.2.1.same hbw
        have en : wr.cell? ⟨g, o1 + i * 12, none⟩ = some (.string m) := by rw [hsame.cell (p := ⟨g, o1 + i * 12, none⟩) hgg]; exact hnm
        have hvp := v.pn_pos
        have hlp := l.pn_pos
        have hs2 : F.vals.pre i + v.pn + l.pn = F.pn := by simp only [TmF.pn] at hsum; omega
        have hvg := hgd.1
        have HP1 : Hid (F.vals.pre (i + 1) = F.vals.pre i + v.pn) := by show _ = _; rw [hpre 1]; simp [TmF.vals, TmL.pre]
        have hbww : ∀ W, Below wr.heap.size wr W → Below W2.heap.size W2 W := fun W hW => hbw2.trans (hW.mono hbw2.size)
        have HPL : Hid (∀ W, Below wr.heap.size wr W → (loadVar 38 ⟨g, o1 + i * 12 + 1, none⟩).run Tryz.prog W = .ok (.agg cv) W) := fun W hW => yldT (Tm.In_size hvin) (fun x hx => by rw [(H0.out.2.2.2.2.2.1.same (HX.out W (hbww W hW)).2.2.2.2.2).cell (p := ⟨g, o1 + i * 12 + 1 + x, none⟩) hgg]; exact hcv x hx)
        have HPC : Hid (∀ W, Below wr.heap.size wr W → Calls Tryz.prog 79 #[.agg cv] W fun e w' => e = .returned (.int .i64 v.pn) ∧ Below W.heap.size W w') := fun W hW => by
          have q4 := (HX.out W (hbww W hW)).2.2.2.2.2
          exact rparts_any v.sz v (Nat.le_refl _) (by omega) cv B W (v.In_same (H0.out.2.2.2.2.2.1.same q4) (fun _ h => h) cv hvin) (H0.out.2.2.2.2.2.1.later q4)
        have HNF : Hid (l.In w B (some ⟨g, o1, none⟩) (i + 1) ∧ l.gd ∧ (∀ j, F.vals.pre (i + 1 + j) = F.vals.pre (i + 1) + l.vals.pre j) ∧ F.vals.pre (i + 1) + l.pn = F.pn ∧ i + 1 + l.len = F.len) := ⟨hlin', hgd.2, fun j => by rw [HP1.out, show i + 1 + j = i + (j + 1) by omega, hpre (j + 1)]; simp only [TmF.vals, TmL.pre]; omega, by rw [HP1.out]; omega, by simp [TmF.len] at hi; omega⟩
        have HBW : Hid (Below W2.heap.size W2 wr) := hbw2
        obtain ⟨M, rfl⟩ : ∃ M', M = M' + 1 := ⟨M - 1, by simp [TmF.len] at hM; omega⟩

        have hpin0 := hpin
        simp only [TyL.In] at hpin
        obtain ⟨gp, op', cs', rfl, hgp, hcp, htp, hpin'⟩ := hpin
        have hine : ((i : Int) == (F.len : Int)) = false := by simp; omega
        have hkne : ((k : Int) == (NS.length : Int)) = false := by simp; omega
        have hcvals := vals_cb n.data.toList m.data.toList
        have hcm : Sp.cmpS n m = Lib.compareBytes n.data.toList m.data.toList := rfl
        have hcn := neg_cb n.data.toList m.data.toList
        have hcm2 : Sp.cmpS m n = Lib.compareBytes m.data.toList n.data.toList := rfl
        have hlo := less_of n m
        have hgo := same_of n m
        have HRR : Hid (RES = if Sp.cmpS n m < 0 then (if k0 then Sp.hasD op M ns ks ps.fns (.cons m v l) (1 + F.vals.pre i) else (false, 0)) else if 0 < Sp.cmpS n m then (if op then Sp.hasD op M (n :: ns) (k0 :: ks) (t'.has :: ps.fns) l (1 + F.vals.pre i + v.pn) else (false, 0)) else if (t'.has v).1 then Sp.hasD op M ns ks ps.fns l (1 + F.vals.pre i + v.pn) else (false, 1 + F.vals.pre i + (t'.has v).2)) := by show _ = _; rw [hres]; simp only [Sp.hasD, TyL.fns]
        have HMM : Hid (ns.length + (l.len + 1) ≤ M ∧ (n :: ns).length + l.len ≤ M ∧ ns.length + l.len ≤ M) := by refine ⟨?_, ?_, ?_⟩ <;> simp [TmF.len] at hM ⊢ <;> omega
        have HOLD : Hid ((TmF.cons m v l).In w B (some ⟨g, o1, none⟩) i ∧ (TmF.cons m v l).gd ∧ (∀ j, F.vals.pre (i + j) = F.vals.pre i + (TmF.cons m v l).vals.pre j) ∧ F.vals.pre i + (TmF.cons m v l).pn = F.pn ∧ i + (TmF.cons m v l).len = F.len ∧ (TyL.cons t' ps).In w B (some ⟨gp, op', none⟩) k ∧ (∀ j, NS[k + j]? = (n :: ns)[j]?) ∧ (∀ j, KS[k + j]? = (k0 :: ks)[j]?) ∧ (k0 :: ks).length = (n :: ns).length ∧ (TyL.cons t' ps).len = (n :: ns).length ∧ k + (n :: ns).length = NS.length ∧ ps.In w B (some ⟨gp, op', none⟩) (k + 1)) := ⟨HK.out.2.2.1, hgd, hpre, hsum, hi, hpin0, hNN, hKK, hks, hpl, hk, hpin'⟩
        by_cases z1 : Sp.cmpS n m < 0
        · have hlt : Op.bytesLess n.toList m.toList = true := by rw [hlo]; simp; omega
          have HR : Hid (RES = if k0 then Sp.hasD op M ns ks ps.fns (.cons m v l) (1 + F.vals.pre i) else (false, 0)) := by show _ = _; rw [HRR.out, if_pos z1]
          clear HK HRR hk hi hpin0 hnm hnz hcv hvin hlin' hgd hks hpl hM hres hNN hKK hpre hsum hsame hgg hbww hgp hcp htp hpin' hlo hgo hcm hcm2 hcn hcvals z1 hvg
          cases k0 with
          | true =>
            go_wp2_with fail
            go_quiet (fail)
            go_wp2_with fail
            go_roundw
            case rel => exact ⟨k + 1, i, M, ns, ks, ps, .cons m v l, by go_num, by go_num, by go_num, HNN.out.2.2.2.2.1, HOLD.out.2.2.2.2.1, HNN.out.2.2.2.2.2.1, HNN.out.2.2.2.2.2.2, ⟨HBW.out.trans (below_drewN' _ _ _), HOLD.out.2.2.2.2.2.2.2.2.2.2.2, HOLD.out.1, HOLD.out.2.1, HNN.out.2.2.1, HNN.out.2.2.2.1, HMM.out.1, by rw [HR.out]; simp, HNN.out.1, HNN.out.2.1, HOLD.out.2.2.1, HOLD.out.2.2.2.1⟩⟩
            case measure => simp [intOf]; omega
          | false =>
            go_wp2_with fail
            go_quiet (fail)
            go_wp2_with fail
            go_ret2
            exact RIsE.no0 (by rw [HR.out]; rfl) (HB.out.trans ((HBW.out.trans (below_drewN' _ _ _)).mono HB.out.size))
        · have hlt : Op.bytesLess n.toList m.toList = false := by rw [hlo]; simp; omega
          by_cases z2 : 0 < Sp.cmpS n m
          · have hgt : (n.toList == m.toList) = false := by rw [hgo]; simp; omega
            have HR : Hid (RES = if op then Sp.hasD op M (n :: ns) (k0 :: ks) (t'.has :: ps.fns) l (1 + F.vals.pre i + v.pn) else (false, 0)) := by show _ = _; rw [HRR.out, if_neg z1, if_pos z2]
            clear HK HRR hk hi hpin0 hnm hnz hcv hvin hlin' hgd hks hpl hM hres hNN hKK hpre hsum hsame hgg hbww hgp hcp htp hpin' hlo hgo hcm hcm2 hcn hcvals z1 z2 hvg
            obtain ⟨Q, HQ⟩ : ∃ Q, Hid (at_ + 1 + F.vals.pre i = Q) := ⟨_, show _ = _ from rfl⟩
            have hQ0 : 0 ≤ Q := by have := HQ.out; omega
            have hQ1 : Q ≤ 16384 := by have := HQ.out; omega
            have hQ2 : Q + v.pn ≤ 16384 := by have := HQ.out; omega
            rw [HQ.out]
            cases op with
            | true =>
              go_wp2_with fail
              go_quiet (fail)
              go_wp2_with fail
              go_quiet (fail)
              generalize hvpg : v.pn = vp at *
              go_wp2_with ((with_reducible refine ld_row ?_ ?_ (HPL.out _ ?_) ?_); rfl; rfl; exact below_drewN' _ _ _)
              refine (HPC.out _ ?_).mono ?_
              exact below_drewN' _ _ _
              rintro e w6 ⟨rfl, hb6⟩
              have H6 : Hid (Below W2.heap.size W2 w6) := by
                refine HBW.out.trans (Below.mono ?_ HBW.out.size)
                exact below_to (below_drewN' _ _ _) hb6
              clear hb6
              go_wp2_with fail
              go_roundw
              case rel => exact ⟨k, i + 1, M, n :: ns, k0 :: ks, (.cons t' ps), l, by rw [HP1.out, ← HQ.out]; go_num, by go_num, by go_num, HOLD.out.2.2.2.2.2.2.2.2.2.2.1, HNF.out.2.2.2.2, hpN, hpo, ⟨H6.out, HOLD.out.2.2.2.2.2.1, HNF.out.1, HNF.out.2.1, HOLD.out.2.2.2.2.2.2.2.2.1, HOLD.out.2.2.2.2.2.2.2.2.2.1, HMM.out.2.1, by rw [HR.out, HP1.out]; simp [TyL.fns, Int.add_assoc], HOLD.out.2.2.2.2.2.2.1, HOLD.out.2.2.2.2.2.2.2.1, HNF.out.2.2.1, HNF.out.2.2.2.1⟩⟩
              case measure => simp [intOf]; omega
            | false =>
              go_wp2_with fail
              go_quiet (fail)
              go_wp2_with fail
              go_quiet (fail)
              go_wp2_with fail
              go_ret2
              exact RIsE.no0 (by rw [HR.out]; rfl) (HB.out.trans ((HBW.out.trans (below_drewN' _ _ _)).mono HB.out.size))
          · have hgt : (n.toList == m.toList) = true := by rw [hgo]; simp; omega
            have HR : Hid (RES = if (t'.has v).1 then Sp.hasD op M ns ks ps.fns l (1 + F.vals.pre i + v.pn) else (false, 1 + F.vals.pre i + (t'.has v).2)) := by show _ = _; rw [HRR.out, if_neg z1, if_neg z2]
            have hs' := (Ty.In_cells htp).1
            have HS : Hid (∀ W, Below wr.heap.size wr W → W.cell? ⟨w.heap.size, 8, none⟩ = some (.slice (some ⟨g, o1, none⟩) F.len cf) ∧ (loadVar 38 ⟨g, o1 + i * 12 + 1, none⟩).run Tryz.prog W = .ok (.agg cv) W ∧ W.cell? ⟨w.heap.size + 1, 13, none⟩ = some (.slice (some ⟨gp, op', none⟩) NS.length cp) ∧ (loadVar 43 ⟨gp, op' + k * 18, none⟩).run Tryz.prog W = .ok (.agg cs') W) := fun W hW => by
              obtain ⟨q1, q2, -, -, -, q4⟩ := HX.out W (hbww W hW)
              exact ⟨q1, HPL.out W hW, q2, yldE hs' (fun x hx => by rw [(H0.out.2.2.2.2.2.1.same q4).cell (p := ⟨gp, op' + k * 18 + x, none⟩) hgp]; exact hcp x hx)⟩
            have hto : t'.sz ≤ N0 ∧ t'.ok = true := ⟨by simp [TyL.sz] at hpN; omega, by simp [TyL.ok] at hpo; exact hpo.1⟩
            have HO : Hid (∀ W, Below wr.heap.size wr W → Calls Tryz.prog 33 #[.agg cv, .agg cs', .int .i64 (at_ + 1 + F.vals.pre i)] W (RIsE (t'.has v) (at_ + 1 + F.vals.pre i) W)) := fun W hW => by
              have q4 := (HX.out W (hbww W hW)).2.2.2.2.2
              have q5 := H0.out.2.2.2.2.2.1.same q4
              exact H0.out.2.2.2.2.2.2 t' hto.1 hto.2 v cv cs' B W _ hvg (v.In_same q5 (fun _ h => h) cv hvin) (t'.In_same q5 (fun _ h => h) cs' htp) (H0.out.2.2.2.2.2.1.later q4) (by omega) (by omega)
            have hbd := Ty.has_bd t' v
            unfold RIsE at HO
            clear HK HRR hk hi hpin0 hnm hnz hcv hvin hlin' hgd hks hpl hM hres hNN hKK hpre hsum hsame hgg hbww hgp hcp htp hpin' hlo hgo hcm hcm2 hcn hcvals z1 z2 hs' hto hvg
            generalize t'.has v = r at *
            obtain ⟨rb, rq⟩ := r
            simp only at hbd HR HO
            obtain ⟨Q, HQ⟩ : ∃ Q, Hid (at_ + 1 + F.vals.pre i = Q) := ⟨_, show _ = _ from rfl⟩
            have hQ0 : 0 ≤ Q := by have := HQ.out; omega
            have hQ1 : Q ≤ 16384 := by have := HQ.out; omega
            have hQ2 : Q + v.pn ≤ 16384 := by have := HQ.out; omega
            rw [HQ.out] at HO
            rw [HQ.out]
            cases rb with
            | true =>
              simp only [if_true] at HO
              go_wp2_with fail
              go_quiet (fail)
              go_wp2_with fail
              go_quiet (fail)
              go_wp2_with fail
              refine wp_region_held_drew (S := fun W => W.cell? ⟨w.heap.size, 8, none⟩ = some (.slice (some ⟨g, o1, none⟩) F.len cf) ∧ (loadVar 38 ⟨g, o1 + i * 12 + 1, none⟩).run Tryz.prog W = .ok (.agg cv) W ∧ W.cell? ⟨w.heap.size + 1, 13, none⟩ = some (.slice (some ⟨gp, op', none⟩) NS.length cp) ∧ (loadVar 43 ⟨gp, op' + k * 18, none⟩).run Tryz.prog W = .ok (.agg cs') W) (by kernel_rfl) ?_ (fun hHeld => ?_)
              · exact HS.out _ (((below_drewN' _ _ _).trans (below_drewN' _ _ _)).drew)
              refine wpAnyH_take (i := 0) (oi := { dst := some 86, op := Go.Op.fieldAddr 38 (Go.Operand.tmp 3) 8, type := 0, pos := "ref.go:136", after := #[], guard := none }) (v := ?_) rfl (by kernel_rfl) (by kernel_rfl) (by kernel_rfl) (fun _ _ _ h => h) (Or.inl ⟨by rfl, ?_⟩) (by assumption) ?_
              rotate_left
              · intro w hSw; (try dsimp only at hSw); go_simp; try (with_reducible rfl)
              simp only [Act.put, List.setIfInBounds_toArray, List.set_cons_zero, List.set_cons_succ]
              refine wpAnyH_take (i := 1) (oi := { dst := some 87, op := Go.Op.load 36 (Go.Operand.tmp 86), type := 36, pos := "ref.go:136", after := #[{ on := 0, ground := Go.Ground.data }], guard := none }) (v := ?_) rfl (by kernel_rfl) (by kernel_rfl) (by kernel_rfl) (fun _ _ _ h => h) (Or.inl ⟨by rfl, ?_⟩) (by assumption) ?_
              rotate_left
              · intro w hSw; (try dsimp only at hSw); go_simp; try (with_reducible rfl)
              simp only [Act.put, List.setIfInBounds_toArray, List.set_cons_zero, List.set_cons_succ]
              refine wpAnyH_take (i := 2) (oi := { dst := some 88, op := Go.Op.move (Go.Operand.tmp 10), type := 3, pos := "ref.go:136", after := #[], guard := none }) (v := ?_) rfl (by kernel_rfl) (by kernel_rfl) (by kernel_rfl) (fun _ _ _ h => h) (Or.inl ⟨by rfl, ?_⟩) (by assumption) ?_
              rotate_left
              · intro w hSw; (try dsimp only at hSw); go_simp; try (with_reducible rfl)
              simp only [Act.put, List.setIfInBounds_toArray, List.set_cons_zero, List.set_cons_succ]
              refine wpAnyH_take (i := 3) (oi := { dst := some 89, op := Go.Op.indexAddr 36 (Go.Operand.tmp 87) (Go.Operand.tmp 88), type := 0, pos := "ref.go:136", after := #[{ on := 1, ground := Go.Ground.data }, { on := 2, ground := Go.Ground.data }], guard := none }) (v := ?_) rfl (by kernel_rfl) (by kernel_rfl) (by kernel_rfl) (fun _ _ _ h => h) (Or.inl ⟨by rfl, ?_⟩) (by assumption) ?_
              rotate_left
              · intro w hSw; (try dsimp only at hSw); go_simp; try (with_reducible rfl)
              simp only [Act.put, List.setIfInBounds_toArray, List.set_cons_zero, List.set_cons_succ]
              refine wpAnyH_take (i := 4) (oi := { dst := some 90, op := Go.Op.fieldAddr 132 (Go.Operand.tmp 89) 1, type := 0, pos := "ref.go:136", after := #[{ on := 3, ground := Go.Ground.data }], guard := none }) (v := ?_) rfl (by kernel_rfl) (by kernel_rfl) (by kernel_rfl) (fun _ _ _ h => h) (Or.inl ⟨by rfl, ?_⟩) (by assumption) ?_
              rotate_left
              · intro w hSw; (try dsimp only at hSw); go_simp; try (with_reducible rfl)
              simp only [Act.put, List.setIfInBounds_toArray, List.set_cons_zero, List.set_cons_succ]
              refine wpAnyH_take (i := 5) (oi := { dst := some 91, op := Go.Op.load 38 (Go.Operand.tmp 90), type := 38, pos := "ref.go:136", after := #[{ on := 4, ground := Go.Ground.data }], guard := none }) (v := (.agg cv)) rfl (by kernel_rfl) (by kernel_rfl) (by kernel_rfl) (fun _ _ _ h => h) (take_ld rfl rfl rfl (fun w hSw => hSw.2.1)) (by assumption) ?_
              simp only [Act.put, List.setIfInBounds_toArray, List.set_cons_zero, List.set_cons_succ]
              refine wpAnyH_take (i := 6) (oi := { dst := some 92, op := Go.Op.fieldAddr 43 (Go.Operand.tmp 4) 3, type := 0, pos := "ref.go:136", after := #[], guard := none }) (v := ?_) rfl (by kernel_rfl) (by kernel_rfl) (by kernel_rfl) (fun _ _ _ h => h) (Or.inl ⟨by rfl, ?_⟩) (by assumption) ?_
              rotate_left
              · intro w hSw; (try dsimp only at hSw); go_simp; try (with_reducible rfl)
              simp only [Act.put, List.setIfInBounds_toArray, List.set_cons_zero, List.set_cons_succ]
              refine wpAnyH_take (i := 7) (oi := { dst := some 93, op := Go.Op.load 39 (Go.Operand.tmp 92), type := 39, pos := "ref.go:136", after := #[{ on := 6, ground := Go.Ground.data }], guard := none }) (v := ?_) rfl (by kernel_rfl) (by kernel_rfl) (by kernel_rfl) (fun _ _ _ h => h) (Or.inl ⟨by rfl, ?_⟩) (by assumption) ?_
              rotate_left
              · intro w hSw; (try dsimp only at hSw); go_simp; try (with_reducible rfl)
              simp only [Act.put, List.setIfInBounds_toArray, List.set_cons_zero, List.set_cons_succ]
              refine wpAnyH_take (i := 8) (oi := { dst := some 94, op := Go.Op.move (Go.Operand.tmp 9), type := 3, pos := "ref.go:136", after := #[], guard := none }) (v := ?_) rfl (by kernel_rfl) (by kernel_rfl) (by kernel_rfl) (fun _ _ _ h => h) (Or.inl ⟨by rfl, ?_⟩) (by assumption) ?_
              rotate_left
              · intro w hSw; (try dsimp only at hSw); go_simp; try (with_reducible rfl)
              simp only [Act.put, List.setIfInBounds_toArray, List.set_cons_zero, List.set_cons_succ]
              refine wpAnyH_take (i := 9) (oi := { dst := some 95, op := Go.Op.indexAddr 39 (Go.Operand.tmp 93) (Go.Operand.tmp 94), type := 0, pos := "ref.go:136", after := #[{ on := 7, ground := Go.Ground.data }, { on := 8, ground := Go.Ground.data }], guard := none }) (v := ?_) rfl (by kernel_rfl) (by kernel_rfl) (by kernel_rfl) (fun _ _ _ h => h) (Or.inl ⟨by rfl, ?_⟩) (by assumption) ?_
              rotate_left
              · intro w hSw; (try dsimp only at hSw); go_simp; try (with_reducible rfl)
              simp only [Act.put, List.setIfInBounds_toArray, List.set_cons_zero, List.set_cons_succ]
              refine wpAnyH_take (i := 10) (oi := { dst := some 96, op := Go.Op.load 43 (Go.Operand.tmp 95), type := 43, pos := "ref.go:136", after := #[{ on := 9, ground := Go.Ground.data }], guard := none }) (v := (.agg cs')) rfl (by kernel_rfl) (by kernel_rfl) (by kernel_rfl) (fun _ _ _ h => h) (take_ld rfl rfl rfl (fun w hSw => hSw.2.2.2)) (by assumption) ?_
              simp only [Act.put, List.setIfInBounds_toArray, List.set_cons_zero, List.set_cons_succ]
              refine wpAnyH_take (i := 11) (oi := { dst := some 97, op := Go.Op.move (Go.Operand.tmp 8), type := 3, pos := "ref.go:136", after := #[], guard := none }) (v := ?_) rfl (by kernel_rfl) (by kernel_rfl) (by kernel_rfl) (fun _ _ _ h => h) (Or.inl ⟨by rfl, ?_⟩) (by assumption) ?_
              rotate_left
              · intro w hSw; (try dsimp only at hSw); go_simp; try (with_reducible rfl)
              simp only [Act.put, List.setIfInBounds_toArray, List.set_cons_zero, List.set_cons_succ]
              refine wpAnyH_ready (rs := [12]) (by kernel_rfl) (by simp) ?_
              refine AllReadyH.cons (o := { dst := some 98, op := Go.Op.call { callee := Go.Callee.value (Go.Operand.func 33), args := #[Go.Operand.tmp 91, Go.Operand.tmp 96, Go.Operand.tmp 97], argTypes := #[38, 43, 3] }, type := 64, pos := "ref.go:136", after := #[{ on := 5, ground := Go.Ground.data }, { on := 10, ground := Go.Ground.data }, { on := 11, ground := Go.Ground.data }], guard := none }) rfl (fun K hK => ?_) AllReadyH.nil
              go_simp
              (refine (HO.out _ (below_drewN' _ _ _)).mono ?_; rintro e w5 ⟨rfl, hb5⟩; have HB5 : Hid (Below wr.heap.size wr w5) := below_to (below_drewN' _ _ _) hb5; clear hb5)
              go_wp2_with fail
              refine hK.out _ _ ?_ (fun hHeld => ?_)
              · exact HS.out _ HB5.out
              clear hK K
              refine wpAnyH_take (i := 13) (oi := { dst := some 85, op := Go.Op.move (Go.Operand.tmp 98), type := 64, pos := "ref.go:136", after := #[{ on := 12, ground := Go.Ground.data }], guard := none }) (v := ?_) rfl (by kernel_rfl) (by kernel_rfl) (by kernel_rfl) (fun _ _ _ h => h) (Or.inl ⟨by rfl, ?_⟩) (by assumption) ?_
              rotate_left
              · intro w hSw; (try dsimp only at hSw); go_simp; try (with_reducible rfl)
              simp only [Act.put, List.setIfInBounds_toArray, List.set_cons_zero, List.set_cons_succ]
              refine wpAnyH_take (i := 14) (oi := { dst := some 99, op := Go.Op.extract (Go.Operand.tmp 85) 0, type := 4, pos := "ref.go:136", after := #[{ on := 13, ground := Go.Ground.data }], guard := none }) (v := ?_) rfl (by kernel_rfl) (by kernel_rfl) (by kernel_rfl) (fun _ _ _ h => h) (Or.inl ⟨by rfl, ?_⟩) (by assumption) ?_
              rotate_left
              · intro w hSw; (try dsimp only at hSw); go_simp; try (with_reducible rfl)
              simp only [Act.put, List.setIfInBounds_toArray, List.set_cons_zero, List.set_cons_succ]
              refine wpAnyH_take (i := 15) (oi := { dst := some 100, op := Go.Op.extract (Go.Operand.tmp 85) 1, type := 3, pos := "ref.go:136", after := #[{ on := 13, ground := Go.Ground.data }, { on := 16, ground := Go.Ground.gcOnly Go.Departure.lateStores }], guard := none }) (v := ?_) rfl (by kernel_rfl) (by kernel_rfl) (by kernel_rfl) (fun _ _ _ h => h) (Or.inl ⟨by rfl, ?_⟩) (by assumption) ?_
              rotate_left
              · intro w hSw; (try dsimp only at hSw); go_simp; try (with_reducible rfl)
              simp only [Act.put, List.setIfInBounds_toArray, List.set_cons_zero, List.set_cons_succ]
              refine wpAnyH_take (i := 16) (oi := { dst := some 11, op := Go.Op.assign (Go.Operand.tmp 99), type := 4, pos := "ref.go:136", after := #[{ on := 14, ground := Go.Ground.data }, { on := 12, ground := Go.Ground.chain }, { on := 0, ground := Go.Ground.phase }, { on := 1, ground := Go.Ground.phase }, { on := 2, ground := Go.Ground.phase }, { on := 3, ground := Go.Ground.phase }, { on := 4, ground := Go.Ground.phase }, { on := 5, ground := Go.Ground.phase }, { on := 6, ground := Go.Ground.phase }, { on := 7, ground := Go.Ground.phase }, { on := 8, ground := Go.Ground.phase }, { on := 9, ground := Go.Ground.phase }, { on := 10, ground := Go.Ground.phase }, { on := 11, ground := Go.Ground.phase }, { on := 12, ground := Go.Ground.phase }, { on := 13, ground := Go.Ground.phase }, { on := 14, ground := Go.Ground.phase }, { on := 15, ground := Go.Ground.textOnly Go.Departure.lateStores }], guard := none }) (v := ?_) rfl (by kernel_rfl) (by kernel_rfl) (by kernel_rfl) (fun _ _ _ h => h) (Or.inl ⟨by rfl, ?_⟩) (by assumption) ?_
              rotate_left
              · intro w hSw; (try dsimp only at hSw); go_simp; try (with_reducible rfl)
              simp only [Act.put, List.setIfInBounds_toArray, List.set_cons_zero, List.set_cons_succ]
              refine wpAnyH_take (i := 17) (oi := { dst := some 12, op := Go.Op.assign (Go.Operand.tmp 100), type := 3, pos := "ref.go:136", after := #[{ on := 15, ground := Go.Ground.data }, { on := 16, ground := Go.Ground.chain }, { on := 0, ground := Go.Ground.phase }, { on := 1, ground := Go.Ground.phase }, { on := 2, ground := Go.Ground.phase }, { on := 3, ground := Go.Ground.phase }, { on := 4, ground := Go.Ground.phase }, { on := 5, ground := Go.Ground.phase }, { on := 6, ground := Go.Ground.phase }, { on := 7, ground := Go.Ground.phase }, { on := 8, ground := Go.Ground.phase }, { on := 9, ground := Go.Ground.phase }, { on := 10, ground := Go.Ground.phase }, { on := 11, ground := Go.Ground.phase }, { on := 12, ground := Go.Ground.phase }, { on := 13, ground := Go.Ground.phase }, { on := 14, ground := Go.Ground.phase }, { on := 15, ground := Go.Ground.phase }, { on := 16, ground := Go.Ground.phase }], guard := none }) (v := ?_) rfl (by kernel_rfl) (by kernel_rfl) (by kernel_rfl) (fun _ _ _ h => h) (Or.inl ⟨by rfl, ?_⟩) (by assumption) ?_
              rotate_left
              · intro w hSw; (try dsimp only at hSw); go_simp; try (with_reducible rfl)
              simp only [Act.put, List.setIfInBounds_toArray, List.set_cons_zero, List.set_cons_succ]
              refine wpAnyH_done (by kernel_rfl) ?_ _
              have HW5 : Hid (Below wr.heap.size wr w5) := HB5.out
              obtain ⟨f8, -, -, -⟩ := HS.out w5 HB5.out
              generalize hvpg : v.pn = vp at *
              go_wp2_with ((with_reducible refine ld_row ?_ ?_ (HPL.out _ ?_) ?_); rfl; rfl; exact HW5.out)
              refine (HPC.out _ ?_).mono ?_
              exact HW5.out
              rintro e w6 ⟨rfl, hb6⟩
              have H6 : Hid (Below W2.heap.size W2 w6) := by
                refine HBW.out.trans (Below.mono ?_ HBW.out.size)
                exact below_to (HW5.out) hb6
              clear hb6
              go_wp2_with fail
              go_roundw
              case rel => exact ⟨k + 1, i + 1, M, ns, ks, ps, l, by rw [HP1.out, ← HQ.out]; go_num, by go_num, by go_num, HNN.out.2.2.2.2.1, HNF.out.2.2.2.2, HNN.out.2.2.2.2.2.1, HNN.out.2.2.2.2.2.2, ⟨H6.out, HOLD.out.2.2.2.2.2.2.2.2.2.2.2, HNF.out.1, HNF.out.2.1, HNN.out.2.2.1, HNN.out.2.2.2.1, HMM.out.2.2, by rw [HR.out, HP1.out]; simp [Int.add_assoc], HNN.out.1, HNN.out.2.1, HNF.out.2.2.1, HNF.out.2.2.2.1⟩⟩
              case measure => simp [intOf]; omega
            | false =>
              simp only [Bool.false_eq_true, if_false] at HO
              go_wp2_with fail
              go_quiet (fail)
              go_wp2_with fail
              go_quiet (fail)
              go_wp2_with fail
              refine wp_region_held_drew (S := fun W => W.cell? ⟨w.heap.size, 8, none⟩ = some (.slice (some ⟨g, o1, none⟩) F.len cf) ∧ (loadVar 38 ⟨g, o1 + i * 12 + 1, none⟩).run Tryz.prog W = .ok (.agg cv) W ∧ W.cell? ⟨w.heap.size + 1, 13, none⟩ = some (.slice (some ⟨gp, op', none⟩) NS.length cp) ∧ (loadVar 43 ⟨gp, op' + k * 18, none⟩).run Tryz.prog W = .ok (.agg cs') W) (by kernel_rfl) ?_ (fun hHeld => ?_)
              · exact HS.out _ (((below_drewN' _ _ _).trans (below_drewN' _ _ _)).drew)
              refine wpAnyH_take (i := 0) (oi := { dst := some 86, op := Go.Op.fieldAddr 38 (Go.Operand.tmp 3) 8, type := 0, pos := "ref.go:136", after := #[], guard := none }) (v := ?_) rfl (by kernel_rfl) (by kernel_rfl) (by kernel_rfl) (fun _ _ _ h => h) (Or.inl ⟨by rfl, ?_⟩) (by assumption) ?_
              rotate_left
              · intro w hSw; (try dsimp only at hSw); go_simp; try (with_reducible rfl)
              simp only [Act.put, List.setIfInBounds_toArray, List.set_cons_zero, List.set_cons_succ]
              refine wpAnyH_take (i := 1) (oi := { dst := some 87, op := Go.Op.load 36 (Go.Operand.tmp 86), type := 36, pos := "ref.go:136", after := #[{ on := 0, ground := Go.Ground.data }], guard := none }) (v := ?_) rfl (by kernel_rfl) (by kernel_rfl) (by kernel_rfl) (fun _ _ _ h => h) (Or.inl ⟨by rfl, ?_⟩) (by assumption) ?_
              rotate_left
              · intro w hSw; (try dsimp only at hSw); go_simp; try (with_reducible rfl)
              simp only [Act.put, List.setIfInBounds_toArray, List.set_cons_zero, List.set_cons_succ]
              refine wpAnyH_take (i := 2) (oi := { dst := some 88, op := Go.Op.move (Go.Operand.tmp 10), type := 3, pos := "ref.go:136", after := #[], guard := none }) (v := ?_) rfl (by kernel_rfl) (by kernel_rfl) (by kernel_rfl) (fun _ _ _ h => h) (Or.inl ⟨by rfl, ?_⟩) (by assumption) ?_
              rotate_left
              · intro w hSw; (try dsimp only at hSw); go_simp; try (with_reducible rfl)
              simp only [Act.put, List.setIfInBounds_toArray, List.set_cons_zero, List.set_cons_succ]
              refine wpAnyH_take (i := 3) (oi := { dst := some 89, op := Go.Op.indexAddr 36 (Go.Operand.tmp 87) (Go.Operand.tmp 88), type := 0, pos := "ref.go:136", after := #[{ on := 1, ground := Go.Ground.data }, { on := 2, ground := Go.Ground.data }], guard := none }) (v := ?_) rfl (by kernel_rfl) (by kernel_rfl) (by kernel_rfl) (fun _ _ _ h => h) (Or.inl ⟨by rfl, ?_⟩) (by assumption) ?_
              rotate_left
              · intro w hSw; (try dsimp only at hSw); go_simp; try (with_reducible rfl)
              simp only [Act.put, List.setIfInBounds_toArray, List.set_cons_zero, List.set_cons_succ]
              refine wpAnyH_take (i := 4) (oi := { dst := some 90, op := Go.Op.fieldAddr 132 (Go.Operand.tmp 89) 1, type := 0, pos := "ref.go:136", after := #[{ on := 3, ground := Go.Ground.data }], guard := none }) (v := ?_) rfl (by kernel_rfl) (by kernel_rfl) (by kernel_rfl) (fun _ _ _ h => h) (Or.inl ⟨by rfl, ?_⟩) (by assumption) ?_
              rotate_left
              · intro w hSw; (try dsimp only at hSw); go_simp; try (with_reducible rfl)
              simp only [Act.put, List.setIfInBounds_toArray, List.set_cons_zero, List.set_cons_succ]
              refine wpAnyH_take (i := 5) (oi := { dst := some 91, op := Go.Op.load 38 (Go.Operand.tmp 90), type := 38, pos := "ref.go:136", after := #[{ on := 4, ground := Go.Ground.data }], guard := none }) (v := (.agg cv)) rfl (by kernel_rfl) (by kernel_rfl) (by kernel_rfl) (fun _ _ _ h => h) (take_ld rfl rfl rfl (fun w hSw => hSw.2.1)) (by assumption) ?_
              simp only [Act.put, List.setIfInBounds_toArray, List.set_cons_zero, List.set_cons_succ]
              refine wpAnyH_take (i := 6) (oi := { dst := some 92, op := Go.Op.fieldAddr 43 (Go.Operand.tmp 4) 3, type := 0, pos := "ref.go:136", after := #[], guard := none }) (v := ?_) rfl (by kernel_rfl) (by kernel_rfl) (by kernel_rfl) (fun _ _ _ h => h) (Or.inl ⟨by rfl, ?_⟩) (by assumption) ?_
              rotate_left
              · intro w hSw; (try dsimp only at hSw); go_simp; try (with_reducible rfl)
              simp only [Act.put, List.setIfInBounds_toArray, List.set_cons_zero, List.set_cons_succ]
              refine wpAnyH_take (i := 7) (oi := { dst := some 93, op := Go.Op.load 39 (Go.Operand.tmp 92), type := 39, pos := "ref.go:136", after := #[{ on := 6, ground := Go.Ground.data }], guard := none }) (v := ?_) rfl (by kernel_rfl) (by kernel_rfl) (by kernel_rfl) (fun _ _ _ h => h) (Or.inl ⟨by rfl, ?_⟩) (by assumption) ?_
              rotate_left
              · intro w hSw; (try dsimp only at hSw); go_simp; try (with_reducible rfl)
              simp only [Act.put, List.setIfInBounds_toArray, List.set_cons_zero, List.set_cons_succ]
              refine wpAnyH_take (i := 8) (oi := { dst := some 94, op := Go.Op.move (Go.Operand.tmp 9), type := 3, pos := "ref.go:136", after := #[], guard := none }) (v := ?_) rfl (by kernel_rfl) (by kernel_rfl) (by kernel_rfl) (fun _ _ _ h => h) (Or.inl ⟨by rfl, ?_⟩) (by assumption) ?_
              rotate_left
              · intro w hSw; (try dsimp only at hSw); go_simp; try (with_reducible rfl)
              simp only [Act.put, List.setIfInBounds_toArray, List.set_cons_zero, List.set_cons_succ]
              refine wpAnyH_take (i := 9) (oi := { dst := some 95, op := Go.Op.indexAddr 39 (Go.Operand.tmp 93) (Go.Operand.tmp 94), type := 0, pos := "ref.go:136", after := #[{ on := 7, ground := Go.Ground.data }, { on := 8, ground := Go.Ground.data }], guard := none }) (v := ?_) rfl (by kernel_rfl) (by kernel_rfl) (by kernel_rfl) (fun _ _ _ h => h) (Or.inl ⟨by rfl, ?_⟩) (by assumption) ?_
              rotate_left
              · intro w hSw; (try dsimp only at hSw); go_simp; try (with_reducible rfl)
              simp only [Act.put, List.setIfInBounds_toArray, List.set_cons_zero, List.set_cons_succ]
              refine wpAnyH_take (i := 10) (oi := { dst := some 96, op := Go.Op.load 43 (Go.Operand.tmp 95), type := 43, pos := "ref.go:136", after := #[{ on := 9, ground := Go.Ground.data }], guard := none }) (v := (.agg cs')) rfl (by kernel_rfl) (by kernel_rfl) (by kernel_rfl) (fun _ _ _ h => h) (take_ld rfl rfl rfl (fun w hSw => hSw.2.2.2)) (by assumption) ?_
              simp only [Act.put, List.setIfInBounds_toArray, List.set_cons_zero, List.set_cons_succ]
              refine wpAnyH_take (i := 11) (oi := { dst := some 97, op := Go.Op.move (Go.Operand.tmp 8), type := 3, pos := "ref.go:136", after := #[], guard := none }) (v := ?_) rfl (by kernel_rfl) (by kernel_rfl) (by kernel_rfl) (fun _ _ _ h => h) (Or.inl ⟨by rfl, ?_⟩) (by assumption) ?_
              rotate_left
              · intro w hSw; (try dsimp only at hSw); go_simp; try (with_reducible rfl)
              simp only [Act.put, List.setIfInBounds_toArray, List.set_cons_zero, List.set_cons_succ]
              refine wpAnyH_ready (rs := [12]) (by kernel_rfl) (by simp) ?_
              refine AllReadyH.cons (o := { dst := some 98, op := Go.Op.call { callee := Go.Callee.value (Go.Operand.func 33), args := #[Go.Operand.tmp 91, Go.Operand.tmp 96, Go.Operand.tmp 97], argTypes := #[38, 43, 3] }, type := 64, pos := "ref.go:136", after := #[{ on := 5, ground := Go.Ground.data }, { on := 10, ground := Go.Ground.data }, { on := 11, ground := Go.Ground.data }], guard := none }) rfl (fun K hK => ?_) AllReadyH.nil
              go_simp
              (refine (HO.out _ (below_drewN' _ _ _)).mono ?_; rintro e w5 ⟨rfl, hb5⟩; have HB5 : Hid (Below wr.heap.size wr w5) := below_to (below_drewN' _ _ _) hb5; clear hb5)
              go_wp2_with fail
              refine hK.out _ _ ?_ (fun hHeld => ?_)
              · exact HS.out _ HB5.out
              clear hK K
              refine wpAnyH_take (i := 13) (oi := { dst := some 85, op := Go.Op.move (Go.Operand.tmp 98), type := 64, pos := "ref.go:136", after := #[{ on := 12, ground := Go.Ground.data }], guard := none }) (v := ?_) rfl (by kernel_rfl) (by kernel_rfl) (by kernel_rfl) (fun _ _ _ h => h) (Or.inl ⟨by rfl, ?_⟩) (by assumption) ?_
              rotate_left
              · intro w hSw; (try dsimp only at hSw); go_simp; try (with_reducible rfl)
              simp only [Act.put, List.setIfInBounds_toArray, List.set_cons_zero, List.set_cons_succ]
              refine wpAnyH_take (i := 14) (oi := { dst := some 99, op := Go.Op.extract (Go.Operand.tmp 85) 0, type := 4, pos := "ref.go:136", after := #[{ on := 13, ground := Go.Ground.data }], guard := none }) (v := ?_) rfl (by kernel_rfl) (by kernel_rfl) (by kernel_rfl) (fun _ _ _ h => h) (Or.inl ⟨by rfl, ?_⟩) (by assumption) ?_
              rotate_left
              · intro w hSw; (try dsimp only at hSw); go_simp; try (with_reducible rfl)
              simp only [Act.put, List.setIfInBounds_toArray, List.set_cons_zero, List.set_cons_succ]
              refine wpAnyH_take (i := 15) (oi := { dst := some 100, op := Go.Op.extract (Go.Operand.tmp 85) 1, type := 3, pos := "ref.go:136", after := #[{ on := 13, ground := Go.Ground.data }, { on := 16, ground := Go.Ground.gcOnly Go.Departure.lateStores }], guard := none }) (v := ?_) rfl (by kernel_rfl) (by kernel_rfl) (by kernel_rfl) (fun _ _ _ h => h) (Or.inl ⟨by rfl, ?_⟩) (by assumption) ?_
              rotate_left
              · intro w hSw; (try dsimp only at hSw); go_simp; try (with_reducible rfl)
              simp only [Act.put, List.setIfInBounds_toArray, List.set_cons_zero, List.set_cons_succ]
              refine wpAnyH_take (i := 16) (oi := { dst := some 11, op := Go.Op.assign (Go.Operand.tmp 99), type := 4, pos := "ref.go:136", after := #[{ on := 14, ground := Go.Ground.data }, { on := 12, ground := Go.Ground.chain }, { on := 0, ground := Go.Ground.phase }, { on := 1, ground := Go.Ground.phase }, { on := 2, ground := Go.Ground.phase }, { on := 3, ground := Go.Ground.phase }, { on := 4, ground := Go.Ground.phase }, { on := 5, ground := Go.Ground.phase }, { on := 6, ground := Go.Ground.phase }, { on := 7, ground := Go.Ground.phase }, { on := 8, ground := Go.Ground.phase }, { on := 9, ground := Go.Ground.phase }, { on := 10, ground := Go.Ground.phase }, { on := 11, ground := Go.Ground.phase }, { on := 12, ground := Go.Ground.phase }, { on := 13, ground := Go.Ground.phase }, { on := 14, ground := Go.Ground.phase }, { on := 15, ground := Go.Ground.textOnly Go.Departure.lateStores }], guard := none }) (v := ?_) rfl (by kernel_rfl) (by kernel_rfl) (by kernel_rfl) (fun _ _ _ h => h) (Or.inl ⟨by rfl, ?_⟩) (by assumption) ?_
              rotate_left
              · intro w hSw; (try dsimp only at hSw); go_simp; try (with_reducible rfl)
              simp only [Act.put, List.setIfInBounds_toArray, List.set_cons_zero, List.set_cons_succ]
              refine wpAnyH_take (i := 17) (oi := { dst := some 12, op := Go.Op.assign (Go.Operand.tmp 100), type := 3, pos := "ref.go:136", after := #[{ on := 15, ground := Go.Ground.data }, { on := 16, ground := Go.Ground.chain }, { on := 0, ground := Go.Ground.phase }, { on := 1, ground := Go.Ground.phase }, { on := 2, ground := Go.Ground.phase }, { on := 3, ground := Go.Ground.phase }, { on := 4, ground := Go.Ground.phase }, { on := 5, ground := Go.Ground.phase }, { on := 6, ground := Go.Ground.phase }, { on := 7, ground := Go.Ground.phase }, { on := 8, ground := Go.Ground.phase }, { on := 9, ground := Go.Ground.phase }, { on := 10, ground := Go.Ground.phase }, { on := 11, ground := Go.Ground.phase }, { on := 12, ground := Go.Ground.phase }, { on := 13, ground := Go.Ground.phase }, { on := 14, ground := Go.Ground.phase }, { on := 15, ground := Go.Ground.phase }, { on := 16, ground := Go.Ground.phase }], guard := none }) (v := ?_) rfl (by kernel_rfl) (by kernel_rfl) (by kernel_rfl) (fun _ _ _ h => h) (Or.inl ⟨by rfl, ?_⟩) (by assumption) ?_
              rotate_left
              · intro w hSw; (try dsimp only at hSw); go_simp; try (with_reducible rfl)
              simp only [Act.put, List.setIfInBounds_toArray, List.set_cons_zero, List.set_cons_succ]
              refine wpAnyH_done (by kernel_rfl) ?_ _
              have H5 : Hid (Below w.heap.size w w5) := (HX.out w5 (HBW.out.trans (HB5.out.mono HBW.out.size))).2.2.2.2.2
              go_wp2_with fail
              go_ret2
              have hfin : at_ + (1 + F.vals.pre i + rq) = Q + rq := by have := HQ.out; omega
              rw [← hfin]
              exact RIsE.no (by rw [HR.out]; rfl) H5.out
end Go.Proofs.YtbjcabpmndhfmaaGreat

/- Plain mathematics: a type holds of values that are the same alike; which types are plainly of others; that this is sound, and that each type is plainly of itself. -/
namespace Go.Proofs.YtbjcabpmndhfmaaGreat

def Sp.Cg (f : Tm → Bool × Int) : Prop := ∀ x y : Tm, x.all.e = 0 → y.all.e = 0 → x.cmp y = 0 → (f x).1 = (f y).1

/-- names that rise -/
def Sp.up (l : List ByteArray) : Prop := l.Pairwise fun a b => Sp.cmpS a b < 0
end Go.Proofs.YtbjcabpmndhfmaaGreat

