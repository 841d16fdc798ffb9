/- tenonmake.Same, Lists, Entries at whatever two terms: what they tell, plainly; Lists. -/
import Derived.Test.YtjmhodngmfaboaaMSameG
import Derived.Deep.RegionHeld3
import Derived.Test.YtjmhodngmfaboaaDecM
namespace Go.Proofs.Ytjmhodngmfaboaa
open Go.RowKit

mutual
/-- whether two terms are told to be the same -/
def Tm.sm : Tm → Tm → Bool
  | .mk k b i f tx by' rf l fs c v, .mk k2 b2 i2 f2 tx2 by2 rf2 l2 fs2 c2 v2 => decide (k = k2) && (if k = 1 then true else if k = 2 then decide (b = b2) else if k = 3 then decide (i = i2) else if k = 4 then decide (f = f2) else if k = 5 then decide (tx = tx2) else if k = 6 then decide (by' = by2) else if k = 7 then decide (rf = rf2) else if k = 8 then l.sm l2 else if k = 9 then fs.sm fs2 else decide (c = c2) && decide (v = v2) && fs.sm fs2)
def TmL.sm : TmL → TmL → Bool
  | .nil, .nil => true
  | .cons t l, .cons t2 l2 => t.sm t2 && l.sm l2
  | .nil, .cons _ _ => false
  | .cons _ _, .nil => false
def TmF.sm : TmF → TmF → Bool
  | .nil, .nil => true
  | .cons n t l, .cons n2 t2 l2 => decide (n = n2) && (t.sm t2 && l.sm l2)
  | .nil, .cons _ _ _ => false
  | .cons _ _ _, .nil => false
end
theorem TmL.sm_len : (a b : TmL) → a.len ≠ b.len → a.sm b = false
  | .nil, .nil, h => absurd rfl h
  | .nil, .cons _ _, _ => by simp [TmL.sm]
  | .cons _ _, .nil, _ => by simp [TmL.sm]
  | .cons t l, .cons u r, h => by simp only [TmL.sm, TmL.sm_len l r (fun e => h (by simp [TmL.len, e])), Bool.and_false]
theorem TmF.sm_len : (a b : TmF) → a.len ≠ b.len → a.sm b = false
  | .nil, .nil, h => absurd rfl h
  | .nil, .cons _ _ _, _ => by simp [TmF.sm]
  | .cons _ _ _, .nil, _ => by simp [TmF.sm]
  | .cons n t l, .cons m u r, h => by simp only [TmF.sm, TmF.sm_len l r (fun e => h (by simp [TmF.len, e])), Bool.and_false]
/-- terms whose kinds can be -/
def XSmC (N : Nat) : Prop := ∀ (s t : Tm), s.sz ≤ N → s.Ok → ∀ (cs ct : Array Value) (S : Nat → Prop) (w : World), s.In w S cs → t.In w S ct → Sub S w →
  Calls Try.prog 22 #[.agg cs, .agg ct] w fun e w' => e = .returned (.bool (s.sm t)) ∧ Below w.heap.size w w'
theorem XSmC.at {N : Nat} (HC : XSmC N) {s t : Tm} (hN : s.sz ≤ N) (ho : s.Ok) {r : Bool} (hr : s.sm t = r) {cs ct : Array Value} {S : Nat → Prop} {w : World} (hs : s.In w S cs) (ht : t.In w S ct) (hS : Sub S w) :
    ∀ W, Below w.heap.size w W → Calls Try.prog 22 #[.agg cs, .agg ct] W fun e w' => e = .returned (.bool r) ∧ Below W.heap.size W w' := by
  subst hr; exact fun W hW => HC s t hN ho cs ct S W (s.In_same (hS.same hW) (fun _ h => h) cs hs) (t.In_same (hS.same hW) (fun _ h => h) ct ht) (hS.later hW)

set_option maxRecDepth 100000 in
set_option maxHeartbeats 2000000 in
theorem xlists_len (A B : TmL) (h : A.len ≠ B.len) (a b : Option Addr) (ca cb : Nat) (w : World) :
    Calls Try.prog 41 #[.slice a A.len ca, .slice b B.len cb] w fun e w' => e = .returned (.bool (A.sm B)) ∧ Below w.heap.size w w' := by
  have hs := TmL.sm_len A B h
  rw [hs]
  have hn : ((A.len : Int) != (B.len : Int)) = true := by simp; omega
  clear hs h
  generalize A.len = m at *
  generalize B.len = n at *
  go_enter Try.func41, Try.ntmps41
  go_wp2_with fail
  go_ret
  exact ⟨rfl, Below.refl _ _⟩

set_option maxRecDepth 100000 in
set_option maxHeartbeats 2000000 in
theorem xlists_any (N : Nat) (HC : XSmC N) (A B : TmL) (hlen : A.len = B.len) (hok : A.Ok) (hN : A.sz ≤ N) (a b : Option Addr) (ca cb : Nat) (S : Nat → Prop) (w : World) (ha : A.In w S a 0) (hb : B.In w S b 0) (hS : Sub S w) (la : A.len * 152 ≤ 140737488355328) :
    Calls Try.prog 41 #[.slice a A.len ca, .slice b B.len cb] w fun e w' => e = .returned (.bool (A.sm B)) ∧ Below w.heap.size w w' := by
  have HCH : Hid (XSmC N) := HC
  have H0 : Hid (A.In w S a 0 ∧ B.In w S b 0 ∧ A.len = B.len ∧ A.Ok) := ⟨ha, hb, hlen, hok⟩
  rw [← hlen]
  clear HC ha hb hlen hok
  go_enter Try.func41, Try.ntmps41
  go_wp2_with fail
  go_loopw [5] (fun x wr => ∃ (k : Nat) (l r : TmL), x = .int .i64 k ∧ l.len + k = A.len ∧ l.sz ≤ N ∧ Hid (l.In w S a k ∧ r.In w S b k ∧ l.len = r.len ∧ l.Ok) ∧ Hid (A.sm B = l.sm r) ∧ Hid (Below w.heap.size w wr)) (fun x _ => A.len - (intOf x).toNat)
  case atStart => exact ⟨0, A, B, rfl, rfl, hN, H0.out, rfl, Below.refl _ _⟩
  case round =>
    obtain ⟨k, l, r, rfl, hl, hlN, HI, HT, HW⟩ := hrel
    clear H0
    cases l with
    | nil =>
      have h1 : A.len ≤ k := by simp [TmL.len] at hl; omega
      have HTT : Hid (A.sm B = true) := by
        show _ = _
        have h2 := HI.out.2.2.1
        cases r with
        | nil => rw [HT.out]; simp [TmL.sm]
        | cons u r => simp [TmL.len] at h2
      clear hl
      go_wp2_with fail
      go_ret
      exact ⟨ret_bool HTT.out.symm, HW.out⟩
    | cons t l =>
     cases r with
     | nil => exact absurd HI.out.2.2.1 (by simp [TmL.len])
     | cons u r =>
      have hokt := HI.out.2.2.2.head
      have hlr : l.len = r.len := by have := HI.out.2.2.1; simpa [TmL.len] using this
      cases hT : t.sm u with
      | true =>
        obtain ⟨hv1, hv2, _, _⟩ := HI.out
        simp only [TmL.In] at hv1 hv2
        obtain ⟨g1, o1, cs1, rfl, hg1, c1, ht, hl'⟩ := hv1
        obtain ⟨g2, o2, cs2, rfl, hg2, c2, hu, hr'⟩ := hv2
        have hk1 : k < A.len := by simp only [TmL.len] at hl; omega
        have hi0 : (0 : Int) ≤ (k : Int) := Int.natCast_nonneg _
        have hi1 : (k : Int) < (A.len : Int) := by omega
        have HL : Hid (l.len + (k + 1) = A.len) := by show _ = _; simp only [TmL.len] at hl; omega
        have htN : t.sz ≤ N ∧ l.sz ≤ N := by simp [TmL.sz] at hlN; omega
        have hs : Same S w wr := hS.same HW.out
        have HTT : Hid (A.sm B = l.sm r) := by show _ = _; rw [HT.out, TmL.sm, hT, Bool.true_and]
        have HO : Hid (∀ W, Below wr.heap.size wr W → Calls Try.prog 22 #[.agg cs1, .agg cs2] W fun e w' => e = .returned (.bool true) ∧ Below W.heap.size W w') :=
          HCH.out.at htN.1 hokt.1 hT (t.In_same hs (fun _ h => h) cs1 ht) (u.In_same hs (fun _ h => h) cs2 hu) (hS.later HW.out)
        obtain ⟨k1, b1, i1, f1, tx1, vb1, rf1, vl1, vf1, cl1, vr1, rfl⟩ := Tm.In_tc ht
        obtain ⟨k2, b2, i2, f2, tx2, vb2, rf2, vl2, vf2, cl2, vr2, rfl⟩ := Tm.In_tc hu
        obtain ⟨e0, e1, e2, e3, e4, e5, e6, e7, e8, e9, e10⟩ := eleven (w := wr) (g := g1) (o := o1 + k * 11) (fun x hx => by rw [hs.cell (p := ⟨g1, o1 + k * 11 + x, none⟩) hg1]; exact c1 x hx)
        obtain ⟨d0, d1, d2, d3, d4, d5, d6, d7, d8, d9, d10⟩ := eleven (w := wr) (g := g2) (o := o2 + k * 11) (fun x hx => by rw [hs.cell (p := ⟨g2, o2 + k * 11 + x, none⟩) hg2]; exact c2 x hx)
        have HN : Hid (l.In w S (some ⟨g1, o1, none⟩) (k + 1) ∧ r.In w S (some ⟨g2, o2, none⟩) (k + 1) ∧ l.len = r.len ∧ l.Ok) := ⟨hl', hr', hlr, hokt.2⟩
        unfold tcells at HO
        clear hT hl hlN HI hl' hr' ht hu hs c1 c2 hlr hokt
        go_wp2_with fail
        go_region_with ((go_at_call 22; refine (HO.out _ ?_).mono ?_; exact (Below.refl _ _).drew; rintro e w4 ⟨rfl, hb4⟩; have HB4 : Hid (Below w.heap.size w w4) := HW.out.trans (((Below.refl _ _).drew.trans hb4).mono HW.out.size); clear hb4))
        all_goals
          go_wp2_with fail
          go_roundw
          case rel => exact ⟨k + 1, l, r, by go_num, HL.out, htN.2, HN.out, HTT.out, HB4.out⟩
          case measure => simp [intOf]; omega
      | false =>
        obtain ⟨hv1, hv2, _, _⟩ := HI.out
        simp only [TmL.In] at hv1 hv2
        obtain ⟨g1, o1, cs1, rfl, hg1, c1, ht, hl'⟩ := hv1
        obtain ⟨g2, o2, cs2, rfl, hg2, c2, hu, hr'⟩ := hv2
        have hk1 : k < A.len := by simp only [TmL.len] at hl; omega
        have hi0 : (0 : Int) ≤ (k : Int) := Int.natCast_nonneg _
        have hi1 : (k : Int) < (A.len : Int) := by omega
        have HL : Hid (l.len + (k + 1) = A.len) := by show _ = _; simp only [TmL.len] at hl; omega
        have htN : t.sz ≤ N ∧ l.sz ≤ N := by simp [TmL.sz] at hlN; omega
        have hs : Same S w wr := hS.same HW.out
        have HTT : Hid (A.sm B = false) := by show _ = _; rw [HT.out, TmL.sm, hT, Bool.false_and]
        have HO : Hid (∀ W, Below wr.heap.size wr W → Calls Try.prog 22 #[.agg cs1, .agg cs2] W fun e w' => e = .returned (.bool false) ∧ Below W.heap.size W w') :=
          HCH.out.at htN.1 hokt.1 hT (t.In_same hs (fun _ h => h) cs1 ht) (u.In_same hs (fun _ h => h) cs2 hu) (hS.later HW.out)
        obtain ⟨k1, b1, i1, f1, tx1, vb1, rf1, vl1, vf1, cl1, vr1, rfl⟩ := Tm.In_tc ht
        obtain ⟨k2, b2, i2, f2, tx2, vb2, rf2, vl2, vf2, cl2, vr2, rfl⟩ := Tm.In_tc hu
        obtain ⟨e0, e1, e2, e3, e4, e5, e6, e7, e8, e9, e10⟩ := eleven (w := wr) (g := g1) (o := o1 + k * 11) (fun x hx => by rw [hs.cell (p := ⟨g1, o1 + k * 11 + x, none⟩) hg1]; exact c1 x hx)
        obtain ⟨d0, d1, d2, d3, d4, d5, d6, d7, d8, d9, d10⟩ := eleven (w := wr) (g := g2) (o := o2 + k * 11) (fun x hx => by rw [hs.cell (p := ⟨g2, o2 + k * 11 + x, none⟩) hg2]; exact c2 x hx)
        have HN : Hid (l.In w S (some ⟨g1, o1, none⟩) (k + 1) ∧ r.In w S (some ⟨g2, o2, none⟩) (k + 1) ∧ l.len = r.len ∧ l.Ok) := ⟨hl', hr', hlr, hokt.2⟩
        unfold tcells at HO
        clear hT hl hlN HI hl' hr' ht hu hs c1 c2 hlr hokt
        go_wp2_with fail
        go_region_with ((go_at_call 22; refine (HO.out _ ?_).mono ?_; exact (Below.refl _ _).drew; rintro e w4 ⟨rfl, hb4⟩; have HB4 : Hid (Below w.heap.size w w4) := HW.out.trans (((Below.refl _ _).drew.trans hb4).mono HW.out.size); clear hb4))
        all_goals
          go_wp2_with fail
          go_ret
          exact ⟨ret_bool HTT.out.symm, HB4.out⟩
end Go.Proofs.Ytjmhodngmfaboaa

/- tenonmake.Entries at whatever entries. -/
namespace Go.Proofs.Ytjmhodngmfaboaa
open Go.RowKit

set_option maxRecDepth 100000 in
set_option maxHeartbeats 2000000 in
theorem xentries_len (A B : TmF) (h : A.len ≠ B.len) (a b : Option Addr) (ca cb : Nat) (w : World) :
    Calls Try.prog 42 #[.slice a A.len ca, .slice b B.len cb] w fun e w' => e = .returned (.bool (A.sm B)) ∧ Below w.heap.size w w' := by
  have hs := TmF.sm_len A B h
  rw [hs]
  have hn : ((A.len : Int) != (B.len : Int)) = true := by simp; omega
  clear hs h
  generalize A.len = m at *
  generalize B.len = n at *
  go_enter Try.func42, Try.ntmps42
  go_wp2_with fail
  go_ret
  exact ⟨rfl, Below.refl _ _⟩
theorem ne_list {a b : ByteArray} (h : a ≠ b) : (a.toList == b.toList) = false := by
  rw [same_of, decide_eq_false_iff_not]
  intro e
  exact h (by
    have := (cmp_eq_zero a.data.toList b.data.toList).1 e
    cases a; cases b
    simp at this
    rw [this])

set_option maxRecDepth 100000 in
set_option maxHeartbeats 2000000 in
theorem xentries_any (N : Nat) (HC : XSmC N) (A B : TmF) (hlen : A.len = B.len) (hok : A.Ok) (hN : A.sz ≤ N) (a b : Option Addr) (ca cb : Nat) (S : Nat → Prop) (w : World) (ha : A.In w S a 0) (hb : B.In w S b 0) (hS : Sub S w) (la : A.len * 168 ≤ 140737488355328) :
    Calls Try.prog 42 #[.slice a A.len ca, .slice b B.len cb] w fun e w' => e = .returned (.bool (A.sm B)) ∧ Below w.heap.size w w' := by
  have HCH : Hid (XSmC N) := HC
  have H0 : Hid (A.In w S a 0 ∧ B.In w S b 0 ∧ A.len = B.len ∧ A.Ok) := ⟨ha, hb, hlen, hok⟩
  rw [← hlen]
  clear HC ha hb hlen hok
  go_enter Try.func42, Try.ntmps42
  go_wp2_with fail
  go_loopw [5] (fun x wr => ∃ (k : Nat) (l r : TmF), x = .int .i64 k ∧ l.len + k = A.len ∧ l.sz ≤ N ∧ Hid (l.In w S a k ∧ r.In w S b k ∧ l.len = r.len ∧ l.Ok) ∧ Hid (A.sm B = l.sm r) ∧ Hid (Below w.heap.size w wr)) (fun x _ => A.len - (intOf x).toNat)
  case atStart => exact ⟨0, A, B, rfl, rfl, hN, H0.out, rfl, Below.refl _ _⟩
  case round =>
    obtain ⟨k, l, r, rfl, hl, hlN, HI, HT, HW⟩ := hrel
    clear H0
    cases l with
    | nil =>
      have h1 : A.len ≤ k := by simp [TmF.len] at hl; omega
      have HTT : Hid (A.sm B = true) := by
        show _ = _
        have h2 := HI.out.2.2.1
        cases r with
        | nil => rw [HT.out]; simp [TmF.sm]
        | cons m u r => simp [TmF.len] at h2
      clear hl
      go_wp2_with fail
      go_ret
      exact ⟨ret_bool HTT.out.symm, HW.out⟩
    | cons n1 t l =>
     cases r with
     | nil => exact absurd HI.out.2.2.1 (by simp [TmF.len])
     | cons n2 u r =>
      have hokt := HI.out.2.2.2.head
      have hlr : l.len = r.len := by have := HI.out.2.2.1; simpa [TmF.len] using this
      by_cases hnm : n1 = n2
      case neg =>
        obtain ⟨hv1, hv2, _, _⟩ := HI.out
        simp only [TmF.In] at hv1 hv2
        obtain ⟨g1, o1, cs1, rfl, hg1, a1, _, c1, ht, hl'⟩ := hv1
        obtain ⟨g2, o2, cs2, rfl, hg2, a2, _, c2, hu, hr'⟩ := hv2
        have hk1 : k < A.len := by simp only [TmF.len] at hl; omega
        have hi0 : (0 : Int) ≤ (k : Int) := Int.natCast_nonneg _
        have hi1 : (k : Int) < (A.len : Int) := by omega
        have hs : Same S w wr := hS.same HW.out
        have HTT : Hid (A.sm B = false) := by show _ = _; rw [HT.out, TmF.sm, decide_eq_false hnm, Bool.false_and]
        have a1 : wr.cell? ⟨g1, o1 + k * 12, none⟩ = some (.string n1) := by rw [hs.cell (p := ⟨g1, o1 + k * 12, none⟩) hg1]; exact a1
        have a2 : wr.cell? ⟨g2, o2 + k * 12, none⟩ = some (.string n2) := by rw [hs.cell (p := ⟨g2, o2 + k * 12, none⟩) hg2]; exact a2
        have hne := ne_list hnm
        clear hl hlN HI hl' hr' ht hu hs c1 c2 hlr hokt hnm
        go_wp2_with fail
        go_quiet (fail)
        go_wp2_with fail
        go_ret
        exact ⟨ret_bool HTT.out.symm, HW.out.trans (below_drewN' _ _ _)⟩
      case pos =>
      subst hnm
      cases hT : t.sm u with
      | true =>
        obtain ⟨hv1, hv2, _, _⟩ := HI.out
        simp only [TmF.In] at hv1 hv2
        obtain ⟨g1, o1, cs1, rfl, hg1, a1, _, c1, ht, hl'⟩ := hv1
        obtain ⟨g2, o2, cs2, rfl, hg2, a2, _, c2, hu, hr'⟩ := hv2
        have hk1 : k < A.len := by simp only [TmF.len] at hl; omega
        have hi0 : (0 : Int) ≤ (k : Int) := Int.natCast_nonneg _
        have hi1 : (k : Int) < (A.len : Int) := by omega
        have HL : Hid (l.len + (k + 1) = A.len) := by show _ = _; simp only [TmF.len] at hl; omega
        have htN : t.sz ≤ N ∧ l.sz ≤ N := by simp [TmF.sz] at hlN; omega
        have hs : Same S w wr := hS.same HW.out
        have HTT : Hid (A.sm B = l.sm r) := by show _ = _; rw [HT.out, TmF.sm, hT, decide_eq_true rfl, Bool.true_and, Bool.true_and]
        have HO : Hid (∀ W, Below wr.heap.size wr W → Calls Try.prog 22 #[.agg cs1, .agg cs2] W fun e w' => e = .returned (.bool true) ∧ Below W.heap.size W w') :=
          HCH.out.at htN.1 hokt.1 hT (t.In_same hs (fun _ h => h) cs1 ht) (u.In_same hs (fun _ h => h) cs2 hu) (hS.later HW.out)
        obtain ⟨k1, b1, i1, f1, tx1, vb1, rf1, vl1, vf1, cl1, vr1, rfl⟩ := Tm.In_tc ht
        obtain ⟨k2, b2, i2, f2, tx2, vb2, rf2, vl2, vf2, cl2, vr2, rfl⟩ := Tm.In_tc hu
        obtain ⟨e0, e1, e2, e3, e4, e5, e6, e7, e8, e9, e10⟩ := eleven (w := wr) (g := g1) (o := o1 + k * 12 + 1) (fun x hx => by rw [hs.cell (p := ⟨g1, o1 + k * 12 + 1 + x, none⟩) hg1]; exact c1 x hx)
        obtain ⟨d0, d1, d2, d3, d4, d5, d6, d7, d8, d9, d10⟩ := eleven (w := wr) (g := g2) (o := o2 + k * 12 + 1) (fun x hx => by rw [hs.cell (p := ⟨g2, o2 + k * 12 + 1 + x, none⟩) hg2]; exact c2 x hx)
        have a1 : wr.cell? ⟨g1, o1 + k * 12, none⟩ = some (.string n1) := by rw [hs.cell (p := ⟨g1, o1 + k * 12, none⟩) hg1]; exact a1
        have a2 : wr.cell? ⟨g2, o2 + k * 12, none⟩ = some (.string n1) := by rw [hs.cell (p := ⟨g2, o2 + k * 12, none⟩) hg2]; exact a2
        have HN : Hid (l.In w S (some ⟨g1, o1, none⟩) (k + 1) ∧ r.In w S (some ⟨g2, o2, none⟩) (k + 1) ∧ l.len = r.len ∧ l.Ok) := ⟨hl', hr', hlr, hokt.2⟩
        unfold tcells at HO
        clear hT hl hlN HI hl' hr' ht hu hs c1 c2 hlr hokt
        have HX : Hid (∀ W, Below wr.heap.size wr W → W.cell? ⟨g1, o1 + k * 12, none⟩ = some (.string n1) ∧ W.cell? ⟨g2, o2 + k * 12, none⟩ = some (.string n1) ∧ W.cell? ⟨g1, o1 + k * 12 + 1, none⟩ = some (.int .i64 k1) ∧ W.cell? ⟨g1, o1 + k * 12 + 1 + 1, none⟩ = some (.bool b1) ∧ W.cell? ⟨g1, o1 + k * 12 + 1 + 2, none⟩ = some (.int .i64 i1) ∧ W.cell? ⟨g1, o1 + k * 12 + 1 + 3, none⟩ = some (.float .f64 f1) ∧ W.cell? ⟨g1, o1 + k * 12 + 1 + 4, none⟩ = some (.string tx1) ∧ W.cell? ⟨g1, o1 + k * 12 + 1 + 5, none⟩ = some (vb1) ∧ W.cell? ⟨g1, o1 + k * 12 + 1 + 6, none⟩ = some (.int .u64 rf1) ∧ W.cell? ⟨g1, o1 + k * 12 + 1 + 7, none⟩ = some (vl1) ∧ W.cell? ⟨g1, o1 + k * 12 + 1 + 8, none⟩ = some (vf1) ∧ W.cell? ⟨g1, o1 + k * 12 + 1 + 9, none⟩ = some (.string cl1) ∧ W.cell? ⟨g1, o1 + k * 12 + 1 + 10, none⟩ = some (.int .i64 vr1) ∧ W.cell? ⟨g2, o2 + k * 12 + 1, none⟩ = some (.int .i64 k2) ∧ W.cell? ⟨g2, o2 + k * 12 + 1 + 1, none⟩ = some (.bool b2) ∧ W.cell? ⟨g2, o2 + k * 12 + 1 + 2, none⟩ = some (.int .i64 i2) ∧ W.cell? ⟨g2, o2 + k * 12 + 1 + 3, none⟩ = some (.float .f64 f2) ∧ W.cell? ⟨g2, o2 + k * 12 + 1 + 4, none⟩ = some (.string tx2) ∧ W.cell? ⟨g2, o2 + k * 12 + 1 + 5, none⟩ = some (vb2) ∧ W.cell? ⟨g2, o2 + k * 12 + 1 + 6, none⟩ = some (.int .u64 rf2) ∧ W.cell? ⟨g2, o2 + k * 12 + 1 + 7, none⟩ = some (vl2) ∧ W.cell? ⟨g2, o2 + k * 12 + 1 + 8, none⟩ = some (vf2) ∧ W.cell? ⟨g2, o2 + k * 12 + 1 + 9, none⟩ = some (.string cl2) ∧ W.cell? ⟨g2, o2 + k * 12 + 1 + 10, none⟩ = some (.int .i64 vr2)) := fun W hW => by
          have h1 : ∀ j, W.cell? ⟨g1, j, none⟩ = wr.cell? ⟨g1, j, none⟩ := fun j => hW.cell (p := ⟨g1, j, none⟩) (hS.later HW.out _ hg1)
          have h2 : ∀ j, W.cell? ⟨g2, j, none⟩ = wr.cell? ⟨g2, j, none⟩ := fun j => hW.cell (p := ⟨g2, j, none⟩) (hS.later HW.out _ hg2)
          simp only [h1, h2]
          exact ⟨a1, a2, e0, e1, e2, e3, e4, e5, e6, e7, e8, e9, e10, d0, d1, d2, d3, d4, d5, d6, d7, d8, d9, d10⟩
        clear a1 a2 e0 e1 e2 e3 e4 e5 e6 e7 e8 e9 e10 d0 d1 d2 d3 d4 d5 d6 d7 d8 d9 d10
        go_wp2_with fail
        go_region_held3 (fun W => W.cell? ⟨g1, o1 + k * 12, none⟩ = some (.string n1) ∧ W.cell? ⟨g2, o2 + k * 12, none⟩ = some (.string n1) ∧ W.cell? ⟨g1, o1 + k * 12 + 1, none⟩ = some (.int .i64 k1) ∧ W.cell? ⟨g1, o1 + k * 12 + 1 + 1, none⟩ = some (.bool b1) ∧ W.cell? ⟨g1, o1 + k * 12 + 1 + 2, none⟩ = some (.int .i64 i1) ∧ W.cell? ⟨g1, o1 + k * 12 + 1 + 3, none⟩ = some (.float .f64 f1) ∧ W.cell? ⟨g1, o1 + k * 12 + 1 + 4, none⟩ = some (.string tx1) ∧ W.cell? ⟨g1, o1 + k * 12 + 1 + 5, none⟩ = some (vb1) ∧ W.cell? ⟨g1, o1 + k * 12 + 1 + 6, none⟩ = some (.int .u64 rf1) ∧ W.cell? ⟨g1, o1 + k * 12 + 1 + 7, none⟩ = some (vl1) ∧ W.cell? ⟨g1, o1 + k * 12 + 1 + 8, none⟩ = some (vf1) ∧ W.cell? ⟨g1, o1 + k * 12 + 1 + 9, none⟩ = some (.string cl1) ∧ W.cell? ⟨g1, o1 + k * 12 + 1 + 10, none⟩ = some (.int .i64 vr1) ∧ W.cell? ⟨g2, o2 + k * 12 + 1, none⟩ = some (.int .i64 k2) ∧ W.cell? ⟨g2, o2 + k * 12 + 1 + 1, none⟩ = some (.bool b2) ∧ W.cell? ⟨g2, o2 + k * 12 + 1 + 2, none⟩ = some (.int .i64 i2) ∧ W.cell? ⟨g2, o2 + k * 12 + 1 + 3, none⟩ = some (.float .f64 f2) ∧ W.cell? ⟨g2, o2 + k * 12 + 1 + 4, none⟩ = some (.string tx2) ∧ W.cell? ⟨g2, o2 + k * 12 + 1 + 5, none⟩ = some (vb2) ∧ W.cell? ⟨g2, o2 + k * 12 + 1 + 6, none⟩ = some (.int .u64 rf2) ∧ W.cell? ⟨g2, o2 + k * 12 + 1 + 7, none⟩ = some (vl2) ∧ W.cell? ⟨g2, o2 + k * 12 + 1 + 8, none⟩ = some (vf2) ∧ W.cell? ⟨g2, o2 + k * 12 + 1 + 9, none⟩ = some (.string cl2) ∧ W.cell? ⟨g2, o2 + k * 12 + 1 + 10, none⟩ = some (.int .i64 vr2))
          (first | with_reducible exact HX.out w4 HB4.out | with_reducible exact HX.out _ (Below.refl _ _) | with_reducible exact HX.out _ (Below.refl _ _).drew)
          ((first
            | (go_at_call 22; refine (HO.out _ ?_).mono ?_; exact (Below.refl _ _).drew; rintro e w4 ⟨rfl, hb4⟩; have HB4 : Hid (Below wr.heap.size wr w4) := (Below.refl _ _).drew.trans hb4; clear hb4)))
        have HB5 : Hid (Below w.heap.size w w4) := HW.out.trans (HB4.out.mono HW.out.size)
        go_wp2_with fail
        go_roundw
        case rel => exact ⟨k + 1, l, r, by go_num, HL.out, htN.2, HN.out, HTT.out, HB5.out⟩
        case measure => simp [intOf]; omega
      | false =>
        obtain ⟨hv1, hv2, _, _⟩ := HI.out
        simp only [TmF.In] at hv1 hv2
        obtain ⟨g1, o1, cs1, rfl, hg1, a1, _, c1, ht, hl'⟩ := hv1
        obtain ⟨g2, o2, cs2, rfl, hg2, a2, _, c2, hu, hr'⟩ := hv2
        have hk1 : k < A.len := by simp only [TmF.len] at hl; omega
        have hi0 : (0 : Int) ≤ (k : Int) := Int.natCast_nonneg _
        have hi1 : (k : Int) < (A.len : Int) := by omega
        have HL : Hid (l.len + (k + 1) = A.len) := by show _ = _; simp only [TmF.len] at hl; omega
        have htN : t.sz ≤ N ∧ l.sz ≤ N := by simp [TmF.sz] at hlN; omega
        have hs : Same S w wr := hS.same HW.out
        have HTT : Hid (A.sm B = false) := by show _ = _; rw [HT.out, TmF.sm, hT, Bool.false_and, Bool.and_false]
        have HO : Hid (∀ W, Below wr.heap.size wr W → Calls Try.prog 22 #[.agg cs1, .agg cs2] W fun e w' => e = .returned (.bool false) ∧ Below W.heap.size W w') :=
          HCH.out.at htN.1 hokt.1 hT (t.In_same hs (fun _ h => h) cs1 ht) (u.In_same hs (fun _ h => h) cs2 hu) (hS.later HW.out)
        obtain ⟨k1, b1, i1, f1, tx1, vb1, rf1, vl1, vf1, cl1, vr1, rfl⟩ := Tm.In_tc ht
        obtain ⟨k2, b2, i2, f2, tx2, vb2, rf2, vl2, vf2, cl2, vr2, rfl⟩ := Tm.In_tc hu
        obtain ⟨e0, e1, e2, e3, e4, e5, e6, e7, e8, e9, e10⟩ := eleven (w := wr) (g := g1) (o := o1 + k * 12 + 1) (fun x hx => by rw [hs.cell (p := ⟨g1, o1 + k * 12 + 1 + x, none⟩) hg1]; exact c1 x hx)
        obtain ⟨d0, d1, d2, d3, d4, d5, d6, d7, d8, d9, d10⟩ := eleven (w := wr) (g := g2) (o := o2 + k * 12 + 1) (fun x hx => by rw [hs.cell (p := ⟨g2, o2 + k * 12 + 1 + x, none⟩) hg2]; exact c2 x hx)
        have a1 : wr.cell? ⟨g1, o1 + k * 12, none⟩ = some (.string n1) := by rw [hs.cell (p := ⟨g1, o1 + k * 12, none⟩) hg1]; exact a1
        have a2 : wr.cell? ⟨g2, o2 + k * 12, none⟩ = some (.string n1) := by rw [hs.cell (p := ⟨g2, o2 + k * 12, none⟩) hg2]; exact a2
        have HN : Hid (l.In w S (some ⟨g1, o1, none⟩) (k + 1) ∧ r.In w S (some ⟨g2, o2, none⟩) (k + 1) ∧ l.len = r.len ∧ l.Ok) := ⟨hl', hr', hlr, hokt.2⟩
        unfold tcells at HO
        clear hT hl hlN HI hl' hr' ht hu hs c1 c2 hlr hokt
        have HX : Hid (∀ W, Below wr.heap.size wr W → W.cell? ⟨g1, o1 + k * 12, none⟩ = some (.string n1) ∧ W.cell? ⟨g2, o2 + k * 12, none⟩ = some (.string n1) ∧ W.cell? ⟨g1, o1 + k * 12 + 1, none⟩ = some (.int .i64 k1) ∧ W.cell? ⟨g1, o1 + k * 12 + 1 + 1, none⟩ = some (.bool b1) ∧ W.cell? ⟨g1, o1 + k * 12 + 1 + 2, none⟩ = some (.int .i64 i1) ∧ W.cell? ⟨g1, o1 + k * 12 + 1 + 3, none⟩ = some (.float .f64 f1) ∧ W.cell? ⟨g1, o1 + k * 12 + 1 + 4, none⟩ = some (.string tx1) ∧ W.cell? ⟨g1, o1 + k * 12 + 1 + 5, none⟩ = some (vb1) ∧ W.cell? ⟨g1, o1 + k * 12 + 1 + 6, none⟩ = some (.int .u64 rf1) ∧ W.cell? ⟨g1, o1 + k * 12 + 1 + 7, none⟩ = some (vl1) ∧ W.cell? ⟨g1, o1 + k * 12 + 1 + 8, none⟩ = some (vf1) ∧ W.cell? ⟨g1, o1 + k * 12 + 1 + 9, none⟩ = some (.string cl1) ∧ W.cell? ⟨g1, o1 + k * 12 + 1 + 10, none⟩ = some (.int .i64 vr1) ∧ W.cell? ⟨g2, o2 + k * 12 + 1, none⟩ = some (.int .i64 k2) ∧ W.cell? ⟨g2, o2 + k * 12 + 1 + 1, none⟩ = some (.bool b2) ∧ W.cell? ⟨g2, o2 + k * 12 + 1 + 2, none⟩ = some (.int .i64 i2) ∧ W.cell? ⟨g2, o2 + k * 12 + 1 + 3, none⟩ = some (.float .f64 f2) ∧ W.cell? ⟨g2, o2 + k * 12 + 1 + 4, none⟩ = some (.string tx2) ∧ W.cell? ⟨g2, o2 + k * 12 + 1 + 5, none⟩ = some (vb2) ∧ W.cell? ⟨g2, o2 + k * 12 + 1 + 6, none⟩ = some (.int .u64 rf2) ∧ W.cell? ⟨g2, o2 + k * 12 + 1 + 7, none⟩ = some (vl2) ∧ W.cell? ⟨g2, o2 + k * 12 + 1 + 8, none⟩ = some (vf2) ∧ W.cell? ⟨g2, o2 + k * 12 + 1 + 9, none⟩ = some (.string cl2) ∧ W.cell? ⟨g2, o2 + k * 12 + 1 + 10, none⟩ = some (.int .i64 vr2)) := fun W hW => by
          have h1 : ∀ j, W.cell? ⟨g1, j, none⟩ = wr.cell? ⟨g1, j, none⟩ := fun j => hW.cell (p := ⟨g1, j, none⟩) (hS.later HW.out _ hg1)
          have h2 : ∀ j, W.cell? ⟨g2, j, none⟩ = wr.cell? ⟨g2, j, none⟩ := fun j => hW.cell (p := ⟨g2, j, none⟩) (hS.later HW.out _ hg2)
          simp only [h1, h2]
          exact ⟨a1, a2, e0, e1, e2, e3, e4, e5, e6, e7, e8, e9, e10, d0, d1, d2, d3, d4, d5, d6, d7, d8, d9, d10⟩
        clear a1 a2 e0 e1 e2 e3 e4 e5 e6 e7 e8 e9 e10 d0 d1 d2 d3 d4 d5 d6 d7 d8 d9 d10
        go_wp2_with fail
        go_region_held3 (fun W => W.cell? ⟨g1, o1 + k * 12, none⟩ = some (.string n1) ∧ W.cell? ⟨g2, o2 + k * 12, none⟩ = some (.string n1) ∧ W.cell? ⟨g1, o1 + k * 12 + 1, none⟩ = some (.int .i64 k1) ∧ W.cell? ⟨g1, o1 + k * 12 + 1 + 1, none⟩ = some (.bool b1) ∧ W.cell? ⟨g1, o1 + k * 12 + 1 + 2, none⟩ = some (.int .i64 i1) ∧ W.cell? ⟨g1, o1 + k * 12 + 1 + 3, none⟩ = some (.float .f64 f1) ∧ W.cell? ⟨g1, o1 + k * 12 + 1 + 4, none⟩ = some (.string tx1) ∧ W.cell? ⟨g1, o1 + k * 12 + 1 + 5, none⟩ = some (vb1) ∧ W.cell? ⟨g1, o1 + k * 12 + 1 + 6, none⟩ = some (.int .u64 rf1) ∧ W.cell? ⟨g1, o1 + k * 12 + 1 + 7, none⟩ = some (vl1) ∧ W.cell? ⟨g1, o1 + k * 12 + 1 + 8, none⟩ = some (vf1) ∧ W.cell? ⟨g1, o1 + k * 12 + 1 + 9, none⟩ = some (.string cl1) ∧ W.cell? ⟨g1, o1 + k * 12 + 1 + 10, none⟩ = some (.int .i64 vr1) ∧ W.cell? ⟨g2, o2 + k * 12 + 1, none⟩ = some (.int .i64 k2) ∧ W.cell? ⟨g2, o2 + k * 12 + 1 + 1, none⟩ = some (.bool b2) ∧ W.cell? ⟨g2, o2 + k * 12 + 1 + 2, none⟩ = some (.int .i64 i2) ∧ W.cell? ⟨g2, o2 + k * 12 + 1 + 3, none⟩ = some (.float .f64 f2) ∧ W.cell? ⟨g2, o2 + k * 12 + 1 + 4, none⟩ = some (.string tx2) ∧ W.cell? ⟨g2, o2 + k * 12 + 1 + 5, none⟩ = some (vb2) ∧ W.cell? ⟨g2, o2 + k * 12 + 1 + 6, none⟩ = some (.int .u64 rf2) ∧ W.cell? ⟨g2, o2 + k * 12 + 1 + 7, none⟩ = some (vl2) ∧ W.cell? ⟨g2, o2 + k * 12 + 1 + 8, none⟩ = some (vf2) ∧ W.cell? ⟨g2, o2 + k * 12 + 1 + 9, none⟩ = some (.string cl2) ∧ W.cell? ⟨g2, o2 + k * 12 + 1 + 10, none⟩ = some (.int .i64 vr2))
          (first | with_reducible exact HX.out w4 HB4.out | with_reducible exact HX.out _ (Below.refl _ _) | with_reducible exact HX.out _ (Below.refl _ _).drew)
          ((first
            | (go_at_call 22; refine (HO.out _ ?_).mono ?_; exact (Below.refl _ _).drew; rintro e w4 ⟨rfl, hb4⟩; have HB4 : Hid (Below wr.heap.size wr w4) := (Below.refl _ _).drew.trans hb4; clear hb4)))
        have HB5 : Hid (Below w.heap.size w w4) := HW.out.trans (HB4.out.mono HW.out.size)
        go_wp2_with fail
        go_ret
        exact ⟨ret_bool HTT.out.symm, HB5.out⟩
end Go.Proofs.Ytjmhodngmfaboaa

/- tenonmake.Same at whatever two terms the first of which can be. -/
namespace Go.Proofs.Ytjmhodngmfaboaa
open Go.RowKit

section
variable (b : Bool) (i : Int) (f : Nat) (tx : ByteArray) (vb : Value) (rf : Int) (vl vf : Value) (c : ByteArray) (vr : Int)
variable (b2 : Bool) (i2 : Int) (f2 : Nat) (tx2 : ByteArray) (vb2 : Value) (rf2 : Int) (vl2 vf2 : Value) (c2 : ByteArray) (vr2 : Int) (w : World)
set_option maxRecDepth 100000 in
set_option maxHeartbeats 1000000 in
theorem xs_8 (r : Bool) (h : ∀ W, Below w.heap.size w W → Calls Try.prog 41 #[vl, vl2] W fun e w' => e = .returned (.bool r) ∧ Below W.heap.size W w') : Calls Try.prog 22 #[.agg (tcells 8 b i f tx vb rf vl vf c vr), .agg (tcells 8 b2 i2 f2 tx2 vb2 rf2 vl2 vf2 c2 vr2)] w fun e w' => e = .returned (.bool r) ∧ Below w.heap.size w w' := by
  unfold tcells
  have HX : Hid _ := h
  clear h
  have HB := two_below w
  have HB : Hid _ := HB
  go_enter Try.func22, Try.ntmps22
  go_wp2_with (go_at_call 41; refine (HX.out _ (HB.out _ _)).mono ?_; rintro e w1 ⟨rfl, hb1⟩)
  go_ret
  exact ⟨rfl, below_to (HB.out _ _) hb1⟩
set_option maxRecDepth 100000 in
set_option maxHeartbeats 1000000 in
theorem xs_9 (r : Bool) (h : ∀ W, Below w.heap.size w W → Calls Try.prog 42 #[vf, vf2] W fun e w' => e = .returned (.bool r) ∧ Below W.heap.size W w') : Calls Try.prog 22 #[.agg (tcells 9 b i f tx vb rf vl vf c vr), .agg (tcells 9 b2 i2 f2 tx2 vb2 rf2 vl2 vf2 c2 vr2)] w fun e w' => e = .returned (.bool r) ∧ Below w.heap.size w w' := by
  unfold tcells
  have HX : Hid _ := h
  clear h
  have HB := two_below w
  have HB : Hid _ := HB
  go_enter Try.func22, Try.ntmps22
  go_wp2_with (go_at_call 42; refine (HX.out _ (HB.out _ _)).mono ?_; rintro e w1 ⟨rfl, hb1⟩)
  go_ret
  exact ⟨rfl, below_to (HB.out _ _) hb1⟩
set_option maxRecDepth 100000 in
set_option maxHeartbeats 1000000 in
theorem xs_10 (r : Bool) (h : ∀ W, Below w.heap.size w W → Calls Try.prog 42 #[vf, vf2] W fun e w' => e = .returned (.bool r) ∧ Below W.heap.size W w') : Calls Try.prog 22 #[.agg (tcells 10 b i f tx vb rf vl vf c vr), .agg (tcells 10 b2 i2 f2 tx2 vb2 rf2 vl2 vf2 c vr)] w fun e w' => e = .returned (.bool r) ∧ Below w.heap.size w w' := by
  unfold tcells
  have HX : Hid _ := h
  clear h
  have HB := two_below w
  have HB : Hid _ := HB
  go_enter Try.func22, Try.ntmps22
  go_wp2_with (go_at_call 42; refine (HX.out _ (HB.out _ _)).mono ?_; rintro e w1 ⟨rfl, hb1⟩)
  go_ret
  exact ⟨rfl, below_to (HB.out _ _) hb1⟩
set_option maxRecDepth 100000 in
set_option maxHeartbeats 1000000 in
theorem xs_kind (k k2 : Int) (h : k ≠ k2) : Calls Try.prog 22 #[.agg (tcells k b i f tx vb rf vl vf c vr), .agg (tcells k2 b2 i2 f2 tx2 vb2 rf2 vl2 vf2 c2 vr2)] w fun e w' => e = .returned (.bool false) ∧ Below w.heap.size w w' := by
  have hk : (k != k2) = true := by simp [h]
  clear h
  unfold tcells
  have HB := two_below w
  have HB : Hid _ := HB
  go_enter Try.func22, Try.ntmps22
  go_wp2_with fail
  go_ret
  exact ⟨by simp, HB.out _ _⟩
set_option maxRecDepth 100000 in
set_option maxHeartbeats 1000000 in
theorem xs_2 (h : b ≠ b2) : Calls Try.prog 22 #[.agg (tcells 2 b i f tx vb rf vl vf c vr), .agg (tcells 2 b2 i2 f2 tx2 vb2 rf2 vl2 vf2 c2 vr2)] w fun e w' => e = .returned (.bool false) ∧ Below w.heap.size w w' := by
  have HB := two_below w
  have HB : Hid _ := HB
  unfold tcells
  cases b <;> cases b2
  · exact absurd rfl h
  · clear h
    go_enter Try.func22, Try.ntmps22
    go_wp2_with fail
    go_ret
    exact ⟨by simp, HB.out _ _⟩
  · clear h
    go_enter Try.func22, Try.ntmps22
    go_wp2_with fail
    go_ret
    exact ⟨by simp, HB.out _ _⟩
  · exact absurd rfl h
set_option maxRecDepth 100000 in
set_option maxHeartbeats 1000000 in
theorem xs_3 (h : i ≠ i2) : Calls Try.prog 22 #[.agg (tcells 3 b i f tx vb rf vl vf c vr), .agg (tcells 3 b2 i2 f2 tx2 vb2 rf2 vl2 vf2 c2 vr2)] w fun e w' => e = .returned (.bool false) ∧ Below w.heap.size w w' := by
  have hk : (i == i2) = false := by simp [h]
  clear h
  unfold tcells
  have HB := two_below w
  have HB : Hid _ := HB
  go_enter Try.func22, Try.ntmps22
  go_wp2_with fail
  go_ret
  exact ⟨by simp, HB.out _ _⟩
set_option maxRecDepth 100000 in
set_option maxHeartbeats 1000000 in
theorem xs_4 (h : f ≠ f2) : Calls Try.prog 22 #[.agg (tcells 4 b i f tx vb rf vl vf c vr), .agg (tcells 4 b2 i2 f2 tx2 vb2 rf2 vl2 vf2 c2 vr2)] w fun e w' => e = .returned (.bool false) ∧ Below w.heap.size w w' := by
  have hk : ((f : Int) == (f2 : Int)) = false := by simp; omega
  have hb1 := bits_run f
  have hb2 := bits_run f2
  clear h
  unfold tcells
  have HB := two_below w
  have HB : Hid _ := HB
  go_enter Try.func22, Try.ntmps22
  go_wp2_with fail
  go_quiet (fail)
  go_wp2_with fail
  go_ret
  exact ⟨by simp, (HB.out _ _).trans (below_drewN' _ _ _)⟩
set_option maxRecDepth 100000 in
set_option maxHeartbeats 1000000 in
theorem xs_5 (h : tx ≠ tx2) : Calls Try.prog 22 #[.agg (tcells 5 b i f tx vb rf vl vf c vr), .agg (tcells 5 b2 i2 f2 tx2 vb2 rf2 vl2 vf2 c2 vr2)] w fun e w' => e = .returned (.bool false) ∧ Below w.heap.size w w' := by
  have hk := ne_list h
  clear h
  unfold tcells
  have HB := two_below w
  have HB : Hid _ := HB
  go_enter Try.func22, Try.ntmps22
  go_wp2_with fail
  go_ret
  exact ⟨by simp, HB.out _ _⟩
set_option maxRecDepth 100000 in
set_option maxHeartbeats 1000000 in
theorem xs_7 (h : rf ≠ rf2) : Calls Try.prog 22 #[.agg (tcells 7 b i f tx vb rf vl vf c vr), .agg (tcells 7 b2 i2 f2 tx2 vb2 rf2 vl2 vf2 c2 vr2)] w fun e w' => e = .returned (.bool false) ∧ Below w.heap.size w w' := by
  have hk : (rf == rf2) = false := by simp [h]
  clear h
  unfold tcells
  have HB := two_below w
  have HB : Hid _ := HB
  go_enter Try.func22, Try.ntmps22
  go_wp2_with fail
  go_ret
  exact ⟨by simp, HB.out _ _⟩
set_option maxRecDepth 100000 in
set_option maxHeartbeats 1000000 in
theorem xs_6 (x y : ByteArray) (h : x ≠ y) (a a2 : Option Addr) (ca cb : Nat) (S : Nat → Prop) (ha : BytesAt w S a x) (hb : BytesAt w S a2 y) (hS : Sub S w) : Calls Try.prog 22 #[.agg (tcells 6 b i f tx (.slice a x.size ca) rf vl vf c vr), .agg (tcells 6 b2 i2 f2 tx2 (.slice a2 y.size cb) rf2 vl2 vf2 c2 vr2)] w fun e w' => e = .returned (.bool false) ∧ Below w.heap.size w w' := by
  have hk := ne_list h
  have HL1 : ∀ o p, (convert 23 9 (.slice a x.size ca)).run Try.prog ((w.alloc o).alloc p) = .ok (.string x) ((w.alloc o).alloc p) := fun o p => conv_run x a ca S _ (ha.same (hS.same (two_below w o p)) (fun _ h => h))
  have HL2 : ∀ o p, (convert 23 9 (.slice a2 y.size cb)).run Try.prog ((w.alloc o).alloc p) = .ok (.string y) ((w.alloc o).alloc p) := fun o p => conv_run y a2 cb S _ (hb.same (hS.same (two_below w o p)) (fun _ h => h))
  clear ha hb h
  unfold tcells
  have HB := two_below w
  have HB : Hid _ := HB
  go_enter Try.func22, Try.ntmps22
  go_wp2_with fail
  go_ret
  exact ⟨by simp, HB.out _ _⟩
set_option maxRecDepth 100000 in
set_option maxHeartbeats 1000000 in
theorem xs_10c (h : c ≠ c2) : Calls Try.prog 22 #[.agg (tcells 10 b i f tx vb rf vl vf c vr), .agg (tcells 10 b2 i2 f2 tx2 vb2 rf2 vl2 vf2 c2 vr2)] w fun e w' => e = .returned (.bool false) ∧ Below w.heap.size w w' := by
  have hk := ne_list h
  clear h
  unfold tcells
  have HB := two_below w
  have HB : Hid _ := HB
  go_enter Try.func22, Try.ntmps22
  go_wp2_with fail
  go_ret
  exact ⟨by simp, HB.out _ _⟩
set_option maxRecDepth 100000 in
set_option maxHeartbeats 1000000 in
theorem xs_10v (h : vr ≠ vr2) : Calls Try.prog 22 #[.agg (tcells 10 b i f tx vb rf vl vf c vr), .agg (tcells 10 b2 i2 f2 tx2 vb2 rf2 vl2 vf2 c vr2)] w fun e w' => e = .returned (.bool false) ∧ Below w.heap.size w w' := by
  have hk : (vr == vr2) = false := by simp [h]
  clear h
  unfold tcells
  have HB := two_below w
  have HB : Hid _ := HB
  go_enter Try.func22, Try.ntmps22
  go_wp2_with fail
  go_ret
  exact ⟨by simp, HB.out _ _⟩
end

set_option maxHeartbeats 1000000 in
theorem xsame_any (N : Nat) : XSmC N := by
  induction N with
  | zero => intro t u ht; cases t; simp [Tm.sz] at ht
  | succ N ih =>
    intro s t hN ho cs ct S w hs ht hS
    cases s with
    | mk k b i f tx by' rf l fs c v =>
      cases t with
      | mk kk b2 i2 f2 tx2 by2 rf2 l2 fs2 c2 v2 =>
        have hlN : l.sz ≤ N ∧ fs.sz ≤ N := by simp [Tm.sz] at hN; omega
        obtain ⟨p1, p2, p3, p4⟩ := ho.parts
        simp only [Tm.In] at hs ht
        obtain ⟨ab, cb, al, cl, af, cf, rfl, bd, h1, h2, h3⟩ := hs
        obtain ⟨ab2, cb2, al2, cl2, af2, cf2, rfl, bd2, g1, g2, g3⟩ := ht
        have HF : ∀ (hk : k = 9 ∨ k = 10), ∀ W, Below w.heap.size w W → Calls Try.prog 42 #[.slice af fs.len cf, .slice af2 fs2.len cf2] W fun e w' => e = .returned (.bool (fs.sm fs2)) ∧ Below W.heap.size W w' := fun hk W hW => by
          by_cases hl : fs.len = fs2.len
          · exact xentries_any N ih fs fs2 hl (p4 hk) hlN.2 af af2 cf cf2 S W (fs.In_same (hS.same hW) (fun _ h => h) af 0 h3) (fs2.In_same (hS.same hW) (fun _ h => h) af2 0 g3) (hS.later hW) bd.nf
          · exact xentries_len fs fs2 hl af af2 cf cf2 W
        by_cases hkk : k = kk
        · subst hkk
          rw [Tm.sm, decide_eq_true rfl, Bool.true_and]
          by_cases k1 : k = 1
          · subst k1; exact msame_1 _ _ _ _ _ _ _ _ _ _ _ _ _ _ _ _ _ _ _ _ w
          rw [if_neg k1]
          by_cases k2 : k = 2
          · subst k2; rw [if_pos rfl]
            by_cases e : b = b2
            · subst e; rw [decide_eq_true rfl]; exact msame_2 _ _ _ _ _ _ _ _ _ _ _ _ _ _ _ _ _ _ _ w
            · rw [decide_eq_false e]; exact xs_2 _ _ _ _ _ _ _ _ _ _ _ _ _ _ _ _ _ _ _ _ w e
          rw [if_neg k2]
          by_cases k3 : k = 3
          · subst k3; rw [if_pos rfl]
            by_cases e : i = i2
            · subst e; rw [decide_eq_true rfl]; exact msame_3 _ _ _ _ _ _ _ _ _ _ _ _ _ _ _ _ _ _ _ w
            · rw [decide_eq_false e]; exact xs_3 _ _ _ _ _ _ _ _ _ _ _ _ _ _ _ _ _ _ _ _ w e
          rw [if_neg k3]
          by_cases k4 : k = 4
          · subst k4; rw [if_pos rfl]
            by_cases e : f = f2
            · subst e; rw [decide_eq_true rfl]; exact msame_4 _ _ _ _ _ _ _ _ _ _ _ _ _ _ _ _ _ _ _ w
            · rw [decide_eq_false e]; exact xs_4 _ _ _ _ _ _ _ _ _ _ _ _ _ _ _ _ _ _ _ _ w e
          rw [if_neg k4]
          by_cases k5 : k = 5
          · subst k5; rw [if_pos rfl]
            by_cases e : tx = tx2
            · subst e; rw [decide_eq_true rfl]; exact msame_5 _ _ _ _ _ _ _ _ _ _ _ _ _ _ _ _ _ _ _ w
            · rw [decide_eq_false e]; exact xs_5 _ _ _ _ _ _ _ _ _ _ _ _ _ _ _ _ _ _ _ _ w e
          rw [if_neg k5]
          by_cases k6 : k = 6
          · subst k6; rw [if_pos rfl]
            by_cases e : by' = by2
            · subst e; rw [decide_eq_true rfl]; exact msame_6 _ _ _ _ _ _ _ _ _ _ _ _ _ _ _ _ _ _ w by' ab ab2 cb cb2 S h1 g1 hS
            · rw [decide_eq_false e]; exact xs_6 _ _ _ _ _ _ _ _ _ _ _ _ _ _ _ _ _ _ w by' by2 e ab ab2 cb cb2 S h1 g1 hS
          rw [if_neg k6]
          by_cases k7 : k = 7
          · subst k7; rw [if_pos rfl]
            by_cases e : rf = rf2
            · subst e; rw [decide_eq_true rfl]; exact msame_7 _ _ _ _ _ _ _ _ _ _ _ _ _ _ _ _ _ _ _ w
            · rw [decide_eq_false e]; exact xs_7 _ _ _ _ _ _ _ _ _ _ _ _ _ _ _ _ _ _ _ _ w e
          rw [if_neg k7]
          by_cases k8 : k = 8
          · subst k8
            rw [if_pos rfl]
            refine xs_8 _ _ _ _ _ _ _ _ _ _ _ _ _ _ _ _ _ _ _ _ w (l.sm l2) (fun W hW => ?_)
            by_cases hl : l.len = l2.len
            · exact xlists_any N ih l l2 hl (p3 rfl) hlN.1 al al2 cl cl2 S W (l.In_same (hS.same hW) (fun _ h => h) al 0 h2) (l2.In_same (hS.same hW) (fun _ h => h) al2 0 g2) (hS.later hW) bd.nl
            · exact xlists_len l l2 hl al al2 cl cl2 W
          rw [if_neg k8]
          by_cases k9 : k = 9
          · subst k9; rw [if_pos rfl]; exact xs_9 _ _ _ _ _ _ _ _ _ _ _ _ _ _ _ _ _ _ _ _ w _ (HF (.inl rfl))
          rw [if_neg k9]
          have k10 : k = 10 := by omega
          subst k10
          by_cases e1 : c = c2
          · subst e1
            rw [decide_eq_true rfl, Bool.true_and]
            by_cases e2 : v = v2
            · subst e2
              rw [decide_eq_true rfl, Bool.true_and]
              exact xs_10 _ _ _ _ _ _ _ _ _ _ _ _ _ _ _ _ _ _ w _ (HF (.inr rfl))
            · rw [decide_eq_false e2, Bool.false_and]; exact xs_10v _ _ _ _ _ _ _ _ _ _ _ _ _ _ _ _ _ _ _ w e2
          · rw [decide_eq_false e1, Bool.false_and, Bool.false_and]; exact xs_10c _ _ _ _ _ _ _ _ _ _ _ _ _ _ _ _ _ _ _ _ w e1
        · rw [Tm.sm, decide_eq_false hkk, Bool.false_and]
          exact xs_kind _ _ _ _ _ _ _ _ _ _ _ _ _ _ _ _ _ _ _ _ w k kk hkk
end Go.Proofs.Ytjmhodngmfaboaa

/- Plain mathematics: two terms that can be are told to be the same just if their bytes are. -/
namespace Go.Proofs.Ytjmhodngmfaboaa

mutual
theorem Tm.sm_enc : (s t : Tm) → s.Ok → s.sm t = true → s.enc = t.enc
  | .mk k b i f tx by' rf l fs c v, .mk k2 b2 i2 f2 tx2 by2 rf2 l2 fs2 c2 v2, ho, h => by
    obtain ⟨p1, p2, p3, p4⟩ := ho.parts
    rw [Tm.sm] at h
    simp only [Bool.and_eq_true, decide_eq_true_eq] at h
    obtain ⟨rfl, h⟩ := h
    have hk : k = 1 ∨ k = 2 ∨ k = 3 ∨ k = 4 ∨ k = 5 ∨ k = 6 ∨ k = 7 ∨ k = 8 ∨ k = 9 ∨ k = 10 := by omega
    rcases hk with rfl | rfl | rfl | rfl | rfl | rfl | rfl | rfl | rfl | rfl
    · rw [Tm.enc_1, Tm.enc_1]
    · simp at h; subst h; rw [Tm.enc_2, Tm.enc_2]
    · simp at h; subst h; rw [Tm.enc_3, Tm.enc_3]
    · simp at h; subst h; rw [Tm.enc_4, Tm.enc_4]
    · simp at h; subst h; rw [Tm.enc_5, Tm.enc_5]
    · simp at h; subst h; rw [Tm.enc_6, Tm.enc_6]
    · simp at h; subst h; rw [Tm.enc_7, Tm.enc_7]
    · simp at h
      obtain ⟨e1, e2⟩ := TmL.sm_enc l l2 (p3 rfl) h
      rw [Tm.enc_8, Tm.enc_8, TmL.encR, TmL.encR, e1, e2]
    · simp at h
      obtain ⟨e1, e2⟩ := TmF.sm_enc fs fs2 (p4 (Or.inl rfl)) h
      rw [Tm.enc_9, Tm.enc_9, TmF.encR, TmF.encR, e1, e2]
    · simp at h
      obtain ⟨⟨rfl, rfl⟩, h⟩ := h
      obtain ⟨e1, e2⟩ := TmF.sm_enc fs fs2 (p4 (Or.inr rfl)) h
      rw [Tm.enc_10, Tm.enc_10, TmF.encR, TmF.encR, e1, e2]
theorem TmL.sm_enc : (l r : TmL) → l.Ok → l.sm r = true → l.enc = r.enc ∧ l.len = r.len
  | .nil, .nil, _, _ => ⟨rfl, rfl⟩
  | .nil, .cons _ _, _, h => by simp [TmL.sm] at h
  | .cons _ _, .nil, _, h => by simp [TmL.sm] at h
  | .cons t l, .cons u r, ho, h => by
    rw [TmL.sm, Bool.and_eq_true] at h
    obtain ⟨e1, e2⟩ := TmL.sm_enc l r ho.head.2 h.2
    exact ⟨by rw [TmL.enc, TmL.enc, Tm.sm_enc t u ho.head.1 h.1, e1], by simp [TmL.len, e2]⟩
theorem TmF.sm_enc : (l r : TmF) → l.Ok → l.sm r = true → l.enc = r.enc ∧ l.len = r.len
  | .nil, .nil, _, _ => ⟨rfl, rfl⟩
  | .nil, .cons _ _ _, _, h => by simp [TmF.sm] at h
  | .cons _ _ _, .nil, _, h => by simp [TmF.sm] at h
  | .cons n t l, .cons m u r, ho, h => by
    rw [TmF.sm, Bool.and_eq_true, Bool.and_eq_true, decide_eq_true_eq] at h
    obtain ⟨rfl, h1, h2⟩ := h
    obtain ⟨e1, e2⟩ := TmF.sm_enc l r ho.head.2 h2
    exact ⟨by rw [TmF.enc, TmF.enc, Tm.sm_enc t u ho.head.1 h1, e1], by simp [TmF.len, e2]⟩
end
mutual
theorem Tm.clean_sm : (s t : Tm) → s.Ok → s.clean = t.clean → s.sm t = true
  | .mk k b i f tx by' rf l fs c v, .mk k2 b2 i2 f2 tx2 by2 rf2 l2 fs2 c2 v2, ho, h => by
    obtain ⟨p1, p2, p3, p4⟩ := ho.parts
    rw [Tm.clean, Tm.clean] at h
    injection h with hk h2 h3 h4 h5 h6 h7 h8 h9 h10 h11
    subst hk
    rw [Tm.sm, decide_eq_true rfl, Bool.true_and]
    have hk : k = 1 ∨ k = 2 ∨ k = 3 ∨ k = 4 ∨ k = 5 ∨ k = 6 ∨ k = 7 ∨ k = 8 ∨ k = 9 ∨ k = 10 := by omega
    rcases hk with rfl | rfl | rfl | rfl | rfl | rfl | rfl | rfl | rfl | rfl
    · simp
    · simp at h2 ⊢; exact h2
    · simp at h3 ⊢; exact h3
    · simp at h4 ⊢; exact h4
    · simp at h5 ⊢; exact h5
    · simp at h6 ⊢; exact h6
    · simp at h7 ⊢; exact h7
    · simp at h8 ⊢; exact TmL.clean_sm l l2 (p3 rfl) h8
    · simp at h9 ⊢; exact TmF.clean_sm fs fs2 (p4 (Or.inl rfl)) h9
    · simp at h9 h10 h11 ⊢; exact ⟨⟨h10, h11⟩, TmF.clean_sm fs fs2 (p4 (Or.inr rfl)) h9⟩
theorem TmL.clean_sm : (l r : TmL) → l.Ok → l.clean = r.clean → l.sm r = true
  | .nil, .nil, _, _ => by simp [TmL.sm]
  | .nil, .cons _ _, _, h => by simp [TmL.clean] at h
  | .cons _ _, .nil, _, h => by simp [TmL.clean] at h
  | .cons t l, .cons u r, ho, h => by
    rw [TmL.clean, TmL.clean] at h
    injection h with h1 h2
    rw [TmL.sm, Tm.clean_sm t u ho.head.1 h1, TmL.clean_sm l r ho.head.2 h2]; rfl
theorem TmF.clean_sm : (l r : TmF) → l.Ok → l.clean = r.clean → l.sm r = true
  | .nil, .nil, _, _ => by simp [TmF.sm]
  | .nil, .cons _ _ _, _, h => by simp [TmF.clean] at h
  | .cons _ _ _, .nil, _, h => by simp [TmF.clean] at h
  | .cons n t l, .cons m u r, ho, h => by
    rw [TmF.clean, TmF.clean] at h
    injection h with h0 h1 h2
    subst h0
    rw [TmF.sm, Tm.clean_sm t u ho.head.1 h1, TmF.clean_sm l r ho.head.2 h2]; simp
end
theorem sm_iff {x y : Tm} (hx : x.all.e = 0) (hy : y.all.e = 0) (bx : x.Bdd) (b_y : y.Bdd) : x.sm y = decide (x.enc = y.enc) := by
  by_cases h : x.enc = y.enc
  · rw [decide_eq_true h]
    obtain ⟨q1, h1⟩ := rd_enc x [] hx bx
    obtain ⟨q2, h2⟩ := rd_enc y [] hy b_y
    rw [h, h2] at h1
    injection h1 with e1 e2
    injection e1 with e3 e4
    exact Tm.clean_sm x y (Tm.ok_all hx) e3.symm
  · rw [decide_eq_false h]
    cases hs : x.sm y with
    | false => rfl
    | true => exact absurd (Tm.sm_enc x y (Tm.ok_all hx) hs) h
end Go.Proofs.Ytjmhodngmfaboaa
