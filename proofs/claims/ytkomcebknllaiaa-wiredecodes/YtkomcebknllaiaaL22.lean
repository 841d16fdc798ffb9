/- Package value's order of dicts and records is the plain order of their terms' fields. -/
import Derived.Test.YtkomcebknllaiaaL21
import Derived.Test.YtkomcebknllaiaaL2
import Derived.Deep.RegionWith
import Derived.Test.YtkomcebknllaiaaL6
namespace Go.Proofs.Ytkomcebknllaiaa
open Go.RowKit

set_option maxRecDepth 100000 in
set_option maxHeartbeats 1000000 in
theorem orderDicts_any (N : Nat) (HC : OrderC N) (A B : TmF) (hN : A.sz ≤ N) (a b : Option Addr) (ca cb : Nat) (S : Nat → Prop) (w : World) (ha : A.V w S a 0) (hb : B.V w S b 0) (oa : A.Ok) (ob : B.Ok) (la : A.len ≤ maxLen) (lb : B.len ≤ maxLen) :
    Calls Try.prog 79 #[.slice a A.len ca, .slice b B.len cb] w fun e w' => e = .returned (.int .i64 (A.cmp B)) ∧ ∃ m, w' = w.drewN m := by
  unfold maxLen at la lb
  have HCH : Hid (OrderC N) := HC
  have H0 : Hid (A.V w S a 0 ∧ B.V w S b 0 ∧ A.Ok ∧ B.Ok) := ⟨ha, hb, oa, ob⟩
  clear HC ha hb oa ob
  by_cases hm : A.len ≤ B.len
  all_goals
    go_enter Try.func79, Try.ntmps79
    go_wp2_with fail
    go_loopw [13] (fun x wr => ∃ (k m : Nat) (l r : TmF), x = .int .i64 k ∧ l.len + k = A.len ∧ r.len + k = B.len ∧ l.sz ≤ N ∧ Hid (l.V w S a k ∧ r.V w S b k ∧ l.Ok ∧ r.Ok ∧ A.cmp B = l.cmp r) ∧ Hid (wr = w.drewN m)) (fun x _ => A.len - (intOf x).toNat)
    case atStart => exact ⟨0, 0, A, B, rfl, rfl, rfl, hN, ⟨H0.out.1, H0.out.2.1, H0.out.2.2.1, H0.out.2.2.2, rfl⟩, rfl⟩
    case round =>
      obtain ⟨k, m, l, r, rfl, hl, hr, hlN, HI, HW⟩ := hrel
      cases l with
      | nil =>
        have h1 : A.len ≤ k := by simp [TmF.len] at hl; omega
        have H : Hid (A.cmp B = Sp.cmpI A.len B.len) := by
          show _ = _
          rw [HI.out.2.2.2.2]
          cases r with
          | nil => simp only [TmF.len] at hl hr; simp only [TmF.cmp]; unfold Sp.cmpI; rw [if_neg (by omega), if_neg (by omega)]
          | cons n2 u r => simp only [TmF.len] at hl hr; simp only [TmF.cmp]; unfold Sp.cmpI; rw [if_pos (by omega)]
        have h2 : k ≤ B.len := by omega
        have h3 : A.len ≤ B.len := by simp only [TmF.len] at hl; omega
        clear hl hr
        first
        | (exfalso; omega)
        | (go_wp2_with (go_at_call 70; refine (cmpInt_any _ _ _).mono ?_; rintro e w' ⟨rfl, rfl⟩)
           go_ret
           exact ⟨ret_int H.out.symm, m, HW.out⟩)
      | cons n1 t l =>
        cases r with
        | nil =>
          have h1 : B.len ≤ k := by simp [TmF.len] at hr; omega
          have H : Hid (A.cmp B = Sp.cmpI A.len B.len) := by
            show _ = _
            rw [HI.out.2.2.2.2]
            simp only [TmF.len] at hl hr; simp only [TmF.cmp]; unfold Sp.cmpI; rw [if_neg (by omega), if_pos (by omega)]
          have h3 : B.len < A.len := by simp only [TmF.len] at hl hr; omega
          clear hl hr
          first
          | (exfalso; omega)
          | (go_wp2_with (go_at_call 70; refine (cmpInt_any _ _ _).mono ?_; rintro e w' ⟨rfl, rfl⟩)
             go_ret
             exact ⟨ret_int H.out.symm, m, HW.out⟩)
        | cons n2 u r =>
          obtain ⟨hv1, hv2, ho1, ho2, hc⟩ := HI.out
          simp only [TmF.V] at hv1 hv2
          obtain ⟨g1, o1, v1, rfl, _, a1, c1, _, ht, hl'⟩ := hv1
          obtain ⟨g2, o2, v2, rfl, _, a2, c2, _, hu, hr'⟩ := hv2
          have hk1 : k < A.len := by simp only [TmF.len] at hl; omega
          have hk2 : k < B.len := by simp only [TmF.len] at hr; omega
          have hi0 : (0 : Int) ≤ (k : Int) := Int.natCast_nonneg _
          have hi1 : (k : Int) < (A.len : Int) := by omega
          have hi2 : (k : Int) < (B.len : Int) := by omega
          have HL : Hid (l.len + (k + 1) = A.len ∧ r.len + (k + 1) = B.len) := by show _ ∧ _; simp only [TmF.len] at hl hr; omega
          have htN : t.sz ≤ N ∧ l.sz ≤ N := by simp [TmF.sz] at hlN; omega
          have HO : Hid (∀ n, Calls Try.prog 45 #[v1, v2] (wr.drewN n) fun e w' => e = .returned (.int .i64 (t.cmp u)) ∧ ∃ m, w' = (wr.drewN n).drewN m) := fun n => by
            have hs : Same S w (wr.drewN n) := fun k _ => by rw [HW.out]; rfl
            exact HCH.out t u htN.1 v1 v2 S (wr.drewN n) (t.V_same hs (fun _ h => h) v1 ht) (u.V_same hs (fun _ h => h) v2 hu) ho1.head.1 ho2.head.1
          have c1 : wr.cell? ⟨g1, o1 + k * 2 + 1, none⟩ = some v1 := by rw [HW.out]; exact c1
          have c2 : wr.cell? ⟨g2, o2 + k * 2 + 1, none⟩ = some v2 := by rw [HW.out]; exact c2
          have a1 : wr.cell? ⟨g1, o1 + k * 2, none⟩ = some (.string n1) := by rw [HW.out]; exact a1
          have a2 : wr.cell? ⟨g2, o2 + k * 2, none⟩ = some (.string n2) := by rw [HW.out]; exact a2
          have HWN : Hid (∀ q, ∃ m', wr.drewN q = w.drewN m') := fun q => ⟨m + q, by rw [HW.out]; simp⟩
          have HN : Hid (l.V w S (some ⟨g1, o1, none⟩) (k + 1) ∧ r.V w S (some ⟨g2, o2, none⟩) (k + 1) ∧ l.Ok ∧ r.Ok) := ⟨hl', hr', ho1.head.2, ho2.head.2⟩
          have HCC : Hid (A.cmp B = if Sp.cmpS n1 n2 ≠ 0 then Sp.cmpS n1 n2 else if t.cmp u ≠ 0 then t.cmp u else l.cmp r) := by show _ = _; rw [hc, TmF.cmp]
          clear hl hr hlN HI hl' hr' ho1 ho2 hc ht hu H0
          by_cases hn : Sp.cmpS n1 n2 ≠ 0
          · have hn' := ne_bool hn
            have H : Hid (A.cmp B = Sp.cmpS n1 n2) := by show _ = _; rw [HCC.out, if_pos hn]
            clear hn
            go_wp2_with fail
            go_quiet ((go_at_call 75; exact Calls.quiet_of_same ((cmpStr_any _ _ _).mono (fun e w' h => ⟨h.1, h.2.symm⟩))))
            go_wp2_with fail
            go_ret
            exact ⟨ret_int H.out.symm, HWN.out _⟩
          · have hn0 : Sp.cmpS n1 n2 = 0 := Decidable.not_not.1 hn
            have HC2 : Hid (A.cmp B = if t.cmp u ≠ 0 then t.cmp u else l.cmp r) := by show _ = _; rw [HCC.out, if_neg hn]
            clear hn
            go_wp2_with fail
            go_quiet ((go_at_call 75; exact Calls.quiet_of_same ((cmpStr_any _ _ _).mono (fun e w' h => ⟨h.1, h.2.symm⟩))))
            obtain ⟨m1, hm1⟩ := HWN.out nq
            have HO' : Hid (∀ q, Calls Try.prog 45 #[v1, v2] ((wr.drewN nq).drewN q) fun e w' => e = .returned (.int .i64 (t.cmp u)) ∧ ∃ m, w' = ((wr.drewN nq).drewN q).drewN m) := fun q => by
              rw [World.drewN_drewN]; exact HO.out _
            have HW' : Hid (∀ q, ∃ m', (wr.drewN nq).drewN q = w.drewN m') := fun q => ⟨m + (nq + q), by rw [HW.out]; simp [Nat.add_assoc]⟩
            have c1' : (wr.drewN nq).cell? ⟨g1, o1 + k * 2 + 1, none⟩ = some v1 := c1
            have c2' : (wr.drewN nq).cell? ⟨g2, o2 + k * 2 + 1, none⟩ = some v2 := c2
            clear c1 c2 a1 a2 hm1
            generalize wr.drewN nq = wq at *
            go_wp2_with fail
            go_quiet ((go_at_call 45; exact Calls.quiet_of (HO'.out _)))
            by_cases he : t.cmp u ≠ 0
            · have he' := ne_bool he
              have H : Hid (A.cmp B = t.cmp u) := by show _ = _; rw [HC2.out, if_pos he]
              clear he
              go_wp2_with fail
              go_ret
              exact ⟨ret_int H.out.symm, HW'.out _⟩
            · have he0 : t.cmp u = 0 := Decidable.not_not.1 he
              have H : Hid (A.cmp B = l.cmp r) := by show _ = _; rw [HC2.out, if_neg he]
              clear he
              go_wp2_with fail
              go_roundw
              case rel =>
                obtain ⟨m', hm'⟩ := HW'.out nq
                exact ⟨k + 1, m', l, r, by go_num, HL.out.1, HL.out.2, htN.2, ⟨HN.out.1, HN.out.2.1, HN.out.2.2.1, HN.out.2.2.2, H.out⟩, hm'⟩
              case measure => simp [intOf]; omega

set_option maxRecDepth 100000 in
set_option maxHeartbeats 1000000 in
theorem orderRecords_any (N : Nat) (HC : OrderC N) (A B : TmF) (hN : A.sz ≤ N) (g1 g2 : Nat) (a b : Option Addr) (ca cb : Nat) (n1 n2 : ByteArray) (x1 x2 : Int) (S : Nat → Prop) (w : World) (ha : A.V w S a 0) (hb : B.V w S b 0) (oa : A.Ok) (ob : B.Ok) (la : A.len ≤ maxLen) (lb : B.len ≤ maxLen)
    (c0 : w.cell? ⟨g1, 0, none⟩ = some (.string n1)) (c1 : w.cell? ⟨g1, 1, none⟩ = some (.int .i64 x1)) (c2 : w.cell? ⟨g1, 2, none⟩ = some (.slice a A.len ca))
    (d0 : w.cell? ⟨g2, 0, none⟩ = some (.string n2)) (d1 : w.cell? ⟨g2, 1, none⟩ = some (.int .i64 x2)) (d2 : w.cell? ⟨g2, 2, none⟩ = some (.slice b B.len cb)) :
    Calls Try.prog 80 #[.pointer (some ⟨g1, 0, none⟩), .pointer (some ⟨g2, 0, none⟩)] w fun e w' => e = .returned (.int .i64 (if Sp.cmpS n1 n2 ≠ 0 then Sp.cmpS n1 n2 else if Sp.cmpI x1 x2 ≠ 0 then Sp.cmpI x1 x2 else A.cmp B)) ∧ ∃ m, w' = w.drewN m := by
  have HD : Hid (∀ n, Calls Try.prog 79 #[.slice a A.len ca, .slice b B.len cb] (w.drewN n) fun e w' => e = .returned (.int .i64 (A.cmp B)) ∧ ∃ m, w' = (w.drewN n).drewN m) := fun n =>
    orderDicts_any N HC A B hN a b ca cb S (w.drewN n) (A.V_same (same_drewN _ _ _) (fun _ h => h) a 0 ha) (B.V_same (same_drewN _ _ _) (fun _ h => h) b 0 hb) oa ob la lb
  clear ha hb HC oa ob
  generalize hR : (if Sp.cmpS n1 n2 ≠ 0 then Sp.cmpS n1 n2 else if Sp.cmpI x1 x2 ≠ 0 then Sp.cmpI x1 x2 else A.cmp B) = R
  have HR : Hid ((if Sp.cmpS n1 n2 ≠ 0 then Sp.cmpS n1 n2 else if Sp.cmpI x1 x2 ≠ 0 then Sp.cmpI x1 x2 else A.cmp B) = R) := hR
  clear hR
  by_cases hn : Sp.cmpS n1 n2 ≠ 0
  · have hn' := ne_bool hn
    have H : Hid (R = Sp.cmpS n1 n2) := by show _ = _; rw [← HR.out, if_pos hn]
    clear hn
    go_enter Try.func80, Try.ntmps80
    go_wp2_with fail
    go_quiet ((go_at_call 75; exact Calls.quiet_of_same ((cmpStr_any _ _ _).mono (fun e w' h => ⟨h.1, h.2.symm⟩))))
    go_wp2_with fail
    go_ret
    exact ⟨ret_int H.out.symm, _, rfl⟩
  · have hn0 : Sp.cmpS n1 n2 = 0 := Decidable.not_not.1 hn
    by_cases hv : Sp.cmpI x1 x2 ≠ 0
    · have hv' := ne_bool hv
      have H : Hid (R = Sp.cmpI x1 x2) := by show _ = _; rw [← HR.out, if_neg hn, if_pos hv]
      clear hn hv
      go_enter Try.func80, Try.ntmps80
      go_wp2_with fail
      go_quiet ((go_at_call 75; exact Calls.quiet_of_same ((cmpStr_any _ _ _).mono (fun e w' h => ⟨h.1, h.2.symm⟩))))
      have HW' : Hid (∀ q, ∃ m, (w.drewN nq).drewN q = w.drewN m) := fun q => ⟨nq + q, by simp⟩
      have HD' : Hid (∀ n, Calls Try.prog 79 #[.slice a A.len ca, .slice b B.len cb] ((w.drewN nq).drewN n) fun e w' => e = .returned (.int .i64 (A.cmp B)) ∧ ∃ m, w' = ((w.drewN nq).drewN n).drewN m) := fun n => by rw [World.drewN_drewN]; exact HD.out _
      have c1' : (w.drewN nq).cell? ⟨g1, 1, none⟩ = some (.int .i64 x1) := c1
      have c2' : (w.drewN nq).cell? ⟨g1, 2, none⟩ = some (.slice a A.len ca) := c2
      have d1' : (w.drewN nq).cell? ⟨g2, 1, none⟩ = some (.int .i64 x2) := d1
      have d2' : (w.drewN nq).cell? ⟨g2, 2, none⟩ = some (.slice b B.len cb) := d2
      clear c0 c1 c2 d0 d1 d2 HD
      generalize w.drewN nq = wq at *
      go_wp2_with fail
      go_quiet ((go_at_call 70; exact Calls.quiet_of_same ((cmpInt_any _ _ _).mono (fun e w' h => ⟨h.1, h.2.symm⟩))))
      go_wp2_with fail
      go_ret
      exact ⟨ret_int H.out.symm, HW'.out _⟩
    · have hv0 : Sp.cmpI x1 x2 = 0 := Decidable.not_not.1 hv
      have H : Hid (R = A.cmp B) := by show _ = _; rw [← HR.out, if_neg hn, if_neg hv]
      clear hn hv
      go_enter Try.func80, Try.ntmps80
      go_wp2_with fail
      go_quiet ((go_at_call 75; exact Calls.quiet_of_same ((cmpStr_any _ _ _).mono (fun e w' h => ⟨h.1, h.2.symm⟩))))
      have HW' : Hid (∀ q, ∃ m, (w.drewN nq).drewN q = w.drewN m) := fun q => ⟨nq + q, by simp⟩
      have HD' : Hid (∀ n, Calls Try.prog 79 #[.slice a A.len ca, .slice b B.len cb] ((w.drewN nq).drewN n) fun e w' => e = .returned (.int .i64 (A.cmp B)) ∧ ∃ m, w' = ((w.drewN nq).drewN n).drewN m) := fun n => by rw [World.drewN_drewN]; exact HD.out _
      have c1' : (w.drewN nq).cell? ⟨g1, 1, none⟩ = some (.int .i64 x1) := c1
      have c2' : (w.drewN nq).cell? ⟨g1, 2, none⟩ = some (.slice a A.len ca) := c2
      have d1' : (w.drewN nq).cell? ⟨g2, 1, none⟩ = some (.int .i64 x2) := d1
      have d2' : (w.drewN nq).cell? ⟨g2, 2, none⟩ = some (.slice b B.len cb) := d2
      clear c0 c1 c2 d0 d1 d2 HD
      generalize w.drewN nq = wq at *
      go_wp2_with fail
      go_quiet ((go_at_call 70; exact Calls.quiet_of_same ((cmpInt_any _ _ _).mono (fun e w' h => ⟨h.1, h.2.symm⟩))))
      have HW2 : Hid (∀ q, ∃ m, (wq.drewN nq).drewN q = w.drewN m) := fun q => by rw [World.drewN_drewN]; exact HW'.out _
      have HD2 : Hid (∀ n, Calls Try.prog 79 #[.slice a A.len ca, .slice b B.len cb] ((wq.drewN nq).drewN n) fun e w' => e = .returned (.int .i64 (A.cmp B)) ∧ ∃ m, w' = ((wq.drewN nq).drewN n).drewN m) := fun n => by rw [World.drewN_drewN]; exact HD'.out _
      have c2'' : (wq.drewN nq).cell? ⟨g1, 2, none⟩ = some (.slice a A.len ca) := c2'
      have d2'' : (wq.drewN nq).cell? ⟨g2, 2, none⟩ = some (.slice b B.len cb) := d2'
      clear c1' c2' d1' d2' HD'
      generalize wq.drewN nq = wr at *
      go_wp2_with fail
      go_quiet ((go_at_call 79; exact Calls.quiet_of (HD2.out _)))
      go_wp2_with fail
      go_ret
      exact ⟨ret_int H.out.symm, HW2.out _⟩
end Go.Proofs.Ytkomcebknllaiaa

/- value.Check at a term's value: what the plain walk through the term says. -/
namespace Go.Proofs.Ytkomcebknllaiaa
open Go.RowKit

/-- the walk of a whole term -/
def Tm.all (t : Tm) : Wr := t.wk 1 0 0
/-- the number of the first part that is wrong (0: none is), how many parts it has, how deep the deepest lies (0: it can't be) -/
def Tm.cAt (t : Tm) : Int := if t.all.e ≠ 0 then t.all.p - 1 else 0
def Tm.szN (t : Tm) : Int := if t.all.e ≠ 0 then 0 else t.all.p
def Tm.szD (t : Tm) : Int := if t.all.e ≠ 0 then 0 else t.all.d
/-- a term's kind as the document counts it -/
def Tm.kindK (t : Tm) : Int := if t.kind < 1 ∨ 11 < t.kind then 0 else t.kind
theorem Wk_new (w : World) : Wk (w.alloc (.cells #[.int .i64 0, .int .i64 0] 67)) w.heap.size 0 0 := by
  refine ⟨?_, ?_, ?_, ?_⟩ <;> simp

theorem walk_all (t : Tm) (v : Value) (B : Nat) (w : World) (hB : B ≤ w.heap.size) (h : t.V w (Lo B) v) :
    ∀ W, Below w.heap.size w W → Wk W w.heap.size 0 0 → Calls Try.prog 64 #[.pointer (some ⟨w.heap.size, 0, none⟩), v, .int .i64 1] W fun e w' => e = .returned (.int .i64 t.all.e) ∧ Wk w' w.heap.size t.all.p t.all.d ∧ Below w.heap.size W w' :=
  fun W hW hk => value_any t.sz t (Nat.le_refl _) w.heap.size v 0 0 1 W hk (t.V_same (Same.of_below hW hB) (Lo.le hB) v h) (by decide) (by decide) (by decide) (by decide)

set_option maxRecDepth 100000 in
set_option maxHeartbeats 400000 in
theorem Check_any (t : Tm) (v : Value) (B : Nat) (w : World) (hB : B ≤ w.heap.size) (h : t.V w (Lo B) v) :
    Calls Try.prog 38 #[v] w fun e w' => e = .returned (.tuple #[.int .i64 t.cAt, .int .i64 t.all.e]) ∧ Below w.heap.size w w' := by
  have HC := fun W a b => walk_all t v B w hB h W a b
  have HC : Hid _ := HC
  have hbd := t.wk_bd 1 0 0 (by decide) (by decide)
  by_cases he : t.all.e ≠ 0
  · have he' := ne_bool he
    have H : Hid (t.cAt = t.all.p - 1) := by show _ = _; unfold Tm.cAt; rw [if_pos he]
    have hp : 0 ≤ t.all.p ∧ t.all.p ≤ 16385 := ⟨hbd.1, hbd.2.1⟩
    clear h hbd he
    go_enter Try.func38, Try.ntmps38
    go_wp2_with (go_at_call 64; refine (HC.out _ ((Below.refl _ _).alloc (Nat.le_refl _) _) (Wk_new w)).mono ?_; rintro e w1 ⟨rfl, hk1, hb1⟩; obtain ⟨c0, c1, f0, f1⟩ := hk1)
    go_ret2
    rw [H.out]
    exact ⟨rfl, ((Below.refl _ _).alloc (Nat.le_refl _) _).trans hb1⟩
  · have he0 : t.all.e = 0 := Decidable.not_not.1 he
    have H : Hid (t.cAt = 0) := by show _ = _; unfold Tm.cAt; rw [if_neg he]
    clear h hbd he
    go_enter Try.func38, Try.ntmps38
    go_wp2_with (go_at_call 64; refine (HC.out _ ((Below.refl _ _).alloc (Nat.le_refl _) _) (Wk_new w)).mono ?_; rintro e w1 ⟨rfl, hk1, hb1⟩)
    go_ret2
    rw [H.out, he0]
    exact ⟨rfl, ((Below.refl _ _).alloc (Nat.le_refl _) _).trans hb1⟩

/-- what kindOf answers at a term's value -/
theorem kindOf_any (t : Tm) (v : Value) (B : Nat → Prop) (w : World) (h : t.V w B v) : KindC v t.kindK := by
  cases t with
  | mk k b i f tx by' rf l fs c vr =>
    simp only [Tm.V] at h
    obtain ⟨h1, h2, h3, h4, h5, h6, h7, h8, h9, h10, h11, h12⟩ := h
    have hk : (Tm.mk k b i f tx by' rf l fs c vr).kindK = if k < 1 ∨ 11 < k then 0 else k := rfl
    rw [hk]
    clear hk
    by_cases k1 : k = 1
    · subst k1; rw [h1 rfl]; exact kindOf_nil
    by_cases k2 : k = 2
    · subst k2; rw [h2 rfl]; exact kindOf_bool _
    by_cases k3 : k = 3
    · subst k3; rw [h3 rfl]; exact kindOf_int _
    by_cases k4 : k = 4
    · subst k4; rw [(h4 rfl).1]; exact kindOf_float _
    by_cases k5 : k = 5
    · subst k5; rw [(h5 rfl).1]; exact kindOf_text _
    by_cases k6 : k = 6
    · subst k6; obtain ⟨a, cap, rfl, _⟩ := h6 rfl; exact kindOf_bytes _
    by_cases k7 : k = 7
    · subst k7; rw [h7 rfl]; exact kindOf_ref _
    by_cases k8 : k = 8
    · subst k8; obtain ⟨a, cap, rfl, _⟩ := h8 rfl; exact kindOf_list _
    by_cases k9 : k = 9
    · subst k9; obtain ⟨a, cap, rfl, _⟩ := h9 rfl; exact kindOf_dict _
    by_cases k10 : k = 10
    · subst k10; obtain ⟨g, a, cap, rfl, _⟩ := h10 rfl; exact kindOf_rec _
    by_cases k11 : k = 11
    · subst k11; rw [h11 rfl]; exact kindOf_nothing
    have hk := k_alien k1 k2 k3 k4 k5 k6 k7 k8 k9 k10 k11
    obtain ⟨T, x, rfl, hT⟩ := h12 hk
    rw [if_pos hk]
    exact fun w => kindOf_alien T x w hT

end Go.Proofs.Ytkomcebknllaiaa

/- Package value's order of any two values that can be is the plain order of their terms. -/
namespace Go.Proofs.Ytkomcebknllaiaa
open Go.RowKit

set_option maxRecDepth 100000 in
set_option maxHeartbeats 1000000 in
theorem order_diff (va vb : Value) (k k2 : Int) (w : World) (ha : KindC va k) (hb : KindC vb k2) (hne : Sp.cmpI k k2 ≠ 0) :
    Calls Try.prog 45 #[va, vb] w fun e w' => e = .returned (.int .i64 (Sp.cmpI k k2)) ∧ ∃ m, w' = w.drewN m := by
  have hne' := ne_bool hne
  clear hne
  go_enter Try.func45, Try.ntmps45
  go_wp2_with fail
  refine (ha _).mono ?_
  rintro e w' ⟨rfl, rfl⟩
  go_wp2_with fail
  refine (hb _).mono ?_
  rintro e w' ⟨rfl, rfl⟩
  go_wp2_with (go_at_call 70; refine (cmpInt_any _ _ _).mono ?_; rintro e w' ⟨rfl, rfl⟩)
  go_ret
  exact ⟨rfl, 0, rfl⟩

set_option maxRecDepth 100000 in
set_option maxHeartbeats 1000000 in
theorem order_1  (w : World) :
    Calls Try.prog 45 #[.nilIface, .nilIface] w fun e w' => e = .returned (.int .i64 (0)) ∧ ∃ m, w' = w.drewN m := by
  have hz : Sp.cmpI 1 1 = 0 := by decide
  go_enter Try.func45, Try.ntmps45
  go_wp2_with (first | (go_at_call 65; refine (kindOf_nil _).mono ?_; rintro e w' ⟨rfl, rfl⟩) | (go_at_call 70; refine (cmpInt_any _ _ _).mono ?_; rintro e w' ⟨rfl, rfl⟩))
  go_ret
  exact ⟨rfl, 0, rfl⟩

set_option maxRecDepth 100000 in
set_option maxHeartbeats 1000000 in
theorem order_2 (x y : Bool) (w : World) :
    Calls Try.prog 45 #[.iface 4 (.bool x), .iface 4 (.bool y)] w fun e w' => e = .returned (.int .i64 (Sp.cmpI (Sp.rank x) (Sp.rank y))) ∧ ∃ m, w' = w.drewN m := by
  have hz : Sp.cmpI 2 2 = 0 := by decide
  go_enter Try.func45, Try.ntmps45
  go_wp2_with (first | (go_at_call 65; refine (kindOf_bool _ _).mono ?_; rintro e w' ⟨rfl, rfl⟩) | (go_at_call 70; refine (cmpInt_any _ _ _).mono ?_; rintro e w' ⟨rfl, rfl⟩))
  go_quiet ((first | (go_at_call 71; exact Calls.quiet_of_same ((boolRank_any _ _).mono (fun e w' h => ⟨h.1, h.2.symm⟩))) | (go_at_call 70; exact Calls.quiet_of_same ((cmpInt_any _ _ _).mono (fun e w' h => ⟨h.1, h.2.symm⟩)))))
  go_wp2_with fail
  go_ret
  exact ⟨rfl, _, rfl⟩

set_option maxRecDepth 100000 in
set_option maxHeartbeats 1000000 in
theorem order_3 (x y : Int) (w : World) :
    Calls Try.prog 45 #[.iface 2 (.int .i64 x), .iface 2 (.int .i64 y)] w fun e w' => e = .returned (.int .i64 (Sp.cmpI x y)) ∧ ∃ m, w' = w.drewN m := by
  have hz : Sp.cmpI 3 3 = 0 := by decide
  go_enter Try.func45, Try.ntmps45
  go_wp2_with (first | (go_at_call 65; refine (kindOf_int _ _).mono ?_; rintro e w' ⟨rfl, rfl⟩) | (go_at_call 70; refine (cmpInt_any _ _ _).mono ?_; rintro e w' ⟨rfl, rfl⟩) | (go_at_call 72; refine (cmpI64_any _ _ _).mono ?_; rintro e w' ⟨rfl, rfl⟩))
  go_ret
  exact ⟨rfl, 0, rfl⟩

set_option maxRecDepth 100000 in
set_option maxHeartbeats 1000000 in
theorem order_4 (x y : Nat) (w : World) (hx : x < 18446744073709551616) (hy : y < 18446744073709551616) :
    Calls Try.prog 45 #[.iface 22 (.float .f64 x), .iface 22 (.float .f64 y)] w fun e w' => e = .returned (.int .i64 (Sp.cmpI (Sp.frank x) (Sp.frank y))) ∧ ∃ m, w' = w.drewN m := by
  have HX : Hid (x < 18446744073709551616 ∧ y < 18446744073709551616) := ⟨hx, hy⟩
  clear hx hy
  have hz : Sp.cmpI 4 4 = 0 := by decide
  go_enter Try.func45, Try.ntmps45
  go_wp2_with (first | (go_at_call 65; refine (kindOf_float _ _).mono ?_; rintro e w' ⟨rfl, rfl⟩) | (go_at_call 70; refine (cmpInt_any _ _ _).mono ?_; rintro e w' ⟨rfl, rfl⟩))
  go_quiet ((first | (go_at_call_of 74 x; exact Calls.quiet_of_same ((floatRank_any x _ HX.out.1).mono (fun e w' h => ⟨h.1, h.2.symm⟩))) | (go_at_call 74; exact Calls.quiet_of_same ((floatRank_any y _ HX.out.2).mono (fun e w' h => ⟨h.1, h.2.symm⟩))) | (go_at_call 73; exact Calls.quiet_of_same ((cmpU64_any _ _ _).mono (fun e w' h => ⟨h.1, h.2.symm⟩)))))
  go_wp2_with fail
  go_ret
  exact ⟨rfl, _, rfl⟩

set_option maxRecDepth 100000 in
set_option maxHeartbeats 1000000 in
theorem order_5 (x y : ByteArray) (w : World) :
    Calls Try.prog 45 #[.iface 9 (.string x), .iface 9 (.string y)] w fun e w' => e = .returned (.int .i64 (Sp.cmpS x y)) ∧ ∃ m, w' = w.drewN m := by
  have hz : Sp.cmpI 5 5 = 0 := by decide
  go_enter Try.func45, Try.ntmps45
  go_wp2_with (first | (go_at_call 65; refine (kindOf_text _ _).mono ?_; rintro e w' ⟨rfl, rfl⟩) | (go_at_call 70; refine (cmpInt_any _ _ _).mono ?_; rintro e w' ⟨rfl, rfl⟩) | (go_at_call 75; refine (cmpStr_any _ _ _).mono ?_; rintro e w' ⟨rfl, rfl⟩))
  go_ret
  exact ⟨rfl, 0, rfl⟩

set_option maxRecDepth 100000 in
set_option maxHeartbeats 1000000 in
theorem order_6 (x y : ByteArray) (a b : Option Addr) (c d : Nat) (S : Nat → Prop) (w : World) (ha : BytesAt w S a x) (hb : BytesAt w S b y) :
    Calls Try.prog 45 #[.iface 23 (.slice a x.size c), .iface 23 (.slice b y.size d)] w fun e w' => e = .returned (.int .i64 (Sp.cmpS x y)) ∧ ∃ m, w' = w.drewN m := by
  have HX : Hid (BytesAt w S a x ∧ BytesAt w S b y) := ⟨ha, hb⟩
  clear ha hb
  have hz : Sp.cmpI 6 6 = 0 := by decide
  go_enter Try.func45, Try.ntmps45
  go_wp2_with (first | (go_at_call 65; refine (kindOf_bytes _ _).mono ?_; rintro e w' ⟨rfl, rfl⟩) | (go_at_call 70; refine (cmpInt_any _ _ _).mono ?_; rintro e w' ⟨rfl, rfl⟩) | (go_at_call 76; refine (bytesCmp_any x y a b c d S _ HX.out.1 HX.out.2).mono ?_; rintro e w' ⟨rfl, rfl⟩))
  go_ret
  exact ⟨rfl, 0, rfl⟩

set_option maxRecDepth 100000 in
set_option maxHeartbeats 1000000 in
theorem order_7 (x y : Int) (w : World) :
    Calls Try.prog 45 #[.iface 25 (.int .u64 x), .iface 25 (.int .u64 y)] w fun e w' => e = .returned (.int .i64 (Sp.cmpI x y)) ∧ ∃ m, w' = w.drewN m := by
  have hz : Sp.cmpI 7 7 = 0 := by decide
  go_enter Try.func45, Try.ntmps45
  go_wp2_with (first | (go_at_call 65; refine (kindOf_ref _ _).mono ?_; rintro e w' ⟨rfl, rfl⟩) | (go_at_call 70; refine (cmpInt_any _ _ _).mono ?_; rintro e w' ⟨rfl, rfl⟩) | (go_at_call 77; refine (cmpRef_any _ _ _).mono ?_; rintro e w' ⟨rfl, rfl⟩))
  go_ret
  exact ⟨rfl, 0, rfl⟩

set_option maxRecDepth 100000 in
set_option maxHeartbeats 1000000 in
theorem order_8 (a b : Option Addr) (na nb c d : Nat) (R : Int) (w : World) (h : Calls Try.prog 78 #[.slice a na c, .slice b nb d] w fun e w' => e = .returned (.int .i64 R) ∧ ∃ m, w' = w.drewN m) :
    Calls Try.prog 45 #[.iface 71 (.slice a na c), .iface 71 (.slice b nb d)] w fun e w' => e = .returned (.int .i64 (R)) ∧ ∃ m, w' = w.drewN m := by
  have HX : Hid (Calls Try.prog 78 #[.slice a na c, .slice b nb d] w fun e w' => e = .returned (.int .i64 R) ∧ ∃ m, w' = w.drewN m) := h
  clear h
  have hz : Sp.cmpI 8 8 = 0 := by decide
  go_enter Try.func45, Try.ntmps45
  go_wp2_with (first | (go_at_call 65; refine (kindOf_list _ _).mono ?_; rintro e w' ⟨rfl, rfl⟩) | (go_at_call 70; refine (cmpInt_any _ _ _).mono ?_; rintro e w' ⟨rfl, rfl⟩) | (go_at_call 78; refine HX.out.mono ?_; rintro e w1 ⟨rfl, hm⟩))
  go_ret
  exact ⟨rfl, hm⟩

set_option maxRecDepth 100000 in
set_option maxHeartbeats 1000000 in
theorem order_9 (a b : Option Addr) (na nb c d : Nat) (R : Int) (w : World) (h : Calls Try.prog 79 #[.slice a na c, .slice b nb d] w fun e w' => e = .returned (.int .i64 R) ∧ ∃ m, w' = w.drewN m) :
    Calls Try.prog 45 #[.iface 73 (.slice a na c), .iface 73 (.slice b nb d)] w fun e w' => e = .returned (.int .i64 (R)) ∧ ∃ m, w' = w.drewN m := by
  have HX : Hid (Calls Try.prog 79 #[.slice a na c, .slice b nb d] w fun e w' => e = .returned (.int .i64 R) ∧ ∃ m, w' = w.drewN m) := h
  clear h
  have hz : Sp.cmpI 9 9 = 0 := by decide
  go_enter Try.func45, Try.ntmps45
  go_wp2_with (first | (go_at_call 65; refine (kindOf_dict _ _).mono ?_; rintro e w' ⟨rfl, rfl⟩) | (go_at_call 70; refine (cmpInt_any _ _ _).mono ?_; rintro e w' ⟨rfl, rfl⟩) | (go_at_call 79; refine HX.out.mono ?_; rintro e w1 ⟨rfl, hm⟩))
  go_ret
  exact ⟨rfl, hm⟩

set_option maxRecDepth 100000 in
set_option maxHeartbeats 1000000 in
theorem order_10 (a b : Addr) (R : Int) (w : World) (h : Calls Try.prog 80 #[.pointer (some a), .pointer (some b)] w fun e w' => e = .returned (.int .i64 R) ∧ ∃ m, w' = w.drewN m) :
    Calls Try.prog 45 #[.iface 75 (.pointer (some a)), .iface 75 (.pointer (some b))] w fun e w' => e = .returned (.int .i64 (R)) ∧ ∃ m, w' = w.drewN m := by
  have HX : Hid (Calls Try.prog 80 #[.pointer (some a), .pointer (some b)] w fun e w' => e = .returned (.int .i64 R) ∧ ∃ m, w' = w.drewN m) := h
  clear h
  have hz : Sp.cmpI 10 10 = 0 := by decide
  go_enter Try.func45, Try.ntmps45
  go_wp2_with (first | (go_at_call 65; refine (kindOf_rec _ _).mono ?_; rintro e w' ⟨rfl, rfl⟩) | (go_at_call 70; refine (cmpInt_any _ _ _).mono ?_; rintro e w' ⟨rfl, rfl⟩) | (go_at_call 80; refine HX.out.mono ?_; rintro e w1 ⟨rfl, hm⟩))
  go_ret
  exact ⟨rfl, hm⟩

theorem Tm.V_kind {t : Tm} {v : Value} {S : Nat → Prop} {w : World} (h : t.V w S v) (ho : t.Ok) : KindC v t.kind := by
  have hk := kindOf_any t v S w h
  cases t with
  | mk k b i f tx by' rf l fs c vr =>
    have hp := ho.parts
    have e : (Tm.mk k b i f tx by' rf l fs c vr).kindK = k := by
      show (if k < 1 ∨ 11 < k then 0 else k) = k
      rw [if_neg (by omega)]
    rw [e] at hk; exact hk
set_option maxHeartbeats 2000000 in
theorem order_any (N : Nat) : OrderC N := by
  induction N with
  | zero => intro t u ht; cases t; simp [Tm.sz] at ht
  | succ N ih =>
    intro s t hN va vb S w hs ht os ot
    have hks := Tm.V_kind hs os
    have hkt := Tm.V_kind ht ot
    cases s with
    | mk k b i f tx by' rf l fs c v =>
      cases t with
      | mk k2 b2 i2 f2 tx2 by2 rf2 l2 fs2 c2 v2 =>
        have hlN : l.sz ≤ N ∧ fs.sz ≤ N := by simp [Tm.sz] at hN; omega
        obtain ⟨p1, p2, p3, p4⟩ := os.parts
        obtain ⟨q1, q2, q3, q4⟩ := ot.parts
        by_cases hne : Sp.cmpI k k2 ≠ 0
        · rw [Tm.cmp_ne hne]; exact order_diff va vb k k2 w hks hkt hne
        · obtain rfl := cmpI_zero (Decidable.not_not.1 hne)
          clear hne hks hkt
          simp only [Tm.V] at hs ht
          obtain ⟨h1, h2, h3, h4, h5, h6, h7, h8, h9, h10, h11, h12⟩ := hs
          obtain ⟨g1, g2, g3, g4, g5, g6, g7, g8, g9, g10, g11, g12⟩ := ht
          by_cases k1 : k = 1
          · subst k1; rw [Tm.cmp_1, h1 rfl, g1 rfl]; exact order_1 w
          by_cases k2 : k = 2
          · subst k2; rw [Tm.cmp_2, h2 rfl, g2 rfl]; exact order_2 b b2 w
          by_cases k3 : k = 3
          · subst k3; rw [Tm.cmp_3, h3 rfl, g3 rfl]; exact order_3 i i2 w
          by_cases k4 : k = 4
          · subst k4; rw [Tm.cmp_4, (h4 rfl).1, (g4 rfl).1]; exact order_4 f f2 w (h4 rfl).2 (g4 rfl).2
          by_cases k5 : k = 5
          · subst k5; rw [Tm.cmp_5, (h5 rfl).1, (g5 rfl).1]; exact order_5 tx tx2 w
          by_cases k6 : k = 6
          · subst k6
            obtain ⟨a, ca, rfl, _, ha⟩ := h6 rfl
            obtain ⟨b, cb, rfl, _, hb⟩ := g6 rfl
            rw [Tm.cmp_6]; exact order_6 by' by2 a b ca cb S w ha hb
          by_cases k7 : k = 7
          · subst k7; rw [Tm.cmp_7, h7 rfl, g7 rfl]; exact order_7 rf rf2 w
          by_cases k8 : k = 8
          · subst k8
            obtain ⟨a, ca, rfl, ⟨la, -⟩, ha⟩ := h8 rfl
            obtain ⟨b, cb, rfl, ⟨lb, -⟩, hb⟩ := g8 rfl
            rw [Tm.cmp_8]; exact order_8 a b _ _ ca cb _ w (orderLists_any N ih l l2 hlN.1 a b ca cb S w ha hb (p3 rfl) (q3 rfl) la lb)
          by_cases k9 : k = 9
          · subst k9
            obtain ⟨a, ca, rfl, ⟨la, -⟩, ha⟩ := h9 rfl
            obtain ⟨b, cb, rfl, ⟨lb, -⟩, hb⟩ := g9 rfl
            rw [Tm.cmp_9]; exact order_9 a b _ _ ca cb _ w (orderDicts_any N ih fs fs2 hlN.2 a b ca cb S w ha hb (p4 (.inl rfl)) (q4 (.inl rfl)) la lb)
          have k10 : k = 10 := by clear h1 h2 h3 h4 h5 h6 h7 h8 h9 h10 h11 h12 g1 g2 g3 g4 g5 g6 g7 g8 g9 g10 g11 g12; omega
          subst k10
          obtain ⟨ga, a, ca, rfl, _, c0, c1, c2', _, ⟨la, -⟩, ha⟩ := h10 rfl
          obtain ⟨gb, b, cb, rfl, _, d0, d1, d2, _, ⟨lb, -⟩, hb⟩ := g10 rfl
          rw [Tm.cmp_10]; exact order_10 _ _ _ w (orderRecords_any N ih fs fs2 hlN.2 ga gb a b ca cb c c2 v v2 S w ha hb (p4 (.inr rfl)) (q4 (.inr rfl)) la lb c0 c1 c2' d0 d1 d2)
end Go.Proofs.Ytkomcebknllaiaa

/- value.termOf and value.entriesOf: the term of a value that can be, in new memory. -/
namespace Go.Proofs.Ytkomcebknllaiaa
open Go.RowKit

mutual
/-- a term without what plays no part -/
def Tm.clean : Tm → Tm
  | .mk k b i f tx by' rf l fs c v => .mk k (if k = 2 then b else false) (if k = 3 then i else 0) (if k = 4 then f else 0) (if k = 5 then tx else ByteArray.empty) (if k = 6 then by' else ByteArray.empty) (if k = 7 then rf else 0) (if k = 8 then l.clean else .nil) (if k = 9 ∨ k = 10 then fs.clean else .nil) (if k = 10 then c else ByteArray.empty) (if k = 10 then v else 0)
def TmL.clean : TmL → TmL
  | .nil => .nil
  | .cons t l => .cons t.clean l.clean
def TmF.clean : TmF → TmF
  | .nil => .nil
  | .cons n t l => .cons n t.clean l.clean
end
mutual
/-- numbers are in their bounds -/
def Tm.Bdd : Tm → Prop
  | .mk _ _ i f _ _ rf l fs _ v => (-9223372036854775808 ≤ i ∧ i ≤ 9223372036854775807) ∧ f < 18446744073709551616 ∧ (0 ≤ rf ∧ rf ≤ 18446744073709551615) ∧ (-9223372036854775808 ≤ v ∧ v ≤ 9223372036854775807) ∧ l.Bdd ∧ fs.Bdd
def TmL.Bdd : TmL → Prop
  | .nil => True
  | .cons t l => t.Bdd ∧ l.Bdd
def TmF.Bdd : TmF → Prop
  | .nil => True
  | .cons _ t l => t.Bdd ∧ l.Bdd
end
mutual
theorem Tm.In_bdd {w : World} {B : Nat → Prop} : (t : Tm) → ∀ cs, t.In w B cs → t.Bdd
  | .mk k b i f tx by' rf l fs c v, cs, h => by
    simp only [Tm.In] at h
    obtain ⟨ab, cb, al, cl, af, cf, rfl, hbd, hby, hl, hfs⟩ := h
    simp only [Tm.Bdd]
    exact ⟨⟨hbd.i0, hbd.i1⟩, hbd.f1, ⟨hbd.r0, hbd.r1⟩, ⟨hbd.v0, hbd.v1⟩, TmL.In_bdd l _ _ hl, TmF.In_bdd fs _ _ hfs⟩
theorem TmL.In_bdd {w : World} {B : Nat → Prop} : (l : TmL) → ∀ a j, l.In w B a j → l.Bdd
  | .nil, _, _, _ => trivial
  | .cons t l, a, j, h => by
    simp only [TmL.In] at h
    obtain ⟨_, _, _, _, _, _, ht, hl⟩ := h
    exact ⟨Tm.In_bdd t _ ht, TmL.In_bdd l _ _ hl⟩
theorem TmF.In_bdd {w : World} {B : Nat → Prop} : (l : TmF) → ∀ a j, l.In w B a j → l.Bdd
  | .nil, _, _, _ => trivial
  | .cons n t l, a, j, h => by
    simp only [TmF.In] at h
    obtain ⟨_, _, _, _, _, _, _, _, ht, hl⟩ := h
    exact ⟨Tm.In_bdd t _ ht, TmF.In_bdd l _ _ hl⟩
end
theorem TmL.clean_len : (l : TmL) → l.clean.len = l.len
  | .nil => rfl
  | .cons t l => by simp only [TmL.clean, TmL.len, TmL.clean_len l]
theorem TmF.clean_len : (l : TmF) → l.clean.len = l.len
  | .nil => rfl
  | .cons n t l => by simp only [TmF.clean, TmF.len, TmF.clean_len l]

def TOfC (N : Nat) : Prop := ∀ (t : Tm), t.sz ≤ N → ∀ (v : Value) (B : Nat → Prop) (w : World), t.V w B v → Sub B w → t.Ok → t.Bdd →
  Calls Try.prog 39 #[v] w fun e w' => ∃ cs, e = .returned (.agg cs) ∧ Below w.heap.size w w' ∧ t.clean.In w' (FrS w w') cs
theorem TOfC.at {N : Nat} (HC : TOfC N) {t : Tm} (hN : t.sz ≤ N) {v : Value} {B : Nat → Prop} {w : World} (h : t.V w B v) (hB : Sub B w) (ho : t.Ok) (hb : t.Bdd) :
    ∀ W, Below w.heap.size w W → Calls Try.prog 39 #[v] W fun e w' => ∃ k b i f tx ab nb cb rf al nl cl af nf cf c vr, e = .returned (.agg (tcells k b i f tx (.slice ab nb cb) rf (.slice al nl cl) (.slice af nf cf) c vr)) ∧ Below W.heap.size W w' ∧ t.clean.In w' (FrS W w') (tcells k b i f tx (.slice ab nb cb) rf (.slice al nl cl) (.slice af nf cf) c vr) := by
  intro W hW
  refine (HC t hN v B W (t.V_same (hB.same hW) (fun _ h => h) v h) (hB.later hW) ho hb).mono ?_
  rintro e w' ⟨cs, rfl, hb, hv⟩
  obtain ⟨k1, b1, i1, f1, tx1, ab1, nb1, cb1, rf1, al1, nl1, cl1, af1, nf1, cf1, cc1, vr1, rfl⟩ := Tm.In_tc' hv
  exact ⟨k1, b1, i1, f1, tx1, ab1, nb1, cb1, rf1, al1, nl1, cl1, af1, nf1, cf1, cc1, vr1, rfl, hb, hv⟩
end Go.Proofs.Ytkomcebknllaiaa
