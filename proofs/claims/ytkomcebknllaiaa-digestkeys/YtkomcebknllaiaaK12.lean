/- value.Order and value.Same at two terms' values. -/
import Derived.Test.YtkomcebknllaiaaK11
import Derived.Test.YtkomcebknllaiaaK6
import Derived.Test.YtkomcebknllaiaaK9
import Derived.Test.YtkomcebknllaiaaK3
import Derived.Deep.RegionWith
namespace Go.Proofs.Ytkomcebknllaiaa
open Go.RowKit

/-- what Order answers: a number and an error -/
def Tm.ordN (s t : Tm) : Int := if s.all.e ≠ 0 ∨ t.all.e ≠ 0 then 0 else s.cmp t
def Tm.ordE (s t : Tm) : Int := if s.all.e ≠ 0 then s.all.e else t.all.e
/-- whether two values can be and are the same -/
def Tm.sameB (s t : Tm) : Bool := decide (s.all.e = 0 ∧ t.all.e = 0 ∧ s.cmp t = 0)

theorem Tm.ok_all {t : Tm} (h : t.all.e = 0) : t.Ok := ⟨1, 0, 0, h⟩

set_option maxRecDepth 100000 in
set_option maxHeartbeats 1000000 in
theorem Order_any (s t : Tm) (va vb : Value) (B : Nat) (w : World) (hB : B ≤ w.heap.size) (hs : s.V w (Lo B) va) (ht : t.V w (Lo B) vb) :
    Calls Try.prog 18 #[va, vb] w fun e w' => e = .returned (.tuple #[.int .i64 (s.ordN t), .int .i64 (s.ordE t)]) ∧ Below w.heap.size w w' := by
  have HS : Hid (∀ W, Below w.heap.size w W → s.V W (Lo B) va ∧ t.V W (Lo B) vb ∧ B ≤ W.heap.size) := fun W hW =>
    ⟨s.V_same (Same.of_below hW hB) (fun _ h => h) va hs, t.V_same (Same.of_below hW hB) (fun _ h => h) vb ht, by have := hW.size; omega⟩
  clear hs ht
  by_cases h1 : s.all.e ≠ 0
  · have h1' := ne_bool h1
    have H : Hid (s.ordN t = 0 ∧ s.ordE t = s.all.e) := by show _ ∧ _; unfold Tm.ordN Tm.ordE; rw [if_pos (.inl h1), if_pos h1]; exact ⟨rfl, rfl⟩
    clear h1
    go_enter Try.func18, Try.ntmps18
    go_wp2_with fail
    refine (Check_any s va B _ hB (HS.out _ (Below.refl _ _)).1).mono ?_
    rintro e w1 ⟨rfl, hb1⟩
    go_wp2_with fail
    go_ret2
    rw [H.out.1, H.out.2]
    exact ⟨rfl, hb1⟩
  · have h10 : s.all.e = 0 := Decidable.not_not.1 h1
    by_cases h2 : t.all.e ≠ 0
    · have h2' := ne_bool h2
      have H : Hid (s.ordN t = 0 ∧ s.ordE t = t.all.e) := by show _ ∧ _; unfold Tm.ordN Tm.ordE; rw [if_pos (.inr h2), if_neg h1]; exact ⟨rfl, rfl⟩
      clear h1 h2
      go_enter Try.func18, Try.ntmps18
      go_wp2_with fail
      refine (Check_any s va B _ hB (HS.out _ (Below.refl _ _)).1).mono ?_
      rintro e w1 ⟨rfl, hb1⟩
      have HB1 : Hid (Below w.heap.size w w1) := hb1
      clear hb1
      go_wp2_with fail
      refine (Check_any t vb B _ (HS.out _ HB1.out).2.2 (HS.out _ HB1.out).2.1).mono ?_
      rintro e w2 ⟨rfl, hb2⟩
      have HB2 : Hid (Below w1.heap.size w1 w2) := hb2
      clear hb2
      go_wp2_with fail
      go_ret2
      rw [H.out.1, H.out.2]
      exact ⟨rfl, below_to HB1.out HB2.out⟩
    · have h20 : t.all.e = 0 := Decidable.not_not.1 h2
      have H : Hid (s.ordN t = s.cmp t ∧ s.ordE t = 0) := by show _ ∧ _; unfold Tm.ordN Tm.ordE; rw [if_neg (by omega), if_neg h1]; exact ⟨rfl, h20⟩
      clear h1 h2
      go_enter Try.func18, Try.ntmps18
      go_wp2_with fail
      refine (Check_any s va B _ hB (HS.out _ (Below.refl _ _)).1).mono ?_
      rintro e w1 ⟨rfl, hb1⟩
      have HB1 : Hid (Below w.heap.size w w1) := hb1
      clear hb1
      go_wp2_with fail
      refine (Check_any t vb B _ (HS.out _ HB1.out).2.2 (HS.out _ HB1.out).2.1).mono ?_
      rintro e w2 ⟨rfl, hb2⟩
      have HB2 : Hid (Below w.heap.size w w2) := below_to HB1.out hb2
      clear hb2
      go_wp2_with fail
      refine (order_any s.sz s t (Nat.le_refl _) va vb (Lo B) _ (HS.out _ HB2.out).1 (HS.out _ HB2.out).2.1 (Tm.ok_all h10) (Tm.ok_all h20)).mono ?_
      rintro e w3 ⟨rfl, m, rfl⟩
      go_wp2_with fail
      go_ret2
      rw [H.out.1, H.out.2]
      exact ⟨rfl, HB2.out.trans (below_drewN' _ _ _)⟩
end Go.Proofs.Ytkomcebknllaiaa

/- value.Same at two terms' values; two terms in boxes. -/
namespace Go.Proofs.Ytkomcebknllaiaa
open Go.RowKit

theorem same_ok {s t : Tm} (h : s.all.e = 0 ∧ t.all.e = 0) : s.ordE t = 0 ∧ s.ordN t = s.cmp t := by
  unfold Tm.ordE Tm.ordN; rw [if_neg (by omega), if_neg (by omega)]; exact ⟨h.2, rfl⟩
theorem same_err {s t : Tm} (h : s.ordE t ≠ 0) : ¬ (s.all.e = 0 ∧ t.all.e = 0) := fun g => h (same_ok g).1
theorem ok_both {s t : Tm} (h : s.ordE t = 0) : s.all.e = 0 ∧ t.all.e = 0 := by
  unfold Tm.ordE at h; split at h
  · exact absurd h (by assumption)
  · exact ⟨Decidable.not_not.1 (by assumption), h⟩

set_option maxRecDepth 100000 in
set_option maxHeartbeats 1000000 in
theorem Same_any (s t : Tm) (va vb : Value) (B : Nat) (w : World) (hB : B ≤ w.heap.size) (hs : s.V w (Lo B) va) (ht : t.V w (Lo B) vb) :
    Calls Try.prog 20 #[va, vb] w fun e w' => e = .returned (.bool (s.sameB t)) ∧ Below w.heap.size w w' := by
  have HO : Hid (∀ w0, w0 = w → Calls Try.prog 18 #[va, vb] w0 fun e w' => e = .returned (.tuple #[.int .i64 (s.ordN t), .int .i64 (s.ordE t)]) ∧ Below w0.heap.size w0 w') := by
    rintro w0 rfl; exact Order_any s t va vb B w0 hB hs ht
  clear hs ht hB
  have H : Hid ((s.ordE t ≠ 0 → s.sameB t = false) ∧ (s.ordE t = 0 → s.sameB t = decide (s.ordN t = 0))) := by
    refine ⟨fun h => ?_, fun h => ?_⟩
    · unfold Tm.sameB; exact decide_eq_false fun g => same_err h ⟨g.1, g.2.1⟩
    · have g := ok_both h
      unfold Tm.sameB; rw [(same_ok g).2]; simp [g.1, g.2]
  by_cases h1 : s.ordE t = 0
  · have G : Hid (s.sameB t = decide (s.ordN t = 0)) := H.out.2 h1
    go_enter Try.func20, Try.ntmps20
    go_wp2_with fail
    refine (HO.out _ rfl).mono ?_
    rintro e w1 ⟨rfl, hb1⟩
    have HB1 : Hid (Below w.heap.size w w1) := hb1
    clear hb1
    go_wp2_with fail
    go_ret
    exact ⟨by simp [G.out]; try rfl, HB1.out⟩
  · have h1' := ne_bool h1
    have G : Hid (s.sameB t = false) := H.out.1 h1
    go_enter Try.func20, Try.ntmps20
    go_wp2_with fail
    refine (HO.out _ rfl).mono ?_
    rintro e w1 ⟨rfl, hb1⟩
    have HB1 : Hid (Below w.heap.size w w1) := hb1
    clear hb1
    go_wp2_with fail
    go_ret
    exact ⟨by simp [G.out], HB1.out⟩

/-- the eleven cells of a term in box g -/
def Tbx (W : World) (g : Nat) (k : Int) (b : Bool) (i : Int) (f : Nat) (tx : ByteArray) (vb : Value) (rf : Int) (vl vf : Value) (c : ByteArray) (vr : Int) : Prop :=
  W.cell? ⟨g, 0, none⟩ = some (.int .i64 k) ∧ W.cell? ⟨g, 1, none⟩ = some (.bool b) ∧ W.cell? ⟨g, 2, none⟩ = some (.int .i64 i) ∧ W.cell? ⟨g, 3, none⟩ = some (.float .f64 f) ∧ W.cell? ⟨g, 4, none⟩ = some (.string tx) ∧ W.cell? ⟨g, 5, none⟩ = some vb ∧ W.cell? ⟨g, 6, none⟩ = some (.int .u64 rf) ∧ W.cell? ⟨g, 7, none⟩ = some vl ∧ W.cell? ⟨g, 8, none⟩ = some vf ∧ W.cell? ⟨g, 9, none⟩ = some (.string c) ∧ W.cell? ⟨g, 10, none⟩ = some (.int .i64 vr)
theorem bx_of {w : World} {g : Nat} {k : Int} {b : Bool} {i : Int} {f : Nat} {tx : ByteArray} {vb : Value} {rf : Int} {vl vf : Value} {c : ByteArray} {vr : Int}
    (h : w.heap[g]? = some (.cells (tcells k b i f tx vb rf vl vf c vr) 29 (0, 0))) : Tbx w g k b i f tx vb rf vl vf c vr := by
  have hh := fun j => cell_of_row w g j _ _ _ h
  exact ⟨hh 0, hh 1, hh 2, hh 3, hh 4, hh 5, hh 6, hh 7, hh 8, hh 9, hh 10⟩
theorem Tm.In_box {w : World} {B : Nat → Prop} {t : Tm} {cs : Array Value} (h : t.In w B cs) : ∃ b i f tx vb rf vl vf c vr, cs = tcells t.kind b i f tx vb rf vl vf c vr := by
  cases t; simp only [Tm.In] at h; obtain ⟨_, _, _, _, _, _, rfl, _⟩ := h; exact ⟨_, _, _, _, _, _, _, _, _, _, rfl⟩
end Go.Proofs.Ytkomcebknllaiaa

/- The leaves of the document's own order: tenonref01's numbers, texts, flag, place. -/
namespace Go.Proofs.Ytkomcebknllaiaa
open Go.RowKit

set_option maxRecDepth 100000 in
set_option maxHeartbeats 400000 in
theorem numbers_any (a b : Int) (w : World) :
    Calls Try.prog 81 #[.int .u64 a, .int .u64 b] w fun e w' => e = .returned (.int .i64 (Sp.cmpI a b)) ∧ w = w' := by
  by_cases h1 : a < b
  · have H : Hid (Sp.cmpI a b = -1) := by show _ = _; simp [Sp.cmpI, h1]
    go_enter Try.func81, Try.ntmps81
    go_wp2
    go_ret
    exact ⟨ret_int H.out.symm, rfl⟩
  · by_cases h2 : b < a
    · have H : Hid (Sp.cmpI a b = 1) := by show _ = _; simp [Sp.cmpI, h1, h2]
      go_enter Try.func81, Try.ntmps81
      go_wp2
      go_ret
      exact ⟨ret_int H.out.symm, rfl⟩
    · have H : Hid (Sp.cmpI a b = 0) := by show _ = _; simp [Sp.cmpI, h1, h2]
      go_enter Try.func81, Try.ntmps81
      go_wp2
      go_ret
      exact ⟨ret_int H.out.symm, rfl⟩

set_option maxRecDepth 100000 in
set_option maxHeartbeats 400000 in
theorem texts_any (a b : ByteArray) (w : World) :
    Calls Try.prog 84 #[.string a, .string b] w fun e w' => e = .returned (.int .i64 (Sp.cmpS a b)) ∧ w = w' := by
  have hl := less_of a b
  have he := same_of a b
  rcases cmp_vals a.data.toList b.data.toList with h | h | h
  · have H : Hid (Sp.cmpS a b = -1) := h
    rw [H.out] at hl he; simp at hl he
    go_enter Try.func84, Try.ntmps84
    go_wp2
    go_ret
    exact ⟨ret_int H.out.symm, rfl⟩
  · have H : Hid (Sp.cmpS a b = 0) := h
    rw [H.out] at hl he; simp at hl he
    have he' : (a.toList == b.toList) = true := by simp [he]
    clear he
    go_enter Try.func84, Try.ntmps84
    go_wp2
    go_ret
    exact ⟨ret_int H.out.symm, rfl⟩
  · have H : Hid (Sp.cmpS a b = 1) := h
    rw [H.out] at hl he; simp at hl he
    have he' : (a.toList == b.toList) = false := by simp [he]
    clear he
    go_enter Try.func84, Try.ntmps84
    go_wp2
    go_ret
    exact ⟨ret_int H.out.symm, rfl⟩

set_option maxRecDepth 100000 in
set_option maxHeartbeats 400000 in
theorem flag_any (b : Bool) (w : World) :
    Calls Try.prog 82 #[.bool b] w fun e w' => e = .returned (.int .u64 (Sp.rank b)) ∧ w = w' := by
  cases b
  · go_enter Try.func82, Try.ntmps82
    go_wp2
    go_ret
    exact ⟨rfl, rfl⟩
  · go_enter Try.func82, Try.ntmps82
    go_wp2
    go_ret
    exact ⟨rfl, rfl⟩

theorem wrapU {n : Int} (h0 : 0 ≤ n) (h1 : n ≤ 18446744073709551615) : IntKind.u64.wrap n = n := by
  rw [IntKind.wrap_u64]; omega

set_option maxRecDepth 100000 in
set_option maxHeartbeats 400000 in
theorem place_any (f : Nat) (w : World) (hf : f < 18446744073709551616) :
    Calls Try.prog 83 #[.float .f64 f] w fun e w' => e = .returned (.int .u64 (Sp.frank f)) ∧ w = w' := by
  have hb := bits_run f
  by_cases h : 9223372036854775808 ≤ f
  · have ha : (9223372036854775808 : Int) ≤ (f : Int) := by omega
    have H : Hid (Sp.frank f = bits BinOp.xor IntKind.u64 IntKind.u64.max (f : Int)) := by show _ = _; rw [fr_xor f hf]; unfold Sp.frank; rw [if_pos h]
    clear h
    go_enter Try.func83, Try.ntmps83
    go_wp2
    go_ret
    exact ⟨ret_int H.out.symm, rfl⟩
  · have ha : ¬ (9223372036854775808 : Int) ≤ (f : Int) := by omega
    have hw : IntKind.u64.wrap ((f : Int) + 9223372036854775808) = (f : Int) + 9223372036854775808 := wrapU (by omega) (by omega)
    have H : Hid (Sp.frank f = (f : Int) + 9223372036854775808) := by show _ = _; unfold Sp.frank; rw [if_neg h]
    clear h
    go_enter Try.func83, Try.ntmps83
    go_wp2
    go_ret
    exact ⟨ret_int H.out.symm, rfl⟩
end Go.Proofs.Ytkomcebknllaiaa

/- The document's own order of terms (tenonref01.fields, tenonref01.Compare) is the plain order. -/
namespace Go.Proofs.Ytkomcebknllaiaa
open Go.RowKit

def CmpC (N : Nat) : Prop := ∀ (s t : Tm), s.sz ≤ N → ∀ (cs ct : Array Value) (S : Nat → Prop) (w : World), s.In w S cs → t.In w S ct → Sub S w → s.Ok → t.Ok →
  Calls Try.prog 46 #[.agg cs, .agg ct] w fun e w' => e = .returned (.int .i64 (s.cmp t)) ∧ Below w.heap.size w w'

theorem CmpC.at {N : Nat} (HC : CmpC N) {s t : Tm} (hN : s.sz ≤ N) {cs ct : Array Value} {S : Nat → Prop} {w : World} (hs : s.In w S cs) (ht : t.In w S ct) (hS : Sub S w) (os : s.Ok) (ot : t.Ok) :
    ∀ W, Below w.heap.size w W → Calls Try.prog 46 #[.agg cs, .agg ct] W fun e w' => e = .returned (.int .i64 (s.cmp t)) ∧ Below W.heap.size W w' :=
  fun W hW => HC s t hN cs ct S W (s.In_same (hS.same hW) (fun _ h => h) cs hs) (t.In_same (hS.same hW) (fun _ h => h) ct ht) (hS.later hW) os ot

theorem Tm.In_tc {w : World} {B : Nat → Prop} {t : Tm} {cs : Array Value} (h : t.In w B cs) : ∃ k b i f tx vb rf vl vf c vr, cs = tcells k b i f tx vb rf vl vf c vr := by
  cases t; simp only [Tm.In] at h; obtain ⟨_, _, _, _, _, _, rfl, _⟩ := h; exact ⟨_, _, _, _, _, _, _, _, _, _, _, rfl⟩

set_option maxRecDepth 100000 in
set_option maxHeartbeats 2000000 in
theorem fields_any (N : Nat) (HC : CmpC N) (A B : TmF) (hN : A.sz ≤ N) (a b : Option Addr) (ca cb : Nat) (S : Nat → Prop) (w : World) (ha : A.In w S a 0) (hb : B.In w S b 0) (hS : Sub S w) (oa : A.Ok) (ob : B.Ok) (la : A.len * 168 ≤ 140737488355328) (lb : B.len * 168 ≤ 140737488355328) :
    Calls Try.prog 85 #[.slice a A.len ca, .slice b B.len cb] w fun e w' => e = .returned (.int .i64 (A.cmp B)) ∧ Below w.heap.size w w' := by
  have HCH : Hid (CmpC N) := HC
  have H0 : Hid (A.In w S a 0 ∧ B.In w S b 0 ∧ A.Ok ∧ B.Ok) := ⟨ha, hb, oa, ob⟩
  clear HC ha hb oa ob
  go_enter Try.func85, Try.ntmps85
  go_wp2_with fail
  go_loopw [5] (fun x wr => ∃ (k : Nat) (l r : TmF), x = .int .i64 k ∧ l.len + k = A.len ∧ r.len + k = B.len ∧ l.sz ≤ N ∧ Hid (l.In w S a k ∧ r.In w S b k ∧ l.Ok ∧ r.Ok ∧ A.cmp B = l.cmp r) ∧ Hid (Below w.heap.size w wr)) (fun x _ => A.len - (intOf x).toNat)
  case atStart => exact ⟨0, A, B, rfl, rfl, rfl, hN, ⟨H0.out.1, H0.out.2.1, H0.out.2.2.1, H0.out.2.2.2, rfl⟩, Below.refl _ _⟩
  case round =>
    obtain ⟨k, l, r, rfl, hl, hr, hlN, HI, HW⟩ := hrel
    have HK : Hid (IntKind.u64.wrap (A.len : Int) = A.len ∧ IntKind.u64.wrap (B.len : Int) = B.len) := ⟨wrapU (by omega) (by omega), wrapU (by omega) (by omega)⟩
    cases l with
    | nil =>
      have h1 : A.len ≤ k := by simp [TmF.len] at hl; omega
      have H : Hid (A.cmp B = Sp.cmpI A.len B.len) := by
        show _ = _
        rw [HI.out.2.2.2.2]
        cases r with
        | nil => simp only [TmF.len] at hl hr; simp only [TmF.cmp]; unfold Sp.cmpI; rw [if_neg (by omega), if_neg (by omega)]
        | cons n2 u r => simp only [TmF.len] at hl hr; simp only [TmF.cmp]; unfold Sp.cmpI; rw [if_pos (by omega)]
      have hw1 := HK.out.1
      have hw2 := HK.out.2
      clear hl hr
      go_wp2_with (go_at_call 81; refine (numbers_any _ _ _).mono ?_; rintro e w' ⟨rfl, rfl⟩)
      go_ret
      exact ⟨ret_int H.out.symm, HW.out⟩
    | cons n1 t l =>
      cases r with
      | nil =>
        have h1 : B.len ≤ k := by simp [TmF.len] at hr; omega
        have H : Hid (A.cmp B = Sp.cmpI A.len B.len) := by
          show _ = _
          rw [HI.out.2.2.2.2]
          simp only [TmF.len] at hl hr; simp only [TmF.cmp]; unfold Sp.cmpI; rw [if_neg (by omega), if_pos (by omega)]
        have h3 : k < A.len := by simp only [TmF.len] at hl hr; omega
        have hw1 := HK.out.1
        have hw2 := HK.out.2
        clear hl hr
        go_wp2_with (go_at_call 81; refine (numbers_any _ _ _).mono ?_; rintro e w' ⟨rfl, rfl⟩)
        go_ret
        exact ⟨ret_int H.out.symm, HW.out⟩
      | cons n2 u r =>
        obtain ⟨hv1, hv2, ho1, ho2, hc⟩ := HI.out
        simp only [TmF.In] at hv1 hv2
        obtain ⟨g1, o1, cs1, rfl, hg1, a1, _, c1, ht, hl'⟩ := hv1
        obtain ⟨g2, o2, cs2, rfl, hg2, a2, _, c2, hu, hr'⟩ := hv2
        have hk1 : k < A.len := by simp only [TmF.len] at hl; omega
        have hk2 : k < B.len := by simp only [TmF.len] at hr; omega
        have hi0 : (0 : Int) ≤ (k : Int) := Int.natCast_nonneg _
        have hi1 : (k : Int) < (A.len : Int) := by omega
        have hi2 : (k : Int) < (B.len : Int) := by omega
        have HL : Hid (l.len + (k + 1) = A.len ∧ r.len + (k + 1) = B.len) := by show _ ∧ _; simp only [TmF.len] at hl hr; omega
        have htN : t.sz ≤ N ∧ l.sz ≤ N := by simp [TmF.sz] at hlN; omega
        have hs : Same S w wr := hS.same HW.out
        have HO : Hid (∀ W, Below wr.heap.size wr W → Calls Try.prog 46 #[.agg cs1, .agg cs2] W fun e w' => e = .returned (.int .i64 (t.cmp u)) ∧ Below W.heap.size W w') :=
          HCH.out.at htN.1 (t.In_same hs (fun _ h => h) cs1 ht) (u.In_same hs (fun _ h => h) cs2 hu) (hS.later HW.out) ho1.head.1 ho2.head.1
        obtain ⟨k1, b1, i1, f1, tx1, vb1, rf1, vl1, vf1, cl1, vr1, rfl⟩ := Tm.In_tc ht
        obtain ⟨k2, b2, i2, f2, tx2, vb2, rf2, vl2, vf2, cl2, vr2, rfl⟩ := Tm.In_tc hu
        obtain ⟨e0, e1, e2, e3, e4, e5, e6, e7, e8, e9, e10⟩ := eleven (w := wr) (g := g1) (o := o1 + k * 12 + 1) (fun x hx => by rw [hs.cell (p := ⟨g1, o1 + k * 12 + 1 + x, none⟩) hg1]; exact c1 x hx)
        obtain ⟨d0, d1, d2, d3, d4, d5, d6, d7, d8, d9, d10⟩ := eleven (w := wr) (g := g2) (o := o2 + k * 12 + 1) (fun x hx => by rw [hs.cell (p := ⟨g2, o2 + k * 12 + 1 + x, none⟩) hg2]; exact c2 x hx)
        have a1 : wr.cell? ⟨g1, o1 + k * 12, none⟩ = some (.string n1) := by rw [hs.cell (p := ⟨g1, o1 + k * 12, none⟩) hg1]; exact a1
        have a2 : wr.cell? ⟨g2, o2 + k * 12, none⟩ = some (.string n2) := by rw [hs.cell (p := ⟨g2, o2 + k * 12, none⟩) hg2]; exact a2
        have HN : Hid (l.In w S (some ⟨g1, o1, none⟩) (k + 1) ∧ r.In w S (some ⟨g2, o2, none⟩) (k + 1) ∧ l.Ok ∧ r.Ok) := ⟨hl', hr', ho1.head.2, ho2.head.2⟩
        have HCC : Hid (A.cmp B = if Sp.cmpS n1 n2 ≠ 0 then Sp.cmpS n1 n2 else if t.cmp u ≠ 0 then t.cmp u else l.cmp r) := by show _ = _; rw [hc, TmF.cmp]
        unfold tcells at HO
        clear hl hr hlN HI hl' hr' ho1 ho2 hc ht hu H0 hs c1 c2 HK
        by_cases hn : Sp.cmpS n1 n2 ≠ 0
        · have hn' := ne_bool hn
          have H : Hid (A.cmp B = Sp.cmpS n1 n2) := by show _ = _; rw [HCC.out, if_pos hn]
          clear hn
          go_wp2_with fail
          go_quiet ((go_at_call 84; exact Calls.quiet_of_same ((texts_any _ _ _).mono (fun e w' h => ⟨h.1, h.2.symm⟩))))
          go_wp2_with fail
          go_ret
          exact ⟨ret_int H.out.symm, HW.out.trans (below_drewN' _ _ _)⟩
        · have hn0 : Sp.cmpS n1 n2 = 0 := Decidable.not_not.1 hn
          have HC2 : Hid (A.cmp B = if t.cmp u ≠ 0 then t.cmp u else l.cmp r) := by show _ = _; rw [HCC.out, if_neg hn]
          clear hn
          go_wp2_with fail
          go_quiet ((go_at_call 84; exact Calls.quiet_of_same ((texts_any _ _ _).mono (fun e w' h => ⟨h.1, h.2.symm⟩))))
          have HW' : Hid (Below w.heap.size w (wr.drewN nq)) := HW.out.trans (below_drewN' _ _ _)
          have HO' : Hid (∀ W, Below (wr.drewN nq).heap.size (wr.drewN nq) W → Calls Try.prog 46 #[.agg #[.int .i64 k1, .bool b1, .int .i64 i1, .float .f64 f1, .string tx1, vb1, .int .u64 rf1, vl1, vf1, .string cl1, .int .i64 vr1], .agg #[.int .i64 k2, .bool b2, .int .i64 i2, .float .f64 f2, .string tx2, vb2, .int .u64 rf2, vl2, vf2, .string cl2, .int .i64 vr2]] W fun e w' => e = .returned (.int .i64 (t.cmp u)) ∧ Below W.heap.size W w') := fun W hW =>
            HO.out W ((below_drewN' _ _ _).trans hW)
          have E : Hid ((wr.drewN nq).cell? = wr.cell?) := rfl
          rw [← E.out] at e0 e1 e2 e3 e4 e5 e6 e7 e8 e9 e10 d0 d1 d2 d3 d4 d5 d6 d7 d8 d9 d10
          clear a1 a2 HW HO E
          generalize wr.drewN nq = wq at *
          go_wp2_with fail
          go_region_with ((go_at_call 46; refine (HO'.out _ ?_).mono ?_; exact (Below.refl _ _).drew; rintro e w4 ⟨rfl, hb4⟩; have HB4 : Hid (Below w.heap.size w w4) := HW'.out.trans (((Below.refl _ _).drew.trans hb4).mono HW'.out.size); clear hb4))
          all_goals
            by_cases he : t.cmp u ≠ 0
            · have he' := ne_bool he
              have H : Hid (A.cmp B = t.cmp u) := by show _ = _; rw [HC2.out, if_pos he]
              clear he
              go_wp2_with fail
              go_ret
              exact ⟨ret_int H.out.symm, HB4.out⟩
            · have he0 : t.cmp u = 0 := Decidable.not_not.1 he
              have H : Hid (A.cmp B = l.cmp r) := by show _ = _; rw [HC2.out, if_neg he]
              clear he
              go_wp2_with fail
              go_roundw
              case rel => exact ⟨k + 1, l, r, by go_num, HL.out.1, HL.out.2, htN.2, ⟨HN.out.1, HN.out.2.1, HN.out.2.2.1, HN.out.2.2.2, H.out⟩, HB4.out⟩
              case measure => simp [intOf]; omega
end Go.Proofs.Ytkomcebknllaiaa
