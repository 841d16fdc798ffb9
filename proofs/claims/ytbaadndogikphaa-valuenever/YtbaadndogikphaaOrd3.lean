/- Package value's order of any two values that can be is the plain order of their terms. -/
import Derived.Test.YtbaadndogikphaaOrdG
import Derived.Test.YtbaadndogikphaaCheck
import Derived.Deep.RegionWith
namespace Go.Proofs.Ytbaadndogikphaa
open Go.RowKit

set_option maxRecDepth 100000 in
set_option maxHeartbeats 1000000 in
theorem order_diff (va vb : Value) (k k2 : Int) (w : World) (ha : KindC va k) (hb : KindC vb k2) (hne : Sp.cmpI k k2 ≠ 0) :
    Calls Try.prog 41 #[va, vb] w fun e w' => e = .returned (.int .i64 (Sp.cmpI k k2)) ∧ ∃ m, w' = w.drewN m := by
  have hne' := ne_bool hne
  clear hne
  go_enter Try.func41, Try.ntmps41
  go_wp2_with fail
  refine (ha _).mono ?_
  rintro e w' ⟨rfl, rfl⟩
  go_wp2_with fail
  refine (hb _).mono ?_
  rintro e w' ⟨rfl, rfl⟩
  go_wp2_with (go_at_call 62; refine (cmpInt_any _ _ _).mono ?_; rintro e w' ⟨rfl, rfl⟩)
  go_ret
  exact ⟨rfl, 0, rfl⟩

set_option maxRecDepth 100000 in
set_option maxHeartbeats 1000000 in
theorem order_1  (w : World) :
    Calls Try.prog 41 #[.nilIface, .nilIface] w fun e w' => e = .returned (.int .i64 (0)) ∧ ∃ m, w' = w.drewN m := by
  have hz : Sp.cmpI 1 1 = 0 := by decide
  go_enter Try.func41, Try.ntmps41
  go_wp2_with (first | (go_at_call 34; refine (kindOf_nil _).mono ?_; rintro e w' ⟨rfl, rfl⟩) | (go_at_call 62; refine (cmpInt_any _ _ _).mono ?_; rintro e w' ⟨rfl, rfl⟩))
  go_ret
  exact ⟨rfl, 0, rfl⟩

set_option maxRecDepth 100000 in
set_option maxHeartbeats 1000000 in
theorem order_2 (x y : Bool) (w : World) :
    Calls Try.prog 41 #[.iface 4 (.bool x), .iface 4 (.bool y)] w fun e w' => e = .returned (.int .i64 (Sp.cmpI (Sp.rank x) (Sp.rank y))) ∧ ∃ m, w' = w.drewN m := by
  have hz : Sp.cmpI 2 2 = 0 := by decide
  go_enter Try.func41, Try.ntmps41
  go_wp2_with (first | (go_at_call 34; refine (kindOf_bool _ _).mono ?_; rintro e w' ⟨rfl, rfl⟩) | (go_at_call 62; refine (cmpInt_any _ _ _).mono ?_; rintro e w' ⟨rfl, rfl⟩))
  go_quiet ((first | (go_at_call 63; exact Calls.quiet_of_same ((boolRank_any _ _).mono (fun e w' h => ⟨h.1, h.2.symm⟩))) | (go_at_call 62; exact Calls.quiet_of_same ((cmpInt_any _ _ _).mono (fun e w' h => ⟨h.1, h.2.symm⟩)))))
  go_wp2_with fail
  go_ret
  exact ⟨rfl, _, rfl⟩

set_option maxRecDepth 100000 in
set_option maxHeartbeats 1000000 in
theorem order_3 (x y : Int) (w : World) :
    Calls Try.prog 41 #[.iface 2 (.int .i64 x), .iface 2 (.int .i64 y)] w fun e w' => e = .returned (.int .i64 (Sp.cmpI x y)) ∧ ∃ m, w' = w.drewN m := by
  have hz : Sp.cmpI 3 3 = 0 := by decide
  go_enter Try.func41, Try.ntmps41
  go_wp2_with (first | (go_at_call 34; refine (kindOf_int _ _).mono ?_; rintro e w' ⟨rfl, rfl⟩) | (go_at_call 62; refine (cmpInt_any _ _ _).mono ?_; rintro e w' ⟨rfl, rfl⟩) | (go_at_call 64; refine (cmpI64_any _ _ _).mono ?_; rintro e w' ⟨rfl, rfl⟩))
  go_ret
  exact ⟨rfl, 0, rfl⟩

set_option maxRecDepth 100000 in
set_option maxHeartbeats 1000000 in
theorem order_4 (x y : Nat) (w : World) (hx : x < 18446744073709551616) (hy : y < 18446744073709551616) :
    Calls Try.prog 41 #[.iface 22 (.float .f64 x), .iface 22 (.float .f64 y)] w fun e w' => e = .returned (.int .i64 (Sp.cmpI (Sp.frank x) (Sp.frank y))) ∧ ∃ m, w' = w.drewN m := by
  have HX : Hid (x < 18446744073709551616 ∧ y < 18446744073709551616) := ⟨hx, hy⟩
  clear hx hy
  have hz : Sp.cmpI 4 4 = 0 := by decide
  go_enter Try.func41, Try.ntmps41
  go_wp2_with (first | (go_at_call 34; refine (kindOf_float _ _).mono ?_; rintro e w' ⟨rfl, rfl⟩) | (go_at_call 62; refine (cmpInt_any _ _ _).mono ?_; rintro e w' ⟨rfl, rfl⟩))
  go_quiet ((first | (go_at_call_of 66 x; exact Calls.quiet_of_same ((floatRank_any x _ HX.out.1).mono (fun e w' h => ⟨h.1, h.2.symm⟩))) | (go_at_call 66; exact Calls.quiet_of_same ((floatRank_any y _ HX.out.2).mono (fun e w' h => ⟨h.1, h.2.symm⟩))) | (go_at_call 65; exact Calls.quiet_of_same ((cmpU64_any _ _ _).mono (fun e w' h => ⟨h.1, h.2.symm⟩)))))
  go_wp2_with fail
  go_ret
  exact ⟨rfl, _, rfl⟩

set_option maxRecDepth 100000 in
set_option maxHeartbeats 1000000 in
theorem order_5 (x y : ByteArray) (w : World) :
    Calls Try.prog 41 #[.iface 9 (.string x), .iface 9 (.string y)] w fun e w' => e = .returned (.int .i64 (Sp.cmpS x y)) ∧ ∃ m, w' = w.drewN m := by
  have hz : Sp.cmpI 5 5 = 0 := by decide
  go_enter Try.func41, Try.ntmps41
  go_wp2_with (first | (go_at_call 34; refine (kindOf_text _ _).mono ?_; rintro e w' ⟨rfl, rfl⟩) | (go_at_call 62; refine (cmpInt_any _ _ _).mono ?_; rintro e w' ⟨rfl, rfl⟩) | (go_at_call 67; refine (cmpStr_any _ _ _).mono ?_; rintro e w' ⟨rfl, rfl⟩))
  go_ret
  exact ⟨rfl, 0, rfl⟩

set_option maxRecDepth 100000 in
set_option maxHeartbeats 1000000 in
theorem order_6 (x y : ByteArray) (a b : Option Addr) (c d : Nat) (S : Nat → Prop) (w : World) (ha : BytesAt w S a x) (hb : BytesAt w S b y) :
    Calls Try.prog 41 #[.iface 23 (.slice a x.size c), .iface 23 (.slice b y.size d)] w fun e w' => e = .returned (.int .i64 (Sp.cmpS x y)) ∧ ∃ m, w' = w.drewN m := by
  have HX : Hid (BytesAt w S a x ∧ BytesAt w S b y) := ⟨ha, hb⟩
  clear ha hb
  have hz : Sp.cmpI 6 6 = 0 := by decide
  go_enter Try.func41, Try.ntmps41
  go_wp2_with (first | (go_at_call 34; refine (kindOf_bytes _ _).mono ?_; rintro e w' ⟨rfl, rfl⟩) | (go_at_call 62; refine (cmpInt_any _ _ _).mono ?_; rintro e w' ⟨rfl, rfl⟩) | (go_at_call 68; refine (bytesCmp_any x y a b c d S _ HX.out.1 HX.out.2).mono ?_; rintro e w' ⟨rfl, rfl⟩))
  go_ret
  exact ⟨rfl, 0, rfl⟩

set_option maxRecDepth 100000 in
set_option maxHeartbeats 1000000 in
theorem order_7 (x y : Int) (w : World) :
    Calls Try.prog 41 #[.iface 25 (.int .u64 x), .iface 25 (.int .u64 y)] w fun e w' => e = .returned (.int .i64 (Sp.cmpI x y)) ∧ ∃ m, w' = w.drewN m := by
  have hz : Sp.cmpI 7 7 = 0 := by decide
  go_enter Try.func41, Try.ntmps41
  go_wp2_with (first | (go_at_call 34; refine (kindOf_ref _ _).mono ?_; rintro e w' ⟨rfl, rfl⟩) | (go_at_call 62; refine (cmpInt_any _ _ _).mono ?_; rintro e w' ⟨rfl, rfl⟩) | (go_at_call 69; refine (cmpRef_any _ _ _).mono ?_; rintro e w' ⟨rfl, rfl⟩))
  go_ret
  exact ⟨rfl, 0, rfl⟩

set_option maxRecDepth 100000 in
set_option maxHeartbeats 1000000 in
theorem order_8 (a b : Option Addr) (na nb c d : Nat) (R : Int) (w : World) (h : Calls Try.prog 70 #[.slice a na c, .slice b nb d] w fun e w' => e = .returned (.int .i64 R) ∧ ∃ m, w' = w.drewN m) :
    Calls Try.prog 41 #[.iface 63 (.slice a na c), .iface 63 (.slice b nb d)] w fun e w' => e = .returned (.int .i64 (R)) ∧ ∃ m, w' = w.drewN m := by
  have HX : Hid (Calls Try.prog 70 #[.slice a na c, .slice b nb d] w fun e w' => e = .returned (.int .i64 R) ∧ ∃ m, w' = w.drewN m) := h
  clear h
  have hz : Sp.cmpI 8 8 = 0 := by decide
  go_enter Try.func41, Try.ntmps41
  go_wp2_with (first | (go_at_call 34; refine (kindOf_list _ _).mono ?_; rintro e w' ⟨rfl, rfl⟩) | (go_at_call 62; refine (cmpInt_any _ _ _).mono ?_; rintro e w' ⟨rfl, rfl⟩) | (go_at_call 70; refine HX.out.mono ?_; rintro e w1 ⟨rfl, hm⟩))
  go_ret
  exact ⟨rfl, hm⟩

set_option maxRecDepth 100000 in
set_option maxHeartbeats 1000000 in
theorem order_9 (a b : Option Addr) (na nb c d : Nat) (R : Int) (w : World) (h : Calls Try.prog 71 #[.slice a na c, .slice b nb d] w fun e w' => e = .returned (.int .i64 R) ∧ ∃ m, w' = w.drewN m) :
    Calls Try.prog 41 #[.iface 62 (.slice a na c), .iface 62 (.slice b nb d)] w fun e w' => e = .returned (.int .i64 (R)) ∧ ∃ m, w' = w.drewN m := by
  have HX : Hid (Calls Try.prog 71 #[.slice a na c, .slice b nb d] w fun e w' => e = .returned (.int .i64 R) ∧ ∃ m, w' = w.drewN m) := h
  clear h
  have hz : Sp.cmpI 9 9 = 0 := by decide
  go_enter Try.func41, Try.ntmps41
  go_wp2_with (first | (go_at_call 34; refine (kindOf_dict _ _).mono ?_; rintro e w' ⟨rfl, rfl⟩) | (go_at_call 62; refine (cmpInt_any _ _ _).mono ?_; rintro e w' ⟨rfl, rfl⟩) | (go_at_call 71; refine HX.out.mono ?_; rintro e w1 ⟨rfl, hm⟩))
  go_ret
  exact ⟨rfl, hm⟩

set_option maxRecDepth 100000 in
set_option maxHeartbeats 1000000 in
theorem order_10 (a b : Addr) (R : Int) (w : World) (h : Calls Try.prog 72 #[.pointer (some a), .pointer (some b)] w fun e w' => e = .returned (.int .i64 R) ∧ ∃ m, w' = w.drewN m) :
    Calls Try.prog 41 #[.iface 55 (.pointer (some a)), .iface 55 (.pointer (some b))] w fun e w' => e = .returned (.int .i64 (R)) ∧ ∃ m, w' = w.drewN m := by
  have HX : Hid (Calls Try.prog 72 #[.pointer (some a), .pointer (some b)] w fun e w' => e = .returned (.int .i64 R) ∧ ∃ m, w' = w.drewN m) := h
  clear h
  have hz : Sp.cmpI 10 10 = 0 := by decide
  go_enter Try.func41, Try.ntmps41
  go_wp2_with (first | (go_at_call 34; refine (kindOf_rec _ _).mono ?_; rintro e w' ⟨rfl, rfl⟩) | (go_at_call 62; refine (cmpInt_any _ _ _).mono ?_; rintro e w' ⟨rfl, rfl⟩) | (go_at_call 72; refine HX.out.mono ?_; rintro e w1 ⟨rfl, hm⟩))
  go_ret
  exact ⟨rfl, hm⟩

theorem Tm.V_kind {t : Tm} {v : Value} {S : Nat → Prop} {w : World} (h : t.V w S v) (ho : t.Ok) : KindC v t.kind := by
  have hk := kindOf_any t v S w h
  cases t with
  | mk k b i f tx by' rf l fs c vr =>
    have hp := ho.parts
    have e : (Tm.mk k b i f tx by' rf l fs c vr).kindK = k := by
      show (if k < 1 ∨ 11 < k then 0 else k) = k
      rw [if_neg (by omega)]
    rw [e] at hk; exact hk
set_option maxHeartbeats 2000000 in
theorem order_any (N : Nat) : OrderC N := by
  induction N with
  | zero => intro t u ht; cases t; simp [Tm.sz] at ht
  | succ N ih =>
    intro s t hN va vb S w hs ht os ot
    have hks := Tm.V_kind hs os
    have hkt := Tm.V_kind ht ot
    cases s with
    | mk k b i f tx by' rf l fs c v =>
      cases t with
      | mk k2 b2 i2 f2 tx2 by2 rf2 l2 fs2 c2 v2 =>
        have hlN : l.sz ≤ N ∧ fs.sz ≤ N := by simp [Tm.sz] at hN; omega
        obtain ⟨p1, p2, p3, p4⟩ := os.parts
        obtain ⟨q1, q2, q3, q4⟩ := ot.parts
        by_cases hne : Sp.cmpI k k2 ≠ 0
        · rw [Tm.cmp_ne hne]; exact order_diff va vb k k2 w hks hkt hne
        · obtain rfl := cmpI_zero (Decidable.not_not.1 hne)
          clear hne hks hkt
          simp only [Tm.V] at hs ht
          obtain ⟨h1, h2, h3, h4, h5, h6, h7, h8, h9, h10, h11, h12⟩ := hs
          obtain ⟨g1, g2, g3, g4, g5, g6, g7, g8, g9, g10, g11, g12⟩ := ht
          by_cases k1 : k = 1
          · subst k1; rw [Tm.cmp_1, h1 rfl, g1 rfl]; exact order_1 w
          by_cases k2 : k = 2
          · subst k2; rw [Tm.cmp_2, h2 rfl, g2 rfl]; exact order_2 b b2 w
          by_cases k3 : k = 3
          · subst k3; rw [Tm.cmp_3, h3 rfl, g3 rfl]; exact order_3 i i2 w
          by_cases k4 : k = 4
          · subst k4; rw [Tm.cmp_4, (h4 rfl).1, (g4 rfl).1]; exact order_4 f f2 w (h4 rfl).2 (g4 rfl).2
          by_cases k5 : k = 5
          · subst k5; rw [Tm.cmp_5, (h5 rfl).1, (g5 rfl).1]; exact order_5 tx tx2 w
          by_cases k6 : k = 6
          · subst k6
            obtain ⟨a, ca, rfl, _, ha⟩ := h6 rfl
            obtain ⟨b, cb, rfl, _, hb⟩ := g6 rfl
            rw [Tm.cmp_6]; exact order_6 by' by2 a b ca cb S w ha hb
          by_cases k7 : k = 7
          · subst k7; rw [Tm.cmp_7, h7 rfl, g7 rfl]; exact order_7 rf rf2 w
          by_cases k8 : k = 8
          · subst k8
            obtain ⟨a, ca, rfl, ⟨la, -⟩, ha⟩ := h8 rfl
            obtain ⟨b, cb, rfl, ⟨lb, -⟩, hb⟩ := g8 rfl
            rw [Tm.cmp_8]; exact order_8 a b _ _ ca cb _ w (orderLists_any N ih l l2 hlN.1 a b ca cb S w ha hb (p3 rfl) (q3 rfl) la lb)
          by_cases k9 : k = 9
          · subst k9
            obtain ⟨a, ca, rfl, ⟨la, -⟩, ha⟩ := h9 rfl
            obtain ⟨b, cb, rfl, ⟨lb, -⟩, hb⟩ := g9 rfl
            rw [Tm.cmp_9]; exact order_9 a b _ _ ca cb _ w (orderDicts_any N ih fs fs2 hlN.2 a b ca cb S w ha hb (p4 (.inl rfl)) (q4 (.inl rfl)) la lb)
          have k10 : k = 10 := by clear h1 h2 h3 h4 h5 h6 h7 h8 h9 h10 h11 h12 g1 g2 g3 g4 g5 g6 g7 g8 g9 g10 g11 g12; omega
          subst k10
          obtain ⟨ga, a, ca, rfl, _, c0, c1, c2', _, ⟨la, -⟩, ha⟩ := h10 rfl
          obtain ⟨gb, b, cb, rfl, _, d0, d1, d2, _, ⟨lb, -⟩, hb⟩ := g10 rfl
          rw [Tm.cmp_10]; exact order_10 _ _ _ w (orderRecords_any N ih fs fs2 hlN.2 ga gb a b ca cb c c2 v v2 S w ha hb (p4 (.inr rfl)) (q4 (.inr rfl)) la lb c0 c1 c2' d0 d1 d2)
end Go.Proofs.Ytbaadndogikphaa
