/- Package value's order of any two values that can be is the plain order of their terms. -/
import Derived.Test.YtjdjpbdfchhcfaaGreatKE16
import Derived.Test.YtjdjpbdfchhcfaaGreatKE3
import Derived.Deep.RegionWith
namespace Go.Proofs.YtjdjpbdfchhcfaaGreat
open Go.RowKit

set_option maxRecDepth 100000 in
set_option maxHeartbeats 1000000 in
theorem order_diff (va vb : Value) (k k2 : Int) (w : World) (ha : KindC va k) (hb : KindC vb k2) (hne : Sp.cmpI k k2 ≠ 0) :
    Calls Tryz.prog 132 #[va, vb] w fun e w' => e = .returned (.int .i64 (Sp.cmpI k k2)) ∧ ∃ m, w' = w.drewN m := by
  have hne' := ne_bool hne
  clear hne
  go_enter Tryz.func132, Tryz.ntmps132
  go_wp2_with fail
  refine (ha _).mono ?_
  rintro e w' ⟨rfl, rfl⟩
  go_wp2_with fail
  refine (hb _).mono ?_
  rintro e w' ⟨rfl, rfl⟩
  go_wp2_with (go_at_call 139; refine (cmpInt_any _ _ _).mono ?_; rintro e w' ⟨rfl, rfl⟩)
  go_ret
  exact ⟨rfl, 0, rfl⟩

set_option maxRecDepth 100000 in
set_option maxHeartbeats 1000000 in
theorem order_1  (w : World) :
    Calls Tryz.prog 132 #[.nilIface, .nilIface] w fun e w' => e = .returned (.int .i64 (0)) ∧ ∃ m, w' = w.drewN m := by
  have hz : Sp.cmpI 1 1 = 0 := by decide
  go_enter Tryz.func132, Tryz.ntmps132
  go_wp2_with (first | (go_at_call 101; refine (kindOf_nil _).mono ?_; rintro e w' ⟨rfl, rfl⟩) | (go_at_call 139; refine (cmpInt_any _ _ _).mono ?_; rintro e w' ⟨rfl, rfl⟩))
  go_ret
  exact ⟨rfl, 0, rfl⟩

set_option maxRecDepth 100000 in
set_option maxHeartbeats 1000000 in
theorem order_2 (x y : Bool) (w : World) :
    Calls Tryz.prog 132 #[.iface 4 (.bool x), .iface 4 (.bool y)] w fun e w' => e = .returned (.int .i64 (Sp.cmpI (Sp.rank x) (Sp.rank y))) ∧ ∃ m, w' = w.drewN m := by
  have hz : Sp.cmpI 2 2 = 0 := by decide
  go_enter Tryz.func132, Tryz.ntmps132
  go_wp2_with (first | (go_at_call 101; refine (kindOf_bool _ _).mono ?_; rintro e w' ⟨rfl, rfl⟩) | (go_at_call 139; refine (cmpInt_any _ _ _).mono ?_; rintro e w' ⟨rfl, rfl⟩))
  go_quiet ((first | (go_at_call 140; exact Calls.quiet_of_same ((boolRank_any _ _).mono (fun e w' h => ⟨h.1, h.2.symm⟩))) | (go_at_call 139; exact Calls.quiet_of_same ((cmpInt_any _ _ _).mono (fun e w' h => ⟨h.1, h.2.symm⟩)))))
  go_wp2_with fail
  go_ret
  exact ⟨rfl, _, rfl⟩

set_option maxRecDepth 100000 in
set_option maxHeartbeats 1000000 in
theorem order_3 (x y : Int) (w : World) :
    Calls Tryz.prog 132 #[.iface 2 (.int .i64 x), .iface 2 (.int .i64 y)] w fun e w' => e = .returned (.int .i64 (Sp.cmpI x y)) ∧ ∃ m, w' = w.drewN m := by
  have hz : Sp.cmpI 3 3 = 0 := by decide
  go_enter Tryz.func132, Tryz.ntmps132
  go_wp2_with (first | (go_at_call 101; refine (kindOf_int _ _).mono ?_; rintro e w' ⟨rfl, rfl⟩) | (go_at_call 139; refine (cmpInt_any _ _ _).mono ?_; rintro e w' ⟨rfl, rfl⟩) | (go_at_call 141; refine (cmpI64_any _ _ _).mono ?_; rintro e w' ⟨rfl, rfl⟩))
  go_ret
  exact ⟨rfl, 0, rfl⟩

set_option maxRecDepth 100000 in
set_option maxHeartbeats 1000000 in
theorem order_4 (x y : Nat) (w : World) (hx : x < 18446744073709551616) (hy : y < 18446744073709551616) :
    Calls Tryz.prog 132 #[.iface 22 (.float .f64 x), .iface 22 (.float .f64 y)] w fun e w' => e = .returned (.int .i64 (Sp.cmpI (Sp.frank x) (Sp.frank y))) ∧ ∃ m, w' = w.drewN m := by
  have HX : Hid (x < 18446744073709551616 ∧ y < 18446744073709551616) := ⟨hx, hy⟩
  clear hx hy
  have hz : Sp.cmpI 4 4 = 0 := by decide
  go_enter Tryz.func132, Tryz.ntmps132
  go_wp2_with (first | (go_at_call 101; refine (kindOf_float _ _).mono ?_; rintro e w' ⟨rfl, rfl⟩) | (go_at_call 139; refine (cmpInt_any _ _ _).mono ?_; rintro e w' ⟨rfl, rfl⟩))
  go_quiet ((first | (go_at_call_of 143 x; exact Calls.quiet_of_same ((floatRank_any x _ HX.out.1).mono (fun e w' h => ⟨h.1, h.2.symm⟩))) | (go_at_call 143; exact Calls.quiet_of_same ((floatRank_any y _ HX.out.2).mono (fun e w' h => ⟨h.1, h.2.symm⟩))) | (go_at_call 142; exact Calls.quiet_of_same ((cmpU64_any _ _ _).mono (fun e w' h => ⟨h.1, h.2.symm⟩)))))
  go_wp2_with fail
  go_ret
  exact ⟨rfl, _, rfl⟩

set_option maxRecDepth 100000 in
set_option maxHeartbeats 1000000 in
theorem order_5 (x y : ByteArray) (w : World) :
    Calls Tryz.prog 132 #[.iface 9 (.string x), .iface 9 (.string y)] w fun e w' => e = .returned (.int .i64 (Sp.cmpS x y)) ∧ ∃ m, w' = w.drewN m := by
  have hz : Sp.cmpI 5 5 = 0 := by decide
  go_enter Tryz.func132, Tryz.ntmps132
  go_wp2_with (first | (go_at_call 101; refine (kindOf_text _ _).mono ?_; rintro e w' ⟨rfl, rfl⟩) | (go_at_call 139; refine (cmpInt_any _ _ _).mono ?_; rintro e w' ⟨rfl, rfl⟩) | (go_at_call 144; refine (cmpStr_any _ _ _).mono ?_; rintro e w' ⟨rfl, rfl⟩))
  go_ret
  exact ⟨rfl, 0, rfl⟩

set_option maxRecDepth 100000 in
set_option maxHeartbeats 1000000 in
theorem order_6 (x y : ByteArray) (a b : Option Addr) (c d : Nat) (S : Nat → Prop) (w : World) (ha : BytesAt w S a x) (hb : BytesAt w S b y) :
    Calls Tryz.prog 132 #[.iface 23 (.slice a x.size c), .iface 23 (.slice b y.size d)] w fun e w' => e = .returned (.int .i64 (Sp.cmpS x y)) ∧ ∃ m, w' = w.drewN m := by
  have HX : Hid (BytesAt w S a x ∧ BytesAt w S b y) := ⟨ha, hb⟩
  clear ha hb
  have hz : Sp.cmpI 6 6 = 0 := by decide
  go_enter Tryz.func132, Tryz.ntmps132
  go_wp2_with (first | (go_at_call 101; refine (kindOf_bytes _ _).mono ?_; rintro e w' ⟨rfl, rfl⟩) | (go_at_call 139; refine (cmpInt_any _ _ _).mono ?_; rintro e w' ⟨rfl, rfl⟩) | (go_at_call 145; refine (bytesCmp_any x y a b c d S _ HX.out.1 HX.out.2).mono ?_; rintro e w' ⟨rfl, rfl⟩))
  go_ret
  exact ⟨rfl, 0, rfl⟩

set_option maxRecDepth 100000 in
set_option maxHeartbeats 1000000 in
theorem order_7 (x y : Int) (w : World) :
    Calls Tryz.prog 132 #[.iface 25 (.int .u64 x), .iface 25 (.int .u64 y)] w fun e w' => e = .returned (.int .i64 (Sp.cmpI x y)) ∧ ∃ m, w' = w.drewN m := by
  have hz : Sp.cmpI 7 7 = 0 := by decide
  go_enter Tryz.func132, Tryz.ntmps132
  go_wp2_with (first | (go_at_call 101; refine (kindOf_ref _ _).mono ?_; rintro e w' ⟨rfl, rfl⟩) | (go_at_call 139; refine (cmpInt_any _ _ _).mono ?_; rintro e w' ⟨rfl, rfl⟩) | (go_at_call 146; refine (cmpRef_any _ _ _).mono ?_; rintro e w' ⟨rfl, rfl⟩))
  go_ret
  exact ⟨rfl, 0, rfl⟩

set_option maxRecDepth 100000 in
set_option maxHeartbeats 1000000 in
theorem order_8 (a b : Option Addr) (na nb c d : Nat) (R : Int) (w : World) (h : Calls Tryz.prog 147 #[.slice a na c, .slice b nb d] w fun e w' => e = .returned (.int .i64 R) ∧ ∃ m, w' = w.drewN m) :
    Calls Tryz.prog 132 #[.iface 71 (.slice a na c), .iface 71 (.slice b nb d)] w fun e w' => e = .returned (.int .i64 (R)) ∧ ∃ m, w' = w.drewN m := by
  have HX : Hid (Calls Tryz.prog 147 #[.slice a na c, .slice b nb d] w fun e w' => e = .returned (.int .i64 R) ∧ ∃ m, w' = w.drewN m) := h
  clear h
  have hz : Sp.cmpI 8 8 = 0 := by decide
  go_enter Tryz.func132, Tryz.ntmps132
  go_wp2_with (first | (go_at_call 101; refine (kindOf_list _ _).mono ?_; rintro e w' ⟨rfl, rfl⟩) | (go_at_call 139; refine (cmpInt_any _ _ _).mono ?_; rintro e w' ⟨rfl, rfl⟩) | (go_at_call 147; refine HX.out.mono ?_; rintro e w1 ⟨rfl, hm⟩))
  go_ret
  exact ⟨rfl, hm⟩

set_option maxRecDepth 100000 in
set_option maxHeartbeats 1000000 in
theorem order_9 (a b : Option Addr) (na nb c d : Nat) (R : Int) (w : World) (h : Calls Tryz.prog 148 #[.slice a na c, .slice b nb d] w fun e w' => e = .returned (.int .i64 R) ∧ ∃ m, w' = w.drewN m) :
    Calls Tryz.prog 132 #[.iface 73 (.slice a na c), .iface 73 (.slice b nb d)] w fun e w' => e = .returned (.int .i64 (R)) ∧ ∃ m, w' = w.drewN m := by
  have HX : Hid (Calls Tryz.prog 148 #[.slice a na c, .slice b nb d] w fun e w' => e = .returned (.int .i64 R) ∧ ∃ m, w' = w.drewN m) := h
  clear h
  have hz : Sp.cmpI 9 9 = 0 := by decide
  go_enter Tryz.func132, Tryz.ntmps132
  go_wp2_with (first | (go_at_call 101; refine (kindOf_dict _ _).mono ?_; rintro e w' ⟨rfl, rfl⟩) | (go_at_call 139; refine (cmpInt_any _ _ _).mono ?_; rintro e w' ⟨rfl, rfl⟩) | (go_at_call 148; refine HX.out.mono ?_; rintro e w1 ⟨rfl, hm⟩))
  go_ret
  exact ⟨rfl, hm⟩

set_option maxRecDepth 100000 in
set_option maxHeartbeats 1000000 in
theorem order_10 (a b : Addr) (R : Int) (w : World) (h : Calls Tryz.prog 149 #[.pointer (some a), .pointer (some b)] w fun e w' => e = .returned (.int .i64 R) ∧ ∃ m, w' = w.drewN m) :
    Calls Tryz.prog 132 #[.iface 75 (.pointer (some a)), .iface 75 (.pointer (some b))] w fun e w' => e = .returned (.int .i64 (R)) ∧ ∃ m, w' = w.drewN m := by
  have HX : Hid (Calls Tryz.prog 149 #[.pointer (some a), .pointer (some b)] w fun e w' => e = .returned (.int .i64 R) ∧ ∃ m, w' = w.drewN m) := h
  clear h
  have hz : Sp.cmpI 10 10 = 0 := by decide
  go_enter Tryz.func132, Tryz.ntmps132
  go_wp2_with (first | (go_at_call 101; refine (kindOf_rec _ _).mono ?_; rintro e w' ⟨rfl, rfl⟩) | (go_at_call 139; refine (cmpInt_any _ _ _).mono ?_; rintro e w' ⟨rfl, rfl⟩) | (go_at_call 149; refine HX.out.mono ?_; rintro e w1 ⟨rfl, hm⟩))
  go_ret
  exact ⟨rfl, hm⟩

theorem Tm.V_kind {t : Tm} {v : Value} {S : Nat → Prop} {w : World} (h : t.V w S v) (ho : t.Ok) : KindC v t.kind := by
  have hk := kindOf_any t v S w h
  cases t with
  | mk k b i f tx by' rf l fs c vr =>
    have hp := ho.parts
    have e : (Tm.mk k b i f tx by' rf l fs c vr).kindK = k := by
      show (if k < 1 ∨ 11 < k then 0 else k) = k
      rw [if_neg (by omega)]
    rw [e] at hk; exact hk
set_option maxHeartbeats 2000000 in
theorem order_any (N : Nat) : OrderC N := by
  induction N with
  | zero => intro t u ht; cases t; simp [Tm.sz] at ht
  | succ N ih =>
    intro s t hN va vb S w hs ht os ot
    have hks := Tm.V_kind hs os
    have hkt := Tm.V_kind ht ot
    cases s with
    | mk k b i f tx by' rf l fs c v =>
      cases t with
      | mk k2 b2 i2 f2 tx2 by2 rf2 l2 fs2 c2 v2 =>
        have hlN : l.sz ≤ N ∧ fs.sz ≤ N := by simp [Tm.sz] at hN; omega
        obtain ⟨p1, p2, p3, p4⟩ := os.parts
        obtain ⟨q1, q2, q3, q4⟩ := ot.parts
        by_cases hne : Sp.cmpI k k2 ≠ 0
        · rw [Tm.cmp_ne hne]; exact order_diff va vb k k2 w hks hkt hne
        · obtain rfl := cmpI_zero (Decidable.not_not.1 hne)
          clear hne hks hkt
          simp only [Tm.V] at hs ht
          obtain ⟨h1, h2, h3, h4, h5, h6, h7, h8, h9, h10, h11, h12⟩ := hs
          obtain ⟨g1, g2, g3, g4, g5, g6, g7, g8, g9, g10, g11, g12⟩ := ht
          by_cases k1 : k = 1
          · subst k1; rw [Tm.cmp_1, h1 rfl, g1 rfl]; exact order_1 w
          by_cases k2 : k = 2
          · subst k2; rw [Tm.cmp_2, h2 rfl, g2 rfl]; exact order_2 b b2 w
          by_cases k3 : k = 3
          · subst k3; rw [Tm.cmp_3, h3 rfl, g3 rfl]; exact order_3 i i2 w
          by_cases k4 : k = 4
          · subst k4; rw [Tm.cmp_4, (h4 rfl).1, (g4 rfl).1]; exact order_4 f f2 w (h4 rfl).2 (g4 rfl).2
          by_cases k5 : k = 5
          · subst k5; rw [Tm.cmp_5, (h5 rfl).1, (g5 rfl).1]; exact order_5 tx tx2 w
          by_cases k6 : k = 6
          · subst k6
            obtain ⟨a, ca, rfl, _, ha⟩ := h6 rfl
            obtain ⟨b, cb, rfl, _, hb⟩ := g6 rfl
            rw [Tm.cmp_6]; exact order_6 by' by2 a b ca cb S w ha hb
          by_cases k7 : k = 7
          · subst k7; rw [Tm.cmp_7, h7 rfl, g7 rfl]; exact order_7 rf rf2 w
          by_cases k8 : k = 8
          · subst k8
            obtain ⟨a, ca, rfl, ⟨la, -⟩, ha⟩ := h8 rfl
            obtain ⟨b, cb, rfl, ⟨lb, -⟩, hb⟩ := g8 rfl
            rw [Tm.cmp_8]; exact order_8 a b _ _ ca cb _ w (orderLists_any N ih l l2 hlN.1 a b ca cb S w ha hb (p3 rfl) (q3 rfl) la lb)
          by_cases k9 : k = 9
          · subst k9
            obtain ⟨a, ca, rfl, ⟨la, -⟩, ha⟩ := h9 rfl
            obtain ⟨b, cb, rfl, ⟨lb, -⟩, hb⟩ := g9 rfl
            rw [Tm.cmp_9]; exact order_9 a b _ _ ca cb _ w (orderDicts_any N ih fs fs2 hlN.2 a b ca cb S w ha hb (p4 (.inl rfl)) (q4 (.inl rfl)) la lb)
          have k10 : k = 10 := by clear h1 h2 h3 h4 h5 h6 h7 h8 h9 h10 h11 h12 g1 g2 g3 g4 g5 g6 g7 g8 g9 g10 g11 g12; omega
          subst k10
          obtain ⟨ga, a, ca, rfl, _, c0, c1, c2', _, ⟨la, -⟩, ha⟩ := h10 rfl
          obtain ⟨gb, b, cb, rfl, _, d0, d1, d2, _, ⟨lb, -⟩, hb⟩ := g10 rfl
          rw [Tm.cmp_10]; exact order_10 _ _ _ w (orderRecords_any N ih fs fs2 hlN.2 ga gb a b ca cb c c2 v v2 S w ha hb (p4 (.inr rfl)) (q4 (.inr rfl)) la lb c0 c1 c2' d0 d1 d2)
end Go.Proofs.YtjdjpbdfchhcfaaGreat

/- value.Order and value.Same at two terms' values. -/
namespace Go.Proofs.YtjdjpbdfchhcfaaGreat
open Go.RowKit

def Tm.ordN (s t : Tm) : Int := if s.all.e ≠ 0 ∨ t.all.e ≠ 0 then 0 else s.cmp t
def Tm.ordE (s t : Tm) : Int := if s.all.e ≠ 0 then s.all.e else t.all.e
def Tm.sameB (s t : Tm) : Bool := decide (s.all.e = 0 ∧ t.all.e = 0 ∧ s.cmp t = 0)

theorem Tm.ok_all {t : Tm} (h : t.all.e = 0) : t.Ok := ⟨1, 0, 0, h⟩

set_option maxRecDepth 100000 in
set_option maxHeartbeats 1000000 in
theorem Order_any (s t : Tm) (va vb : Value) (B : Nat) (w : World) (hB : B ≤ w.heap.size) (hs : s.V w (Lo B) va) (ht : t.V w (Lo B) vb) :
    Calls Tryz.prog 123 #[va, vb] w fun e w' => e = .returned (.tuple #[.int .i64 (s.ordN t), .int .i64 (s.ordE t)]) ∧ Below w.heap.size w w' := by
  have HS : Hid (∀ W, Below w.heap.size w W → s.V W (Lo B) va ∧ t.V W (Lo B) vb ∧ B ≤ W.heap.size) := fun W hW =>
    ⟨s.V_same (Same.of_below hW hB) (fun _ h => h) va hs, t.V_same (Same.of_below hW hB) (fun _ h => h) vb ht, by have := hW.size; omega⟩
  clear hs ht
  by_cases h1 : s.all.e ≠ 0
  · have h1' := ne_bool h1
    have H : Hid (s.ordN t = 0 ∧ s.ordE t = s.all.e) := by show _ ∧ _; unfold Tm.ordN Tm.ordE; rw [if_pos (.inl h1), if_pos h1]; exact ⟨rfl, rfl⟩
    clear h1
    go_enter Tryz.func123, Tryz.ntmps123
    go_wp2_with fail
    refine (Check_any s va B _ hB (HS.out _ (Below.refl _ _)).1).mono ?_
    rintro e w1 ⟨rfl, hb1⟩
    go_wp2_with fail
    go_ret2
    rw [H.out.1, H.out.2]
    exact ⟨rfl, hb1⟩
  · have h10 : s.all.e = 0 := Decidable.not_not.1 h1
    by_cases h2 : t.all.e ≠ 0
    · have h2' := ne_bool h2
      have H : Hid (s.ordN t = 0 ∧ s.ordE t = t.all.e) := by show _ ∧ _; unfold Tm.ordN Tm.ordE; rw [if_pos (.inr h2), if_neg h1]; exact ⟨rfl, rfl⟩
      clear h1 h2
      go_enter Tryz.func123, Tryz.ntmps123
      go_wp2_with fail
      refine (Check_any s va B _ hB (HS.out _ (Below.refl _ _)).1).mono ?_
      rintro e w1 ⟨rfl, hb1⟩
      have HB1 : Hid (Below w.heap.size w w1) := hb1
      clear hb1
      go_wp2_with fail
      refine (Check_any t vb B _ (HS.out _ HB1.out).2.2 (HS.out _ HB1.out).2.1).mono ?_
      rintro e w2 ⟨rfl, hb2⟩
      have HB2 : Hid (Below w1.heap.size w1 w2) := hb2
      clear hb2
      go_wp2_with fail
      go_ret2
      rw [H.out.1, H.out.2]
      exact ⟨rfl, below_to HB1.out HB2.out⟩
    · have h20 : t.all.e = 0 := Decidable.not_not.1 h2
      have H : Hid (s.ordN t = s.cmp t ∧ s.ordE t = 0) := by show _ ∧ _; unfold Tm.ordN Tm.ordE; rw [if_neg (by omega), if_neg h1]; exact ⟨rfl, h20⟩
      clear h1 h2
      go_enter Tryz.func123, Tryz.ntmps123
      go_wp2_with fail
      refine (Check_any s va B _ hB (HS.out _ (Below.refl _ _)).1).mono ?_
      rintro e w1 ⟨rfl, hb1⟩
      have HB1 : Hid (Below w.heap.size w w1) := hb1
      clear hb1
      go_wp2_with fail
      refine (Check_any t vb B _ (HS.out _ HB1.out).2.2 (HS.out _ HB1.out).2.1).mono ?_
      rintro e w2 ⟨rfl, hb2⟩
      have HB2 : Hid (Below w.heap.size w w2) := below_to HB1.out hb2
      clear hb2
      go_wp2_with fail
      refine (order_any s.sz s t (Nat.le_refl _) va vb (Lo B) _ (HS.out _ HB2.out).1 (HS.out _ HB2.out).2.1 (Tm.ok_all h10) (Tm.ok_all h20)).mono ?_
      rintro e w3 ⟨rfl, m, rfl⟩
      go_wp2_with fail
      go_ret2
      rw [H.out.1, H.out.2]
      exact ⟨rfl, HB2.out.trans (below_drewN' _ _ _)⟩
end Go.Proofs.YtjdjpbdfchhcfaaGreat

