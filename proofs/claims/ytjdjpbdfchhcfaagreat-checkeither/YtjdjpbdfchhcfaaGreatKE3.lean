/- The Go walk through a value (package value: walk.value) comes to the plain walk through its term. -/
import Derived.Test.YtjdjpbdfchhcfaaGreatKE2
import Derived.Deep.QuietTactic
import Derived.BigQuiet
namespace Go.Proofs.YtjdjpbdfchhcfaaGreat
open Go.RowKit

theorem below_to {w w1 w2 : World} (h : Below w.heap.size w w1) (h' : Below w1.heap.size w1 w2) : Below w.heap.size w w2 := h.trans (h'.mono h.size)
theorem below_drewN' (b : Nat) (w : World) (n : Nat) : Below b w (w.drewN n) := ⟨rfl, rfl, rfl, Nat.le_refl _, fun _ _ => rfl⟩
theorem wk_drewN {w : World} {b : Nat} {p d : Int} (h : Wk w b p d) (n : Nat) : Wk (w.drewN n) b p d := h.same (Same.of_below (below_drewN' w.heap.size w n) (Nat.le_refl _)) h.lt

def KindC (v : Value) (k : Int) : Prop := ∀ w, Calls Tryz.prog 101 #[v] w fun e w' => e = .returned (.int .i64 k) ∧ w = w'

def entered (w : World) (b : Nat) (p d n : Int) : World := (w.setCell ⟨b, 0, none⟩ (.int .i64 (p + 1))).setCell ⟨b, 1, none⟩ (.int .i64 (max d n))
theorem entered_below (w : World) (b : Nat) (p d n : Int) : Below b w (entered w b p d n) := ((Below.refl b w).setCell (p := ⟨b, 0, none⟩) (Nat.le_refl b) _).setCell (p := ⟨b, 1, none⟩) (Nat.le_refl b) _
theorem enter_to (b : Nat) (p d k n : Int) (w : World) (h : Wk w b p d) (hp : 0 ≤ p) (hp' : p ≤ 100000) :
    Calls Tryz.prog 116 #[.pointer (some ⟨b, 0, none⟩), .int .i64 k, .int .i64 n] w fun e w' => e = .returned (.int .i64 (Sp.ent k p n)) ∧ Wk w' b (p + 1) (max d n) ∧ Below b w w' := by
  refine (enter_any b p d k n w h hp hp').mono ?_
  rintro e w' ⟨rfl, rfl⟩
  exact ⟨rfl, h.set _ _, entered_below w b p d n⟩

set_option maxRecDepth 100000 in
set_option maxHeartbeats 400000 in
theorem value_err (b : Nat) (v : Value) (k p d n : Int) (w : World) (hk : KindC v k) (hw : Wk w b p d) (hp : 0 ≤ p) (hp' : p ≤ 16384) (he : Sp.ent k p n ≠ 0) :
    Calls Tryz.prog 98 #[.pointer (some ⟨b, 0, none⟩), v, .int .i64 n] w fun e w' => e = .returned (.int .i64 (Sp.ent k p n)) ∧ Wk w' b (p + 1) (max d n) ∧ Below b w w' := by
  have he' := ne_bool he
  have HW : Hid (Wk w b p d) := hw
  clear he hw
  go_enter Tryz.func98, Tryz.ntmps98
  go_wp2_with (first | (go_at_call 101; refine (hk _).mono ?_; rintro e w' ⟨rfl, rfl⟩) | (go_at_call 116; refine (enter_to b p d _ _ _ HW.out hp (by omega)).mono ?_; rintro e w1 ⟨rfl, hk1, hb1⟩))
  go_ret
  exact ⟨rfl, hk1, hb1⟩

set_option maxRecDepth 100000 in
set_option maxHeartbeats 400000 in
theorem value_plain (b : Nat) (T : Nat) (x : Value) (k p d n : Int) (w : World) (hk : KindC (.iface T x) k) (hw : Wk w b p d) (hp : 0 ≤ p) (hp' : p ≤ 16384) (he : Sp.ent k p n = 0)
    (h1 : T ≠ 9) (h2 : T ≠ 23) (h3 : T ≠ 71) (h4 : T ≠ 73) (h5 : T ≠ 75) :
    Calls Tryz.prog 98 #[.pointer (some ⟨b, 0, none⟩), .iface T x, .int .i64 n] w fun e w' => e = .returned (.int .i64 0) ∧ Wk w' b (p + 1) (max d n) ∧ Below b w w' := by
  have HW : Hid (Wk w b p d) := hw
  clear hw
  go_enter Tryz.func98, Tryz.ntmps98
  go_wp2_with (first | (go_at_call 101; refine (hk _).mono ?_; rintro e w' ⟨rfl, rfl⟩) | (go_at_call 116; refine (enter_to b p d _ _ _ HW.out hp (by omega)).mono ?_; rintro e w1 ⟨rfl, hk1, hb1⟩))
  go_ret
  exact ⟨rfl, hk1, hb1⟩

set_option maxRecDepth 100000 in
set_option maxHeartbeats 400000 in
theorem value_nil (b : Nat) (p d n : Int) (w : World) (hw : Wk w b p d) (hp : 0 ≤ p) (hp' : p ≤ 16384) (he : Sp.ent 1 p n = 0) :
    Calls Tryz.prog 98 #[.pointer (some ⟨b, 0, none⟩), .nilIface, .int .i64 n] w fun e w' => e = .returned (.int .i64 0) ∧ Wk w' b (p + 1) (max d n) ∧ Below b w w' := by
  have HW : Hid (Wk w b p d) := hw
  clear hw
  go_enter Tryz.func98, Tryz.ntmps98
  go_wp2_with (first | (go_at_call 101; refine (kindOf_nil _).mono ?_; rintro e w' ⟨rfl, rfl⟩) | (go_at_call 116; refine (enter_to b p d _ _ _ HW.out hp (by omega)).mono ?_; rintro e w1 ⟨rfl, hk1, hb1⟩))
  go_ret
  exact ⟨rfl, hk1, hb1⟩

set_option maxRecDepth 100000 in
set_option maxHeartbeats 400000 in
theorem value_text (b : Nat) (s : ByteArray) (p d n : Int) (w : World) (hw : Wk w b p d) (hp : 0 ≤ p) (hp' : p ≤ 16384) (he : Sp.ent 5 p n = 0) :
    Calls Tryz.prog 98 #[.pointer (some ⟨b, 0, none⟩), .iface 9 (.string s), .int .i64 n] w fun e w' => e = .returned (.int .i64 (Sp.len s.size 65536)) ∧ Wk w' b (p + 1) (max d n) ∧ Below b w w' := by
  have HW : Hid (Wk w b p d) := hw
  clear hw
  go_enter Tryz.func98, Tryz.ntmps98
  go_wp2_with (first | (go_at_call 101; refine (kindOf_text _ _).mono ?_; rintro e w' ⟨rfl, rfl⟩) | (go_at_call 116; refine (enter_to b p d _ _ _ HW.out hp (by omega)).mono ?_; rintro e w1 ⟨rfl, hk1, hb1⟩) | (go_at_call 117; refine (lengthRule_any _ _ _).mono ?_; rintro e w' ⟨rfl, rfl⟩))
  go_ret
  exact ⟨rfl, hk1, hb1⟩

set_option maxRecDepth 100000 in
set_option maxHeartbeats 400000 in
theorem value_bytes (b : Nat) (a : Option Addr) (m c : Nat) (p d n : Int) (w : World) (hw : Wk w b p d) (hp : 0 ≤ p) (hp' : p ≤ 16384) (he : Sp.ent 6 p n = 0) :
    Calls Tryz.prog 98 #[.pointer (some ⟨b, 0, none⟩), .iface 23 (.slice a m c), .int .i64 n] w fun e w' => e = .returned (.int .i64 (Sp.len m 65536)) ∧ Wk w' b (p + 1) (max d n) ∧ Below b w w' := by
  have HW : Hid (Wk w b p d) := hw
  clear hw
  go_enter Tryz.func98, Tryz.ntmps98
  go_wp2_with (first | (go_at_call 101; refine (kindOf_bytes _ _).mono ?_; rintro e w' ⟨rfl, rfl⟩) | (go_at_call 116; refine (enter_to b p d _ _ _ HW.out hp (by omega)).mono ?_; rintro e w1 ⟨rfl, hk1, hb1⟩) | (go_at_call 117; refine (lengthRule_any _ _ _).mono ?_; rintro e w' ⟨rfl, rfl⟩))
  go_ret
  exact ⟨rfl, hk1, hb1⟩

set_option maxRecDepth 100000 in
set_option maxHeartbeats 400000 in
theorem value_list (N : Nat) (HC : ValueC N) (L : TmL) (hN : L.sz ≤ N) (b : Nat) (a : Option Addr) (c : Nat) (p d n : Int) (w : World) (hw : Wk w b p d) (h : L.V w (Lo b) a 0) (hlen : L.len ≤ maxLen) (hp : 0 ≤ p) (hn : 1 ≤ n) (he : Sp.ent 8 p n = 0) :
    Calls Tryz.prog 98 #[.pointer (some ⟨b, 0, none⟩), .iface 71 (.slice a L.len c), .int .i64 n] w fun e w' => e = .returned (.int .i64 (L.wkR n (p + 1) (max d n)).e) ∧ Wk w' b (L.wkR n (p + 1) (max d n)).p (L.wkR n (p + 1) (max d n)).d ∧ Below b w w' := by
  have hz := Sp.ent_zero he
  have HW : Hid (Wk w b p d) := hw
  have HV : Hid (∀ W, Below b w W → L.V W (Lo b) a 0) := fun W hW => L.V_same (Same.of_below hW (Nat.le_refl _)) (fun _ h => h) a 0 h
  have HCH : Hid (ValueC N) := HC
  clear hw h HC
  go_enter Tryz.func98, Tryz.ntmps98
  go_wp2_with (first | (go_at_call 101; refine (kindOf_list _ _).mono ?_; rintro e w' ⟨rfl, rfl⟩) | (go_at_call 116; refine (enter_to b p d _ _ _ HW.out hp (by omega)).mono ?_; rintro e w1 ⟨rfl, hk1, hb1⟩) | (go_at_call 118; refine (list_any N HCH.out L hN b a c _ _ _ _ hk1 (HV.out _ hb1) hlen (by omega) (by omega) hn (by omega)).mono ?_; rintro e w2 ⟨rfl, hk2, hb2⟩))
  go_ret
  exact ⟨rfl, hk2, hb1.trans hb2⟩

set_option maxRecDepth 100000 in
set_option maxHeartbeats 400000 in
theorem value_dict (N : Nat) (HC : ValueC N) (L : TmF) (hN : L.sz ≤ N) (b : Nat) (a : Option Addr) (c : Nat) (p d n : Int) (w : World) (hw : Wk w b p d) (h : L.V w (Lo b) a 0) (hlen : L.len ≤ maxLen) (hp : 0 ≤ p) (hn : 1 ≤ n) (he : Sp.ent 9 p n = 0) :
    Calls Tryz.prog 98 #[.pointer (some ⟨b, 0, none⟩), .iface 73 (.slice a L.len c), .int .i64 n] w fun e w' => e = .returned (.int .i64 (L.wkR n (p + 1) (max d n)).e) ∧ Wk w' b (L.wkR n (p + 1) (max d n)).p (L.wkR n (p + 1) (max d n)).d ∧ Below b w w' := by
  have hz := Sp.ent_zero he
  have HW : Hid (Wk w b p d) := hw
  have HV : Hid (∀ W, Below b w W → L.V W (Lo b) a 0) := fun W hW => L.V_same (Same.of_below hW (Nat.le_refl _)) (fun _ h => h) a 0 h
  have HCH : Hid (ValueC N) := HC
  clear hw h HC
  go_enter Tryz.func98, Tryz.ntmps98
  go_wp2_with (first | (go_at_call 101; refine (kindOf_dict _ _).mono ?_; rintro e w' ⟨rfl, rfl⟩) | (go_at_call 116; refine (enter_to b p d _ _ _ HW.out hp (by omega)).mono ?_; rintro e w1 ⟨rfl, hk1, hb1⟩) | (go_at_call 119; refine (dict_any N HCH.out L hN b a c _ _ _ _ hk1 (HV.out _ hb1) hlen (by omega) (by omega) hn (by omega)).mono ?_; rintro e w2 ⟨rfl, hk2, hb2⟩))
  go_ret
  exact ⟨rfl, hk2, hb1.trans hb2⟩

set_option maxRecDepth 100000 in
set_option maxHeartbeats 400000 in
theorem value_rec (N : Nat) (HC : ValueC N) (L : TmF) (hN : L.sz ≤ N) (b g : Nat) (a : Option Addr) (c : Nat) (s : ByteArray) (vr p d n : Int) (w : World) (hw : Wk w b p d) (hg : g < b) (c0 : w.cell? ⟨g, 0, none⟩ = some (.string s)) (c1 : w.cell? ⟨g, 1, none⟩ = some (.int .i64 vr)) (c2 : w.cell? ⟨g, 2, none⟩ = some (.slice a L.len c)) (hs : s.size ≤ maxLen) (h : L.V w (Lo b) a 0) (hlen : L.len ≤ maxLen) (hp : 0 ≤ p) (hn : 1 ≤ n) (he : Sp.ent 10 p n = 0) (hh : Sp.headR s vr = 0) :
    Calls Tryz.prog 98 #[.pointer (some ⟨b, 0, none⟩), .iface 75 (.pointer (some ⟨g, 0, none⟩)), .int .i64 n] w fun e w' => e = .returned (.int .i64 (L.wkR n (p + 1) (max d n)).e) ∧ Wk w' b (L.wkR n (p + 1) (max d n)).p (L.wkR n (p + 1) (max d n)).d ∧ Below b w w' := by
  have hz := Sp.ent_zero he
  have HW : Hid (Wk w b p d) := hw
  have HV : Hid (∀ W, Below b w W → L.V W (Lo b) a 0) := fun W hW => L.V_same (Same.of_below hW (Nat.le_refl _)) (fun _ h => h) a 0 h
  have HCH : Hid (ValueC N) := HC
  have HD : Hid (∀ W, Below b w W → W.cell? ⟨g, 0, none⟩ = some (.string s) ∧ W.cell? ⟨g, 1, none⟩ = some (.int .i64 vr) ∧ W.cell? ⟨g, 2, none⟩ = some (.slice a L.len c)) := fun W hW => ⟨by rw [hW.cell (p := ⟨g, 0, none⟩) hg]; exact c0, by rw [hW.cell (p := ⟨g, 1, none⟩) hg]; exact c1, by rw [hW.cell (p := ⟨g, 2, none⟩) hg]; exact c2⟩
  clear hw h HC c0 c1 c2
  go_enter Tryz.func98, Tryz.ntmps98
  go_wp2_with (first | (go_at_call 101; refine (kindOf_rec _ _).mono ?_; rintro e w' ⟨rfl, rfl⟩) | (go_at_call 116; refine (enter_to b p d _ _ _ HW.out hp (by omega)).mono ?_; rintro e w1 ⟨rfl, hk1, hb1⟩; obtain ⟨c0, c1, c2⟩ := HD.out w1 hb1))
  go_quiet ((go_at_call 120; exact Calls.quiet_of_same ((headRule_any _ _ _ hs).mono (fun e w' h => ⟨h.1, h.2.symm⟩))))
  go_wp2_with (go_at_call 119; refine (dict_any N HCH.out L hN b a c _ _ _ _ (wk_drewN hk1 _) (HV.out _ (hb1.trans (below_drewN' _ _ _))) hlen (by omega) (by omega) hn (by omega)).mono ?_; rintro e w2 ⟨rfl, hk2, hb2⟩)
  go_ret
  exact ⟨rfl, hk2, (hb1.trans (below_drewN' _ _ _)).trans hb2⟩

set_option maxRecDepth 100000 in
set_option maxHeartbeats 400000 in
theorem value_head (b g : Nat) (s : ByteArray) (vr p d n : Int) (w : World) (hw : Wk w b p d) (hg : g < b) (c0 : w.cell? ⟨g, 0, none⟩ = some (.string s)) (c1 : w.cell? ⟨g, 1, none⟩ = some (.int .i64 vr)) (hs : s.size ≤ maxLen) (hp : 0 ≤ p) (hp' : p ≤ 16384) (he : Sp.ent 10 p n = 0) (hh : Sp.headR s vr ≠ 0) :
    Calls Tryz.prog 98 #[.pointer (some ⟨b, 0, none⟩), .iface 75 (.pointer (some ⟨g, 0, none⟩)), .int .i64 n] w fun e w' => e = .returned (.int .i64 (Sp.headR s vr)) ∧ Wk w' b (p + 1) (max d n) ∧ Below b w w' := by
  have HW : Hid (Wk w b p d) := hw
  have HD : Hid (∀ W, Below b w W → W.cell? ⟨g, 0, none⟩ = some (.string s) ∧ W.cell? ⟨g, 1, none⟩ = some (.int .i64 vr)) := fun W hW => ⟨by rw [hW.cell (p := ⟨g, 0, none⟩) hg]; exact c0, by rw [hW.cell (p := ⟨g, 1, none⟩) hg]; exact c1⟩
  have hh' := ne_bool hh
  clear hw c0 c1 hh
  go_enter Tryz.func98, Tryz.ntmps98
  go_wp2_with (first | (go_at_call 101; refine (kindOf_rec _ _).mono ?_; rintro e w' ⟨rfl, rfl⟩) | (go_at_call 116; refine (enter_to b p d _ _ _ HW.out hp (by omega)).mono ?_; rintro e w1 ⟨rfl, hk1, hb1⟩; obtain ⟨c0, c1⟩ := HD.out w1 hb1))
  go_quiet ((go_at_call 120; exact Calls.quiet_of_same ((headRule_any _ _ _ hs).mono (fun e w' h => ⟨h.1, h.2.symm⟩))))
  go_wp2_with fail
  go_ret
  exact ⟨rfl, wk_drewN hk1 _, hb1.trans (below_drewN' _ _ _)⟩

theorem k_alien {k : Int} (k1 : ¬ k = 1) (k2 : ¬ k = 2) (k3 : ¬ k = 3) (k4 : ¬ k = 4) (k5 : ¬ k = 5) (k6 : ¬ k = 6) (k7 : ¬ k = 7) (k8 : ¬ k = 8) (k9 : ¬ k = 9) (k10 : ¬ k = 10) (k11 : ¬ k = 11) : k < 1 ∨ 11 < k := by omega
theorem k_alien' {k : Int} (h : k < 1 ∨ 11 < k) : k < 1 ∨ 10 < k := by omega

set_option maxHeartbeats 1000000 in
theorem value_any (N : Nat) : ValueC N := by
  induction N with
  | zero => intro t ht; cases t; simp [Tm.sz] at ht
  | succ N ih =>
    intro t hN b v p d n w hw hv hp hp' hn hn'
    cases t with
    | mk k bo i f tx by' rf l fs c vr =>
      have hlN : l.sz ≤ N ∧ fs.sz ≤ N := by simp [Tm.sz] at hN; omega
      simp only [Tm.V] at hv
      obtain ⟨h1, h2, h3, h4, h5, h6, h7, h8, h9, h10, h11, h12⟩ := hv
      by_cases k1 : k = 1
      · subst k1; obtain rfl := h1 rfl
        by_cases he : Sp.ent 1 p n ≠ 0
        · rw [Tm.wk_ent he]; exact value_err b _ 1 p d n w kindOf_nil hw hp hp' he
        · have he := Decidable.not_not.1 he
          rw [Tm.wk_else he (by decide) (by decide) (by decide) (by decide) (by decide)]; exact value_nil b p d n w hw hp hp' he
      by_cases k2 : k = 2
      · subst k2; obtain rfl := h2 rfl
        by_cases he : Sp.ent 2 p n ≠ 0
        · rw [Tm.wk_ent he]; exact value_err b _ 2 p d n w (kindOf_bool _) hw hp hp' he
        · have he := Decidable.not_not.1 he
          rw [Tm.wk_else he (by decide) (by decide) (by decide) (by decide) (by decide)]; exact value_plain b _ _ 2 p d n w (kindOf_bool _) hw hp hp' he (by decide) (by decide) (by decide) (by decide) (by decide)
      by_cases k3 : k = 3
      · subst k3; obtain rfl := h3 rfl
        by_cases he : Sp.ent 3 p n ≠ 0
        · rw [Tm.wk_ent he]; exact value_err b _ 3 p d n w (kindOf_int _) hw hp hp' he
        · have he := Decidable.not_not.1 he
          rw [Tm.wk_else he (by decide) (by decide) (by decide) (by decide) (by decide)]; exact value_plain b _ _ 3 p d n w (kindOf_int _) hw hp hp' he (by decide) (by decide) (by decide) (by decide) (by decide)
      by_cases k4 : k = 4
      · subst k4; obtain rfl := (h4 rfl).1
        by_cases he : Sp.ent 4 p n ≠ 0
        · rw [Tm.wk_ent he]; exact value_err b _ 4 p d n w (kindOf_float _) hw hp hp' he
        · have he := Decidable.not_not.1 he
          rw [Tm.wk_else he (by decide) (by decide) (by decide) (by decide) (by decide)]; exact value_plain b _ _ 4 p d n w (kindOf_float _) hw hp hp' he (by decide) (by decide) (by decide) (by decide) (by decide)
      by_cases k7 : k = 7
      · subst k7; obtain rfl := h7 rfl
        by_cases he : Sp.ent 7 p n ≠ 0
        · rw [Tm.wk_ent he]; exact value_err b _ 7 p d n w (kindOf_ref _) hw hp hp' he
        · have he := Decidable.not_not.1 he
          rw [Tm.wk_else he (by decide) (by decide) (by decide) (by decide) (by decide)]; exact value_plain b _ _ 7 p d n w (kindOf_ref _) hw hp hp' he (by decide) (by decide) (by decide) (by decide) (by decide)
      by_cases k5 : k = 5
      · subst k5; obtain rfl := (h5 rfl).1
        by_cases he : Sp.ent 5 p n ≠ 0
        · rw [Tm.wk_ent he]; exact value_err b _ 5 p d n w (kindOf_text _) hw hp hp' he
        · have he := Decidable.not_not.1 he
          rw [Tm.wk_5 he]; exact value_text b tx p d n w hw hp hp' he
      by_cases k6 : k = 6
      · subst k6; obtain ⟨a, cap, rfl, ⟨hm, -⟩, hb⟩ := h6 rfl
        by_cases he : Sp.ent 6 p n ≠ 0
        · rw [Tm.wk_ent he]; exact value_err b _ 6 p d n w (kindOf_bytes _) hw hp hp' he
        · have he := Decidable.not_not.1 he
          rw [Tm.wk_6 he]; exact value_bytes b a _ cap p d n w hw hp hp' he
      by_cases k8 : k = 8
      · subst k8; obtain ⟨a, cap, rfl, ⟨hm, -⟩, hb⟩ := h8 rfl
        by_cases he : Sp.ent 8 p n ≠ 0
        · rw [Tm.wk_ent he]; exact value_err b _ 8 p d n w (kindOf_list _) hw hp hp' he
        · have he := Decidable.not_not.1 he
          rw [Tm.wk_8 he]; exact value_list N ih l hlN.1 b a cap p d n w hw hb hm hp hn he
      by_cases k9 : k = 9
      · subst k9; obtain ⟨a, cap, rfl, ⟨hm, -⟩, hb⟩ := h9 rfl
        by_cases he : Sp.ent 9 p n ≠ 0
        · rw [Tm.wk_ent he]; exact value_err b _ 9 p d n w (kindOf_dict _) hw hp hp' he
        · have he := Decidable.not_not.1 he
          rw [Tm.wk_9 he]; exact value_dict N ih fs hlN.2 b a cap p d n w hw hb hm hp hn he
      by_cases k10 : k = 10
      · subst k10; obtain ⟨g, a, cap, rfl, hg, c0, c1, c2, ⟨hs, -⟩, ⟨hm, -⟩, hb⟩ := h10 rfl
        by_cases he : Sp.ent 10 p n ≠ 0
        · rw [Tm.wk_ent he]; exact value_err b _ 10 p d n w (kindOf_rec _) hw hp hp' he
        · have he := Decidable.not_not.1 he
          by_cases hh : Sp.headR c vr ≠ 0
          · rw [Tm.wk_10' he hh]; exact value_head b g c vr p d n w hw hg c0 c1 hs hp hp' he hh
          · have hh := Decidable.not_not.1 hh
            rw [Tm.wk_10 he hh]; exact value_rec N ih fs hlN.2 b g a cap c vr p d n w hw hg c0 c1 c2 hs hb hm hp hn he hh
      by_cases k11 : k = 11
      · subst k11; obtain rfl := h11 rfl
        have he : Sp.ent 11 p n ≠ 0 := by simp [Sp.ent]
        rw [Tm.wk_ent he]; exact value_err b _ 11 p d n w kindOf_nothing hw hp hp' he
      have hk : k < 1 ∨ 11 < k := k_alien k1 k2 k3 k4 k5 k6 k7 k8 k9 k10 k11
      obtain ⟨T, x, rfl, hT⟩ := h12 hk
      have e6 : Sp.ent k p n = 6 := by unfold Sp.ent; rw [if_neg k11, if_pos (k_alien' hk)]
      have e0 : Sp.ent 0 p n = 6 := by simp [Sp.ent]
      have hr := value_err b _ 0 p d n w (fun w => kindOf_alien T x w hT) hw hp hp' (by rw [e0]; decide)
      rw [e0] at hr
      rw [Tm.wk_ent (by rw [e6]; decide), e6]
      exact hr
end Go.Proofs.YtjdjpbdfchhcfaaGreat

/- value.Check at a term's value: what the plain walk through the term says. -/
namespace Go.Proofs.YtjdjpbdfchhcfaaGreat
open Go.RowKit

def Tm.all (t : Tm) : Wr := t.wk 1 0 0
def Tm.cAt (t : Tm) : Int := if t.all.e ≠ 0 then t.all.p - 1 else 0
def Tm.szN (t : Tm) : Int := if t.all.e ≠ 0 then 0 else t.all.p
def Tm.szD (t : Tm) : Int := if t.all.e ≠ 0 then 0 else t.all.d
def Tm.kindK (t : Tm) : Int := if t.kind < 1 ∨ 11 < t.kind then 0 else t.kind
theorem Wk_new (w : World) : Wk (w.alloc (.cells #[.int .i64 0, .int .i64 0] 164)) w.heap.size 0 0 := by
  refine ⟨?_, ?_, ?_, ?_⟩ <;> simp

theorem walk_all (t : Tm) (v : Value) (B : Nat) (w : World) (hB : B ≤ w.heap.size) (h : t.V w (Lo B) v) :
    ∀ W, Below w.heap.size w W → Wk W w.heap.size 0 0 → Calls Tryz.prog 98 #[.pointer (some ⟨w.heap.size, 0, none⟩), v, .int .i64 1] W fun e w' => e = .returned (.int .i64 t.all.e) ∧ Wk w' w.heap.size t.all.p t.all.d ∧ Below w.heap.size W w' :=
  fun W hW hk => value_any t.sz t (Nat.le_refl _) w.heap.size v 0 0 1 W hk (t.V_same (Same.of_below hW hB) (Lo.le hB) v h) (by decide) (by decide) (by decide) (by decide)

set_option maxRecDepth 100000 in
set_option maxHeartbeats 400000 in
theorem Check_any (t : Tm) (v : Value) (B : Nat) (w : World) (hB : B ≤ w.heap.size) (h : t.V w (Lo B) v) :
    Calls Tryz.prog 68 #[v] w fun e w' => e = .returned (.tuple #[.int .i64 t.cAt, .int .i64 t.all.e]) ∧ Below w.heap.size w w' := by
  have HC := fun W a b => walk_all t v B w hB h W a b
  have HC : Hid _ := HC
  have hbd := t.wk_bd 1 0 0 (by decide) (by decide)
  by_cases he : t.all.e ≠ 0
  · have he' := ne_bool he
    have H : Hid (t.cAt = t.all.p - 1) := by show _ = _; unfold Tm.cAt; rw [if_pos he]
    have hp : 0 ≤ t.all.p ∧ t.all.p ≤ 16385 := ⟨hbd.1, hbd.2.1⟩
    clear h hbd he
    go_enter Tryz.func68, Tryz.ntmps68
    go_wp2_with (go_at_call 98; refine (HC.out _ ((Below.refl _ _).alloc (Nat.le_refl _) _) (Wk_new w)).mono ?_; rintro e w1 ⟨rfl, hk1, hb1⟩; obtain ⟨c0, c1, f0, f1⟩ := hk1)
    go_ret2
    rw [H.out]
    exact ⟨rfl, ((Below.refl _ _).alloc (Nat.le_refl _) _).trans hb1⟩
  · have he0 : t.all.e = 0 := Decidable.not_not.1 he
    have H : Hid (t.cAt = 0) := by show _ = _; unfold Tm.cAt; rw [if_neg he]
    clear h hbd he
    go_enter Tryz.func68, Tryz.ntmps68
    go_wp2_with (go_at_call 98; refine (HC.out _ ((Below.refl _ _).alloc (Nat.le_refl _) _) (Wk_new w)).mono ?_; rintro e w1 ⟨rfl, hk1, hb1⟩)
    go_ret2
    rw [H.out, he0]
    exact ⟨rfl, ((Below.refl _ _).alloc (Nat.le_refl _) _).trans hb1⟩

theorem kindOf_any (t : Tm) (v : Value) (B : Nat → Prop) (w : World) (h : t.V w B v) : KindC v t.kindK := by
  cases t with
  | mk k b i f tx by' rf l fs c vr =>
    simp only [Tm.V] at h
    obtain ⟨h1, h2, h3, h4, h5, h6, h7, h8, h9, h10, h11, h12⟩ := h
    have hk : (Tm.mk k b i f tx by' rf l fs c vr).kindK = if k < 1 ∨ 11 < k then 0 else k := rfl
    rw [hk]
    clear hk
    by_cases k1 : k = 1
    · subst k1; rw [h1 rfl]; exact kindOf_nil
    by_cases k2 : k = 2
    · subst k2; rw [h2 rfl]; exact kindOf_bool _
    by_cases k3 : k = 3
    · subst k3; rw [h3 rfl]; exact kindOf_int _
    by_cases k4 : k = 4
    · subst k4; rw [(h4 rfl).1]; exact kindOf_float _
    by_cases k5 : k = 5
    · subst k5; rw [(h5 rfl).1]; exact kindOf_text _
    by_cases k6 : k = 6
    · subst k6; obtain ⟨a, cap, rfl, _⟩ := h6 rfl; exact kindOf_bytes _
    by_cases k7 : k = 7
    · subst k7; rw [h7 rfl]; exact kindOf_ref _
    by_cases k8 : k = 8
    · subst k8; obtain ⟨a, cap, rfl, _⟩ := h8 rfl; exact kindOf_list _
    by_cases k9 : k = 9
    · subst k9; obtain ⟨a, cap, rfl, _⟩ := h9 rfl; exact kindOf_dict _
    by_cases k10 : k = 10
    · subst k10; obtain ⟨g, a, cap, rfl, _⟩ := h10 rfl; exact kindOf_rec _
    by_cases k11 : k = 11
    · subst k11; rw [h11 rfl]; exact kindOf_nothing
    have hk := k_alien k1 k2 k3 k4 k5 k6 k7 k8 k9 k10 k11
    obtain ⟨T, x, rfl, hT⟩ := h12 hk
    rw [if_pos hk]
    exact fun w => kindOf_alien T x w hT

end Go.Proofs.YtjdjpbdfchhcfaaGreat

/- Plain mathematics of types: which can be. Nothing of the program stands here. -/
namespace Go.Proofs.YtjdjpbdfchhcfaaGreat

mutual
inductive Ty where
  | mk (kind : Int) (of : Int) (only : Tm) (parts : TyL) (names : List ByteArray) (lacks : List Bool) (opn : Bool) (cls : ByteArray)
inductive TyL where
  | nil
  | cons (t : Ty) (l : TyL)
end
def Ty.kind : Ty → Int | .mk k _ _ _ _ _ _ _ => k
def Ty.parts : Ty → TyL | .mk _ _ _ p _ _ _ _ => p
def TyL.len : TyL → Nat | .nil => 0 | .cons _ l => l.len + 1
mutual
def Ty.sz : Ty → Nat | .mk _ _ _ p _ _ _ _ => p.sz + 1
def TyL.sz : TyL → Nat | .nil => 0 | .cons t l => t.sz + l.sz + 1
end
def Sp.parted (k : Int) : Bool := k == 5 || k == 6 || k == 7
def Sp.namesFit (l : List ByteArray) : Bool := decide (l.length ≤ 4096) && Sp.named ByteArray.empty l
def Ty.own : Ty → Bool
  | .mk k o _ p n l _ c =>
    if k = 1 ∨ k = 2 ∨ k = 4 then true
    else if k = 3 then decide (1 ≤ o ∧ o ≤ 10)
    else if k = 5 then decide (p.len = 1)
    else if k = 6 then decide (n.length = p.len ∧ n.length = l.length) && Sp.namesFit n
    else if k = 7 then decide (2 ≤ p.len)
    else if k = 8 then Sp.isNm c
    else false
mutual
def Ty.fit : Ty → Int → Int → Bool × Int
  | .mk k o t p n l op c, d, m =>
    if m + 1 > 16384 ∨ d > 64 ∨ (Ty.mk k o t p n l op c).own = false then (false, m + 1)
    else if Sp.parted k then p.fit (d + 1) (m + 1) else (true, m + 1)
def TyL.fit : TyL → Int → Int → Bool × Int
  | .nil, _, m => (true, m)
  | .cons t l, d, m => if (t.fit d m).1 then l.fit d (t.fit d m).2 else (false, (t.fit d m).2)
end
mutual
def Ty.terms : Ty → Bool
  | .mk k _ t p _ _ _ _ => if k = 4 then decide (t.all.e = 0) else if Sp.parted k then p.terms else true
def TyL.terms : TyL → Bool
  | .nil => true
  | .cons t l => t.terms && l.terms
end
def Ty.can (t : Ty) : Bool := (t.fit 1 0).1 && t.terms
mutual
def Ty.fitR : Ty → Int → Int → Bool × Int
  | .mk k o t p n l op c, d, r =>
    if r - 1 < 0 ∨ d > 64 then (false, r - 1)
    else if k = 4 then (decide (t.all.e = 0), r - 1)
    else if (Ty.mk k o t p n l op c).own = false then (false, r - 1)
    else if Sp.parted k then p.fitR (d + 1) (r - 1) else (true, r - 1)
def TyL.fitR : TyL → Int → Int → Bool × Int
  | .nil, _, r => (true, r)
  | .cons t l, d, r => if (t.fitR d r).1 then l.fitR d (t.fitR d r).2 else (false, (t.fitR d r).2)
end
mutual
theorem Ty.fit_ref : (t : Ty) → ∀ d m, (t.fitR d (16384 - m)).1 = ((t.fit d m).1 && t.terms) ∧ ((t.fitR d (16384 - m)).1 = true → (t.fitR d (16384 - m)).2 = 16384 - (t.fit d m).2)
  | .mk k o t p n l op c, d, m => by
    simp only [Ty.fitR, Ty.fit, Ty.terms]
    by_cases h1 : m + 1 > 16384 ∨ d > 64
    · rw [if_pos (by omega), if_pos (by rcases h1 with h | h <;> simp [h])]; simp
    · rw [if_neg (by omega)]
      by_cases h4 : k = 4
      · subst h4
        have ho : (Ty.mk 4 o t p n l op c).own = true := by simp [Ty.own]
        rw [if_pos rfl, if_neg (by simp [ho]; omega), if_pos rfl]
        simp [Sp.parted]
        intro _; omega
      · rw [if_neg h4]
        cases ho : (Ty.mk k o t p n l op c).own with
        | false => simp
        | true =>
          have hc : ¬ (m + 1 > 16384 ∨ d > 64 ∨ true = false) := by
            intro h
            rcases h with h | h | h
            · exact h1 (.inl h)
            · exact h1 (.inr h)
            · cases h
          rw [if_neg hc]
          simp only [if_neg h4, Bool.true_eq_false, if_false]
          cases hp : Sp.parted k with
          | false => simp; omega
          | true =>
            have ih := TyL.fit_ref p (d + 1) (m + 1)
            rw [show (16384 : Int) - (m + 1) = 16384 - m - 1 by omega] at ih
            simpa using ih
theorem TyL.fit_ref : (l : TyL) → ∀ d m, (l.fitR d (16384 - m)).1 = ((l.fit d m).1 && l.terms) ∧ ((l.fitR d (16384 - m)).1 = true → (l.fitR d (16384 - m)).2 = 16384 - (l.fit d m).2)
  | .nil, d, m => by simp [TyL.fitR, TyL.fit, TyL.terms]
  | .cons t l, d, m => by
    have h1 := Ty.fit_ref t d m
    simp only [TyL.fitR, TyL.fit, TyL.terms]
    cases hr : (t.fitR d (16384 - m)).1 with
    | false =>
      rw [hr] at h1
      have h2 : ((t.fit d m).1 && t.terms) = false := h1.1.symm
      cases hf : (t.fit d m).1 with
      | false => simp
      | true => rw [hf] at h2; simp at h2; simp [h2]
    | true =>
      rw [hr] at h1
      have h2 : ((t.fit d m).1 && t.terms) = true := h1.1.symm
      simp only [Bool.and_eq_true] at h2
      have ih := TyL.fit_ref l d (t.fit d m).2
      rw [← h1.2 rfl] at ih
      simp only [h2.1, h2.2, if_true, Bool.true_and]
      exact ih
end
mutual
theorem Ty.fit_mono : (t : Ty) → ∀ d m, m ≤ (t.fit d m).2 ∧ ((t.fit d m).1 = true → (t.fit d m).2 ≤ 16384 ∧ d ≤ 64)
  | .mk k o t p n l op c, d, m => by
    simp only [Ty.fit]
    split
    · simp; omega
    · rename_i h
      have h' : ¬ (m + 1 > 16384) ∧ ¬ (d > 64) := by
        constructor
        · intro h1; exact h (.inl h1)
        · intro h1; exact h (.inr (.inl h1))
      split
      · have := TyL.fit_mono p (d + 1) (m + 1) (by omega)
        exact ⟨by omega, fun e => ⟨this.2 e, by omega⟩⟩
      · simp; omega
theorem TyL.fit_mono : (l : TyL) → ∀ d m, m ≤ 16384 → m ≤ (l.fit d m).2 ∧ ((l.fit d m).1 = true → (l.fit d m).2 ≤ 16384)
  | .nil, d, m, h => by simp [TyL.fit]; exact h
  | .cons t l, d, m, h => by
    have h1 := Ty.fit_mono t d m
    simp only [TyL.fit]
    split
    · rename_i e
      have h2 := TyL.fit_mono l d (t.fit d m).2 (h1.2 e).1
      exact ⟨by omega, h2.2⟩
    · exact ⟨h1.1, fun e => by simp at e⟩
end
end Go.Proofs.YtjdjpbdfchhcfaaGreat

/- value.Size at a term's value: what the plain walk through the term says. -/
namespace Go.Proofs.YtjdjpbdfchhcfaaGreat
open Go.RowKit

set_option maxRecDepth 100000 in
set_option maxHeartbeats 400000 in
theorem Size_any (t : Tm) (v : Value) (B : Nat) (w : World) (hB : B ≤ w.heap.size) (h : t.V w (Lo B) v) :
    Calls Tryz.prog 122 #[v] w fun e w' => e = .returned (.tuple #[.int .i64 t.szN, .int .i64 t.szD, .int .i64 t.all.e]) ∧ Below w.heap.size w w' := by
  have HC := fun W a b => walk_all t v B w hB h W a b
  have HC : Hid _ := HC
  by_cases he : t.all.e ≠ 0
  · have he' := ne_bool he
    have H : Hid (t.szN = 0 ∧ t.szD = 0) := by show _ ∧ _; unfold Tm.szN Tm.szD; rw [if_pos he, if_pos he]; exact ⟨rfl, rfl⟩
    clear h he
    go_enter Tryz.func122, Tryz.ntmps122
    go_wp2_with (go_at_call 98; refine (HC.out _ ((Below.refl _ _).alloc (Nat.le_refl _) _) (Wk_new w)).mono ?_; rintro e w1 ⟨rfl, hk1, hb1⟩; obtain ⟨c0, c1, f0, f1⟩ := hk1)
    go_ret3
    rw [H.out.1, H.out.2]
    exact ⟨rfl, ((Below.refl _ _).alloc (Nat.le_refl _) _).trans hb1⟩
  · have he0 : t.all.e = 0 := Decidable.not_not.1 he
    have H : Hid (t.szN = t.all.p ∧ t.szD = t.all.d) := by show _ ∧ _; unfold Tm.szN Tm.szD; rw [if_neg he, if_neg he]; exact ⟨rfl, rfl⟩
    clear h he
    go_enter Tryz.func122, Tryz.ntmps122
    go_wp2_with (go_at_call 98; refine (HC.out _ ((Below.refl _ _).alloc (Nat.le_refl _) _) (Wk_new w)).mono ?_; rintro e w1 ⟨rfl, hk1, hb1⟩; obtain ⟨c0, c1, f0, f1⟩ := hk1)
    go_quiet (fail)
    go_wp2_with fail
    go_ret3
    rw [H.out.1, H.out.2, he0]
    exact ⟨rfl, (((Below.refl _ _).alloc (Nat.le_refl _) _).trans hb1).trans (below_drewN' _ _ _)⟩
end Go.Proofs.YtjdjpbdfchhcfaaGreat

