/- The Go walk through a value (package value: walk.list, walk.dict, walk.value) comes to the plain walk through its term. -/
import Derived.Test.YtadcbhdhgobknaaL5
namespace Go.Proofs.Ytadcbhdhgobknaa
open Go.RowKit

/-- the contract of walk.value at terms of at most N parts -/
def ValueC (N : Nat) : Prop := ∀ (t : Tm), t.sz ≤ N → ∀ (b : Nat) (v : Value) (p d n : Int) (w : World), Wk w b p d → t.V w (Lo b) v → 0 ≤ p → p ≤ 16384 → 1 ≤ n → n ≤ 65 →
  Calls Try.prog 67 #[.pointer (some ⟨b, 0, none⟩), v, .int .i64 n] w fun e w' => e = .returned (.int .i64 (t.wk n p d).e) ∧ Wk w' b (t.wk n p d).p (t.wk n p d).d ∧ Below b w w'

theorem ne_bool {e : Int} (h : e ≠ 0) : (e != 0) = true := by simp [h]

set_option maxRecDepth 100000 in
set_option maxHeartbeats 400000 in
theorem list_any (N : Nat) (HC : ValueC N) (L : TmL) (hN : L.sz ≤ N) (b : Nat) (a : Option Addr) (cap : Nat) (p d n : Int) (w : World) (hw : Wk w b p d) (h : L.V w (Lo b) a 0) (hlen : L.len ≤ maxLen) (hp : 0 ≤ p) (hp' : p ≤ 16384) (hn : 1 ≤ n) (hn' : n ≤ 64) :
    Calls Try.prog 112 #[.pointer (some ⟨b, 0, none⟩), .slice a L.len cap, .int .i64 n] w fun e w' => e = .returned (.int .i64 (L.wkR n p d).e) ∧ Wk w' b (L.wkR n p d).p (L.wkR n p d).d ∧ Below b w w' := by
  unfold maxLen at hlen
  by_cases hl : 4096 < L.len
  · have hr : Sp.len (L.len : Int) 4096 = 2 := by unfold Sp.len; rw [if_neg (by omega)]
    have H : Hid (L.wkR n p d = ⟨p, d, 2⟩) := by show _ = _; unfold TmL.wkR; rw [if_pos hl]
    clear h HC
    go_enter Try.func112, Try.ntmps112
    go_wp2_with (go_at_call 60; refine (lengthRule_any _ _ _).mono ?_; rintro e w' ⟨rfl, rfl⟩)
    go_ret
    rw [H.out]
    exact ⟨rfl, hw, Below.refl _ _⟩
  · have hr : Sp.len (L.len : Int) 4096 = 0 := by unfold Sp.len; rw [if_pos (by omega)]
    have H : Hid (L.wkR n p d = L.wk (n + 1) p d) := by show _ = _; unfold TmL.wkR; rw [if_neg hl]
    have HCH : Hid (ValueC N) := HC
    clear HC
    go_enter Try.func112, Try.ntmps112
    go_wp2_with (go_at_call 60; refine (lengthRule_any _ _ _).mono ?_; rintro e w' ⟨rfl, rfl⟩)
    go_loopw [19] (fun i wr => ∃ (k : Nat) (l : TmL) (p' d' : Int), i = .int .i64 k ∧ l.len + k = L.len ∧ l.sz ≤ N ∧ l.V w (Lo b) a k ∧ Hid (L.wk (n + 1) p d = l.wk (n + 1) p' d') ∧ 0 ≤ p' ∧ p' ≤ 16384 ∧ Wk wr b p' d' ∧ Below b w wr) (fun i _ => L.len - (intOf i).toNat)
    case atStart => exact ⟨0, L, p, d, rfl, rfl, hN, h, rfl, hp, hp', hw, Below.refl _ _⟩
    case round =>
      obtain ⟨k, l, p', d', rfl, hk, hlN, hv, HE, hq, hq', hwr, hb⟩ := hrel
      have HW : Hid (Wk wr b p' d') := hwr
      have HB : Hid (Below b w wr) := hb
      clear h hw
      cases l with
      | nil =>
        have h1 : L.len ≤ k := by simp [TmL.len] at hk; omega
        clear hk hv hwr hb
        go_wp2_with fail
        go_ret
        rw [H.out, HE.out]
        exact ⟨rfl, HW.out, HB.out⟩
      | cons t l =>
        simp only [TmL.V] at hv
        obtain ⟨g, o, v, rfl, hg, c0, ht, hv'⟩ := hv
        have hlt : k < L.len := by simp [TmL.len] at hk; omega
        have HK : Hid (l.len + (k + 1) = L.len) := by show _ = _; simp [TmL.len] at hk; omega
        have htN : t.sz ≤ N ∧ l.sz ≤ N := by simp [TmL.sz] at hlN; omega
        have d0 : wr.cell? ⟨g, o + k, none⟩ = some v := by rw [hb.cell (p := ⟨g, o + k, none⟩) hg]; exact c0
        have hbl := hwr.lt
        have HT : Hid (TmL.V w (Lo b) l (some ⟨g, o, none⟩) (k + 1)) := hv'
        have HV : Hid (t.V wr (Lo b) v) := t.V_same (Same.of_below hb (Nat.le_refl _)) (fun _ h => h) v ht
        have hbd := t.wk_bd (n + 1) p' d' hq hq'
        clear hk hv' ht c0 hwr hb hlN
        by_cases he : (t.wk (n + 1) p' d').e ≠ 0
        · have HR : Hid (TmL.wk (.cons t l) (n + 1) p' d' = t.wk (n + 1) p' d') := by show _ = _; rw [TmL.wk, if_pos he]
          have he' := ne_bool he
          clear he
          go_wp2_with (go_at_call 67; refine (HCH.out t htN.1 b v p' d' _ _ HW.out HV.out hq hq' (by omega) (by omega)).mono ?_; rintro e w1 ⟨rfl, hk1, hb1⟩)
          go_ret
          rw [H.out, HE.out, HR.out]
          exact ⟨rfl, hk1, HB.out.trans hb1⟩
        · have he0 : (t.wk (n + 1) p' d').e = 0 := Decidable.not_not.1 he
          have HR : Hid (TmL.wk (.cons t l) (n + 1) p' d' = l.wk (n + 1) (t.wk (n + 1) p' d').p (t.wk (n + 1) p' d').d) := by show _ = _; rw [TmL.wk, if_neg he]
          have hpq := hbd.2.2 he0
          have HHB := HB
          clear he
          go_wp2_with (go_at_call 67; refine (HCH.out t htN.1 b v p' d' _ _ HW.out HV.out hq hq' (by omega) (by omega)).mono ?_; rintro e w1 ⟨rfl, hk1, hb1⟩)
          go_roundw
          case rel => exact ⟨k + 1, l, _, _, by go_num, HK.out, htN.2, HT.out, (HE.out.trans HR.out), by omega, hpq, hk1, HB.out.trans hb1⟩
          case measure => simp [intOf]; omega

set_option maxRecDepth 100000 in
set_option maxHeartbeats 1000000 in
theorem dict_any (N : Nat) (HC : ValueC N) (L : TmF) (hN : L.sz ≤ N) (b : Nat) (a : Option Addr) (cap : Nat) (p d n : Int) (w : World) (hw : Wk w b p d) (h : L.V w (Lo b) a 0) (hlen : L.len ≤ maxLen) (hp : 0 ≤ p) (hp' : p ≤ 16384) (hn : 1 ≤ n) (hn' : n ≤ 64) :
    Calls Try.prog 113 #[.pointer (some ⟨b, 0, none⟩), .slice a L.len cap, .int .i64 n] w fun e w' => e = .returned (.int .i64 (L.wkR n p d).e) ∧ Wk w' b (L.wkR n p d).p (L.wkR n p d).d ∧ Below b w w' := by
  have hbw := hw.lt
  have HF := fun W (hW : Same (Lo b) w W) (hs : b ≤ W.heap.size) => fieldsRule_any L a cap b W hs (L.V_same hW (fun _ h => h) a 0 h) hlen
  unfold maxLen at hlen
  have HFR : Hid (Calls Try.prog 139 #[.slice a L.len cap, .func (.func 140) #[] #[]] w fun e w' => e = .returned (.int .i64 (Sp.fieldsR L.names)) ∧ Below w.heap.size w w') := HF w (Same.refl _ _) (by omega)
  clear HF
  by_cases hl : Sp.fieldsR L.names ≠ 0
  · have hr := ne_bool hl
    have H : Hid (L.wkR n p d = ⟨p, d, Sp.fieldsR L.names⟩) := by show _ = _; unfold TmF.wkR; rw [if_pos hl]
    clear h HC hl
    go_enter Try.func113, Try.ntmps113
    go_wp2_with (go_at_call 139; refine HFR.out.mono ?_; rintro e w1 ⟨rfl, hb1⟩)
    go_ret
    rw [H.out]
    exact ⟨rfl, hw.same (Same.of_below hb1 (Nat.le_refl _)) hbw, hb1.mono (by omega)⟩
  · have hr : Sp.fieldsR L.names = 0 := Decidable.not_not.1 hl
    have H : Hid (L.wkR n p d = L.wk (n + 1) p d) := by show _ = _; unfold TmF.wkR; rw [if_neg hl]
    have HCH : Hid (ValueC N) := HC
    clear HC
    go_enter Try.func113, Try.ntmps113
    go_wp2_with (go_at_call 139; refine HFR.out.mono ?_; rintro e w1 ⟨rfl, hb1⟩)
    have hw1 := hw.same (Same.of_below hb1 (Nat.le_refl _)) hbw
    have hs1 := hb1.size
    go_loopw [18] (fun i wr => ∃ (k : Nat) (l : TmF) (p' d' : Int), i = .int .i64 k ∧ l.len + k = L.len ∧ l.sz ≤ N ∧ l.V w (Lo b) a k ∧ Hid (L.wk (n + 1) p d = l.wk (n + 1) p' d') ∧ 0 ≤ p' ∧ p' ≤ 16384 ∧ Wk wr b p' d' ∧ Below b w wr) (fun i _ => L.len - (intOf i).toNat)
    case atStart => exact ⟨0, L, p, d, rfl, rfl, hN, h, rfl, hp, hp', hw1, hb1.mono (by omega)⟩
    case round =>
      obtain ⟨k, l, p', d', rfl, hk, hlN, hv, HE, hq, hq', hwr, hb⟩ := hrel
      have HW : Hid (Wk wr b p' d') := hwr
      have HB : Hid (Below b w wr) := hb
      clear h hw hw1 hb1 HFR
      cases l with
      | nil =>
        have h1 : L.len ≤ k := by simp [TmF.len] at hk; omega
        clear hk hv hwr hb
        go_wp2_with fail
        go_ret
        rw [H.out, HE.out]
        exact ⟨rfl, HW.out, HB.out⟩
      | cons nm t l =>
        simp only [TmF.V] at hv
        obtain ⟨g, o, v, rfl, hg, c0, c1, _, ht, hv'⟩ := hv
        have hlt : k < L.len := by simp [TmF.len] at hk; omega
        have HK : Hid (l.len + (k + 1) = L.len) := by show _ = _; simp [TmF.len] at hk; omega
        have htN : t.sz ≤ N ∧ l.sz ≤ N := by simp [TmF.sz] at hlN; omega
        have d0 : wr.cell? ⟨g, o + k * 2, none⟩ = some (.string nm) := by rw [hb.cell (p := ⟨g, o + k * 2, none⟩) hg]; exact c0
        have d1 : wr.cell? ⟨g, o + k * 2 + 1, none⟩ = some v := by rw [hb.cell (p := ⟨g, o + k * 2 + 1, none⟩) hg]; exact c1
        have hbl := hwr.lt
        have HT : Hid (TmF.V w (Lo b) l (some ⟨g, o, none⟩) (k + 1)) := hv'
        have HV : Hid (∀ W, Same (Lo b) wr W → t.V W (Lo b) v) := fun W hW => t.V_same ((Same.of_below hb (Nat.le_refl _)).trans hW) (fun _ h => h) v ht
        have HWW : Hid (∀ W, Below wr.heap.size wr W → Wk W b p' d') := fun W hW => hwr.same (Same.of_below hW (Nat.le_refl _)) hbl
        have hbd := t.wk_bd (n + 1) p' d' hq hq'
        have hsh := t.V_shape v ht
        clear hk hv' ht c0 c1 hwr hb hlN HW
        by_cases he : (t.wk (n + 1) p' d').e ≠ 0
        · have HR : Hid (TmF.wk (.cons nm t l) (n + 1) p' d' = t.wk (n + 1) p' d') := by show _ = _; rw [TmF.wk, if_pos he]
          have he' := ne_bool he
          clear he
          rcases hsh with rfl | ⟨T, x, rfl⟩
          all_goals
            go_wp2_with (go_at_call 67; refine (HCH.out t htN.1 b _ p' d' _ _ (HWW.out _ ?_) (HV.out _ ?_) hq hq' (by omega) (by omega)).mono ?_; exact (Below.refl _ _).alloc (Nat.le_refl _) _; exact Same.of_below ((Below.refl _ _).alloc (Nat.le_refl _) _) (by omega); rintro e w1 ⟨rfl, hk1, hb1⟩)
            go_ret
            rw [H.out, HE.out, HR.out]
            exact ⟨rfl, hk1, (HB.out.alloc (by omega) _).trans hb1⟩
        · have he0 : (t.wk (n + 1) p' d').e = 0 := Decidable.not_not.1 he
          have HR : Hid (TmF.wk (.cons nm t l) (n + 1) p' d' = l.wk (n + 1) (t.wk (n + 1) p' d').p (t.wk (n + 1) p' d').d) := by show _ = _; rw [TmF.wk, if_neg he]
          have hpq := hbd.2.2 he0
          clear he
          rcases hsh with rfl | ⟨T, x, rfl⟩
          all_goals
            go_wp2_with (go_at_call 67; refine (HCH.out t htN.1 b _ p' d' _ _ (HWW.out _ ?_) (HV.out _ ?_) hq hq' (by omega) (by omega)).mono ?_; exact (Below.refl _ _).alloc (Nat.le_refl _) _; exact Same.of_below ((Below.refl _ _).alloc (Nat.le_refl _) _) (by omega); rintro e w1 ⟨rfl, hk1, hb1⟩)
            go_roundw
            case rel => exact ⟨k + 1, l, _, _, by go_num, HK.out, htN.2, HT.out, (HE.out.trans HR.out), by omega, hpq, hk1, (HB.out.alloc (by omega) _).trans hb1⟩
            case measure => simp [intOf]; omega
end Go.Proofs.Ytadcbhdhgobknaa

