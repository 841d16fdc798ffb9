/- The walk through a record that holds itself ends with error 2: it is too deep. -/
import Derived.Test.YtbaadndogikphaaCheck
import Derived.Test.YtbaadndogikphaaOrdV
import Derived.Test.YtbaadndogikphaaVOfG
namespace Go.Proofs.Ytbaadndogikphaa
open Go.RowKit

/-- names in memory, and something under each -/
def TmF.VN (w : World) (B : Nat → Prop) : TmF → Option Addr → Nat → Prop
  | .nil, _, _ => True
  | .cons n _ l, a, j => ∃ g o v, a = some ⟨g, o, none⟩ ∧ B g ∧ w.cell? ⟨g, o + j * 2, none⟩ = some (.string n) ∧ w.cell? ⟨g, o + j * 2 + 1, none⟩ = some v ∧ n.size ≤ maxLen ∧ (v = .nilIface ∨ ∃ T x, v = .iface T x) ∧ l.VN w B a (j + 1)

set_option maxRecDepth 100000 in
set_option maxHeartbeats 400000 in
theorem fieldsRuleN_any (fs : TmF) (a : Option Addr) (cap B : Nat) (w : World) (hB : B ≤ w.heap.size) (h : fs.VN w (Lo B) a 0) (hlen : fs.len ≤ maxLen) :
    Calls Try.prog 79 #[.slice a fs.len cap, .func (.func 80) #[] #[]] w fun e w' => e = .returned (.int .i64 (Sp.fieldsR fs.names)) ∧ Below w.heap.size w w' := by
  unfold maxLen at hlen
  by_cases hl : 4096 < fs.len
  · have hr : Sp.len (fs.len : Int) 4096 = 2 := by unfold Sp.len; rw [if_neg (by omega)]
    have H : Hid (Sp.fieldsR fs.names = 2) := by show _ = _; unfold Sp.fieldsR; rw [if_pos (by rw [TmF.names_len]; exact hl)]
    go_enter Try.func79, Try.ntmps79
    go_wp2_with (go_at_call 49; refine (lengthRule_any _ _ _).mono ?_; rintro e w' ⟨rfl, rfl⟩)
    go_ret
    exact ⟨ret_int H.out.symm, Below.refl _ _⟩
  · have hr : Sp.len (fs.len : Int) 4096 = 0 := by unfold Sp.len; rw [if_pos (by omega)]
    go_enter Try.func79, Try.ntmps79
    go_wp2_with (go_at_call 49; refine (lengthRule_any _ _ _).mono ?_; rintro e w' ⟨rfl, rfl⟩)
    go_loopw [6, 18] (fun ah i wr => ∃ (k : Nat) (l : TmF) (s : ByteArray), ah = .string s ∧ i = .int .i64 k ∧ l.len + k = fs.len ∧ l.VN w (Lo B) a k ∧ Hid (Sp.named ByteArray.empty fs.names = Sp.named s l.names) ∧ Below w.heap.size w wr) (fun _ i _ => fs.len - (intOf i).toNat)
    case atStart => exact ⟨0, fs, _, rfl, rfl, rfl, h, rfl, Below.refl _ _⟩
    case round =>
      obtain ⟨k, l, s, rfl, rfl, hk, hv, HN, hb⟩ := hrel
      cases l with
      | nil =>
        have h1 : fs.len ≤ k := by simp [TmF.len] at hk; omega
        have HK : Hid (TmF.nil.len + k = fs.len) := hk
        have H : Hid (Sp.fieldsR fs.names = 0) := by
          show _ = _; unfold Sp.fieldsR; rw [if_neg (by rw [TmF.names_len]; exact hl), HN.out]; simp [TmF.names, Sp.named]
        clear hk HN hv h
        go_wp2_with fail
        go_ret
        exact ⟨ret_int H.out.symm, hb⟩
      | cons n t l =>
        have HV : Hid (TmF.VN w (Lo B) (.cons n t l) a k) := hv
        simp only [TmF.VN] at hv
        obtain ⟨g, o, v, rfl, hg, c0, c1, hn, ht, hv'⟩ := hv
        have hsh := ht
        have hg : g < B := hg
        have hlt : k < fs.len := by simp [TmF.len] at hk; omega
        have HK : Hid (l.len + (k + 1) = fs.len) := by show _ = _; simp [TmF.len] at hk; omega
        have d0 : wr.cell? ⟨g, o + k * 2, none⟩ = some (.string n) := by rw [hb.cell (p := ⟨g, o + k * 2, none⟩) (by show g < _; omega)]; exact c0
        have d1 : wr.cell? ⟨g, o + k * 2 + 1, none⟩ = some v := by rw [hb.cell (p := ⟨g, o + k * 2 + 1, none⟩) (by show g < _; omega)]; exact c1
        have HB : Hid (Below w.heap.size w wr) := hb
        have HT : Hid (TmF.VN w (Lo B) l (some ⟨g, o, none⟩) (k + 1)) := hv'
        have hgr : g < wr.heap.size := by have := hb.size; omega
        clear hk hv' ht c0 c1 h hb HV
        cases hnm : Sp.isNm n with
        | false =>
          have H : Hid (Sp.fieldsR fs.names = 8) := by
            show _ = _; unfold Sp.fieldsR; rw [if_neg (by rw [TmF.names_len]; exact hl), HN.out]; simp [TmF.names, Sp.named, hnm]
          rcases hsh with rfl | ⟨T, x, rfl⟩
          all_goals
            go_wp2_with (first | (go_at_call 80; refine (dict1_any _ _ _).mono ?_; rintro e w1 ⟨rfl, hb1⟩) | (go_at_call 81; refine (isName_any _ _ hn).mono ?_; rintro e w' ⟨rfl, rfl⟩))
            go_ret
            exact ⟨ret_int H.out.symm, (HB.out.alloc HB.out.size _).trans (hb1.mono (by simp; have := HB.out.size; omega))⟩
        | true =>
          cases hle : Sp.leS n s with
          | true =>
            have H : Hid (Sp.fieldsR fs.names = 8) := by
              show _ = _; unfold Sp.fieldsR; rw [if_neg (by rw [TmF.names_len]; exact hl), HN.out]; simp [TmF.names, Sp.named, hnm, hle]
            unfold Sp.leS at hle
            rcases hsh with rfl | ⟨T, x, rfl⟩
            all_goals
              go_wp2_with (first | (go_at_call 80; refine (dict1_any _ _ _).mono ?_; rintro e w1 ⟨rfl, hb1⟩) | (go_at_call 81; refine (isName_any _ _ hn).mono ?_; rintro e w' ⟨rfl, rfl⟩))
              go_ret
              exact ⟨ret_int H.out.symm, (HB.out.alloc HB.out.size _).trans (hb1.mono (by simp; have := HB.out.size; omega))⟩
          | false =>
            have H : Hid (Sp.named ByteArray.empty fs.names = Sp.named n l.names) := by
              show _ = _; rw [HN.out]; simp [TmF.names, Sp.named, hnm, hle]
            unfold Sp.leS at hle
            rcases hsh with rfl | ⟨T, x, rfl⟩
            all_goals
              go_wp2_with (first | (go_at_call 80; refine (dict1_any _ _ _).mono ?_; rintro e w1 ⟨rfl, hb1⟩) | (go_at_call 81; refine (isName_any _ _ hn).mono ?_; rintro e w' ⟨rfl, rfl⟩))
              go_roundw
              case rel => exact ⟨k + 1, l, n, rfl, by go_num, HK.out, HT.out, H, (HB.out.alloc HB.out.size _).trans (hb1.mono (by simp; have := HB.out.size; omega))⟩
              case measure => simp [intOf]; omega

def nmNext : ByteArray := ⟨#[110, 101, 120, 116]⟩
def nmRing : ByteArray := ⟨#[114, 105, 110, 103]⟩
def fNext : TmF := .cons nmNext (.mk 1 false 0 0 ByteArray.empty ByteArray.empty 0 .nil .nil ByteArray.empty 0) .nil
theorem next_fields : Sp.fieldsR fNext.names = 0 := by show Sp.fieldsR [nmNext] = 0; decide +kernel
theorem ring_head : Sp.headR nmRing 1 = 0 := by decide +kernel

/-- a set of records each of which holds the next one, under one name, all below b -/
def Ring (w : World) (b : Nat) (R : Nat → Prop) : Prop := ∀ g, R g → g < b ∧ w.cell? ⟨g, 0, none⟩ = some (.string nmRing) ∧ w.cell? ⟨g, 1, none⟩ = some (.int .i64 1) ∧
  ∃ d g', d < b ∧ w.cell? ⟨g, 2, none⟩ = some (.slice (some ⟨d, 0, none⟩) 1 1) ∧ w.cell? ⟨d, 0, none⟩ = some (.string nmNext) ∧ w.cell? ⟨d, 1, none⟩ = some (.iface 55 (.pointer (some ⟨g', 0, none⟩))) ∧ R g'
theorem Ring.same {w w' : World} {b : Nat} {R : Nat → Prop} (h : Ring w b R) (hs : Same (Lo b) w w') : Ring w' b R := fun g hg => by
  obtain ⟨h0, h1, h2, d, g', h3, h4, h5, h6, h7⟩ := h g hg
  exact ⟨h0, by rw [hs.cell (p := ⟨g, 0, none⟩) h0]; exact h1, by rw [hs.cell (p := ⟨g, 1, none⟩) h0]; exact h2, d, g', h3, by rw [hs.cell (p := ⟨g, 2, none⟩) h0]; exact h4, by rw [hs.cell (p := ⟨d, 0, none⟩) h3]; exact h5, by rw [hs.cell (p := ⟨d, 1, none⟩) h3]; exact h6, h7⟩

/-- the contract of the walk at a ring, k below the greatest depth -/
def RingC (k : Nat) : Prop := ∀ (R : Nat → Prop) (g b : Nat) (p d n : Int) (w : World), Wk w b p d → Ring w b R → R g → 0 ≤ p → p + k ≤ 1000 → 1 ≤ n → n + k = 65 →
  Calls Try.prog 32 #[.pointer (some ⟨b, 0, none⟩), .iface 55 (.pointer (some ⟨g, 0, none⟩)), .int .i64 n] w fun e w' => e = .returned (.int .i64 2) ∧ (∃ p' d', Wk w' b p' d' ∧ 0 < p' ∧ p' ≤ 16385) ∧ Below b w w'

set_option maxRecDepth 100000 in
set_option maxHeartbeats 1000000 in
theorem dict_ring (k : Nat) (HC : RingC k) (R : Nat → Prop) (dd g' b : Nat) (p d n : Int) (w : World) (hw : Wk w b p d) (hR : Ring w b R) (hg : R g') (hd : dd < b) (c0 : w.cell? ⟨dd, 0, none⟩ = some (.string nmNext)) (c1 : w.cell? ⟨dd, 1, none⟩ = some (.iface 55 (.pointer (some ⟨g', 0, none⟩)))) (hp : 0 ≤ p) (hp' : p + k ≤ 1000) (hn : 1 ≤ n) (hn' : n + 1 + k = 65) :
    Calls Try.prog 51 #[.pointer (some ⟨b, 0, none⟩), .slice (some ⟨dd, 0, none⟩) 1 1, .int .i64 n] w fun e w' => e = .returned (.int .i64 2) ∧ (∃ p' d', Wk w' b p' d' ∧ 0 < p' ∧ p' ≤ 16385) ∧ Below b w w' := by
  have hbw := hw.lt
  have HFR : Hid (Calls Try.prog 79 #[.slice (some ⟨dd, 0, none⟩) 1 1, .func (.func 80) #[] #[]] w fun e w' => e = .returned (.int .i64 0) ∧ Below w.heap.size w w') := by
    have h := fieldsRuleN_any fNext (some ⟨dd, 0, none⟩) 1 b w (by omega) ⟨dd, 0, _, rfl, hd, by simpa using c0, by simpa using c1, by decide, .inr ⟨_, _, rfl⟩, trivial⟩ (by decide)
    rw [next_fields] at h; exact h
  have HO : Hid (∀ W, Below w.heap.size w W → Calls Try.prog 32 #[.pointer (some ⟨b, 0, none⟩), .iface 55 (.pointer (some ⟨g', 0, none⟩)), .int .i64 (n + 1)] W fun e w' => e = .returned (.int .i64 2) ∧ (∃ p' d', Wk w' b p' d' ∧ 0 < p' ∧ p' ≤ 16385) ∧ Below b w w') := fun W hW =>
    (HC R g' b p d (n + 1) W (hw.same (Same.of_below hW (Nat.le_refl _)) hbw) (hR.same (Same.of_below hW (by omega))) hg hp hp' (by omega) hn').mono fun e w' h => ⟨h.1, h.2.1, (hW.mono (by omega)).trans h.2.2⟩
  have HX : Hid (∀ W, Below w.heap.size w W → W.cell? ⟨dd, 0, none⟩ = some (.string nmNext) ∧ W.cell? ⟨dd, 1, none⟩ = some (.iface 55 (.pointer (some ⟨g', 0, none⟩)))) := fun W hW => ⟨by rw [hW.cell (p := ⟨dd, 0, none⟩) (by show dd < _; omega)]; exact c0, by rw [hW.cell (p := ⟨dd, 1, none⟩) (by show dd < _; omega)]; exact c1⟩
  clear HC hw hR hg c0 c1
  go_enter Try.func51, Try.ntmps51
  go_wp2_with (go_at_call 79; refine HFR.out.mono ?_; rintro e w1 ⟨rfl, hb1⟩)
  have HB1 : Hid (Below w.heap.size w w1) := hb1
  clear hb1
  go_loopw [18] (fun i wr => i = .int .i64 0 ∧ Hid (wr = w1)) (fun _ _ => 0)
  case atStart => exact ⟨rfl, rfl⟩
  case round =>
    obtain ⟨rfl, HW⟩ := hrel
    obtain rfl := HW.out
    obtain ⟨d0, d1⟩ := HX.out wr HB1.out
    go_wp2_with (go_at_call 32; refine (HO.out _ (HB1.out.alloc HB1.out.size _)).mono ?_; rintro e w2 ⟨rfl, hk2, hb2⟩)
    go_ret
    exact ⟨rfl, hk2, hb2⟩
end Go.Proofs.Ytbaadndogikphaa

/- walk.value at a record that holds itself: error 2. Order, Copy, Plain, Same where Check tells an error. -/
namespace Go.Proofs.Ytbaadndogikphaa
open Go.RowKit

set_option maxRecDepth 100000 in
set_option maxHeartbeats 1000000 in
theorem ring_any (k : Nat) : RingC k := by
  induction k with
  | zero =>
    intro R g b p d n w hw hR hg hp hp' hn hn'
    have he : Sp.ent 10 p n = 2 := by unfold Sp.ent; rw [if_neg (by omega), if_neg (by omega), if_pos (by omega)]
    refine (value_err b _ 10 p d n w (kindOf_rec _) hw hp (by omega) (by rw [he]; decide)).mono ?_
    rintro e w' ⟨rfl, h1, h2⟩
    exact ⟨by rw [he], ⟨_, _, h1, by omega, by omega⟩, h2⟩
  | succ k ih =>
    intro R g b p d n w hw hR hg hp hp' hn hn'
    have he : Sp.ent 10 p n = 0 := by unfold Sp.ent; rw [if_neg (by omega), if_neg (by omega), if_neg (by omega)]
    obtain ⟨g0, c0, c1, dd, g', hd, c2, e0, e1, hg'⟩ := hR g hg
    have HW : Hid (Wk w b p d) := hw
    have HD : Hid (∀ W, Below b w W → W.cell? ⟨g, 0, none⟩ = some (.string nmRing) ∧ W.cell? ⟨g, 1, none⟩ = some (.int .i64 1) ∧ W.cell? ⟨g, 2, none⟩ = some (.slice (some ⟨dd, 0, none⟩) 1 1)) := fun W hW => ⟨by rw [hW.cell (p := ⟨g, 0, none⟩) g0]; exact c0, by rw [hW.cell (p := ⟨g, 1, none⟩) g0]; exact c1, by rw [hW.cell (p := ⟨g, 2, none⟩) g0]; exact c2⟩
    have HC : Hid (∀ W, Below b w W → Wk W b (p + 1) (max d n) → Calls Try.prog 51 #[.pointer (some ⟨b, 0, none⟩), .slice (some ⟨dd, 0, none⟩) 1 1, .int .i64 n] W fun e w' => e = .returned (.int .i64 2) ∧ (∃ p' d', Wk w' b p' d' ∧ 0 < p' ∧ p' ≤ 16385) ∧ Below b W w') := fun W hW hk =>
      dict_ring k ih R dd g' b (p + 1) (max d n) n W hk (hR.same (Same.of_below hW (Nat.le_refl _))) hg' hd (by rw [hW.cell (p := ⟨dd, 0, none⟩) hd]; exact e0) (by rw [hW.cell (p := ⟨dd, 1, none⟩) hd]; exact e1) (by omega) (by omega) hn (by omega)
    have hh := ring_head
    have hs : nmRing.size ≤ maxLen := by decide
    clear hw hR hg hg' c0 c1 c2 e0 e1 ih
    go_enter Try.func32, Try.ntmps32
    go_wp2_with (first | (go_at_call 34; refine (kindOf_rec _ _).mono ?_; rintro e w' ⟨rfl, rfl⟩) | (go_at_call 48; refine (enter_to b p d _ _ _ HW.out hp (by omega)).mono ?_; rintro e w1 ⟨rfl, hk1, hb1⟩; obtain ⟨c0, c1, c2⟩ := HD.out w1 hb1))
    go_quiet ((go_at_call 52; exact Calls.quiet_of_same ((headRule_any _ _ _ hs).mono (fun e w' h => ⟨h.1, h.2.symm⟩))))
    go_wp2_with (go_at_call 51; refine (HC.out _ (hb1.trans (below_drewN' _ _ _)) (wk_drewN hk1 _)).mono ?_; rintro e w2 ⟨rfl, hk2, hb2⟩)
    go_ret
    exact ⟨rfl, hk2, (hb1.trans (below_drewN' _ _ _)).trans hb2⟩

/-- Check tells error e of v, in every world behind w -/
def Bad (v : Value) (e : Int) (w : World) : Prop := e ≠ 0 ∧ ∀ W, Below w.heap.size w W → Calls Try.prog 10 #[v] W fun x w' => ∃ a, x = .returned (.tuple #[.int .i64 a, .int .i64 e]) ∧ Below W.heap.size W w'
set_option maxRecDepth 100000 in
set_option maxHeartbeats 400000 in
theorem Order_bad (v u : Value) (e : Int) (w : World) (h : Bad v e w) : Calls Try.prog 23 #[v, u] w fun x w' => x = .returned (.tuple #[.int .i64 0, .int .i64 e]) ∧ Below w.heap.size w w' := by
  have he := ne_bool h.1
  have HC : Hid (Calls Try.prog 10 #[v] w fun x w' => ∃ a, x = .returned (.tuple #[.int .i64 a, .int .i64 e]) ∧ Below w.heap.size w w') := h.2 w (Below.refl _ _)
  clear h
  go_enter Try.func23, Try.ntmps23
  go_wp2_with (go_at_call 10; refine HC.out.mono ?_; rintro x w1 ⟨a, rfl, hb1⟩)
  go_ret2
  exact ⟨rfl, hb1⟩
set_option maxRecDepth 100000 in
set_option maxHeartbeats 400000 in
theorem Copy_bad (v : Value) (e : Int) (w : World) (h : Bad v e w) : Calls Try.prog 27 #[v] w fun x w' => x = .returned (.tuple #[.nilIface, .int .i64 e]) ∧ Below w.heap.size w w' := by
  have he := ne_bool h.1
  have HC : Hid (Calls Try.prog 10 #[v] w fun x w' => ∃ a, x = .returned (.tuple #[.int .i64 a, .int .i64 e]) ∧ Below w.heap.size w w') := h.2 w (Below.refl _ _)
  clear h
  go_enter Try.func27, Try.ntmps27
  go_wp2_with (go_at_call 10; refine HC.out.mono ?_; rintro x w1 ⟨a, rfl, hb1⟩)
  go_ret2
  exact ⟨rfl, hb1⟩
theorem Order_badC (v u : Value) (e : Int) (w : World) (h : Bad v e w) : ∀ W, Below w.heap.size w W → Calls Try.prog 23 #[v, u] W fun x w' => x = .returned (.tuple #[.int .i64 0, .int .i64 e]) ∧ Below W.heap.size W w' :=
  fun W hW => Order_bad v u e W ⟨h.1, fun W' hW' => h.2 W' (below_to hW hW')⟩
set_option maxRecDepth 100000 in
set_option maxHeartbeats 400000 in
theorem Same_bad (v u : Value) (e : Int) (w : World) (h : Bad v e w) : Calls Try.prog 25 #[v, u] w fun x w' => x = .returned (.bool false) ∧ Below w.heap.size w w' := by
  have he : (e == 0) = false := by simp [h.1]
  have HC : Hid (Calls Try.prog 23 #[v, u] w fun x w' => x = .returned (.tuple #[.int .i64 0, .int .i64 e]) ∧ Below w.heap.size w w') := Order_bad v u e w h
  clear h
  go_enter Try.func25, Try.ntmps25
  go_wp2_with (go_at_call 23; refine HC.out.mono ?_; rintro x w1 ⟨rfl, hb1⟩)
  go_ret
  exact ⟨rfl, hb1⟩
end Go.Proofs.Ytbaadndogikphaa

/- Check at a list whose dict holds a record that holds itself: error 2. value.Plain where Check tells an error. -/
namespace Go.Proofs.Ytbaadndogikphaa
open Go.RowKit

def nmA1 : ByteArray := ⟨#[97]⟩
def fA1 : TmF := .cons nmA1 (.mk 1 false 0 0 ByteArray.empty ByteArray.empty 0 .nil .nil ByteArray.empty 0) .nil
theorem a1_fields : Sp.fieldsR fA1.names = 0 := by show Sp.fieldsR [nmA1] = 0; decide +kernel

set_option maxRecDepth 100000 in
set_option maxHeartbeats 1000000 in
theorem dict_a (k : Nat) (HC : RingC k) (R : Nat → Prop) (dd g' b : Nat) (p d n : Int) (w : World) (hw : Wk w b p d) (hR : Ring w b R) (hg : R g') (hd : dd < b) (c0 : w.cell? ⟨dd, 0, none⟩ = some (.string nmA1)) (c1 : w.cell? ⟨dd, 1, none⟩ = some (.iface 55 (.pointer (some ⟨g', 0, none⟩)))) (hp : 0 ≤ p) (hp' : p + k ≤ 1000) (hn : 1 ≤ n) (hn' : n + 1 + k = 65) :
    Calls Try.prog 51 #[.pointer (some ⟨b, 0, none⟩), .slice (some ⟨dd, 0, none⟩) 1 1, .int .i64 n] w fun e w' => e = .returned (.int .i64 2) ∧ (∃ p' d', Wk w' b p' d' ∧ 0 < p' ∧ p' ≤ 16385) ∧ Below b w w' := by
  have hbw := hw.lt
  have HFR : Hid (Calls Try.prog 79 #[.slice (some ⟨dd, 0, none⟩) 1 1, .func (.func 80) #[] #[]] w fun e w' => e = .returned (.int .i64 0) ∧ Below w.heap.size w w') := by
    have h := fieldsRuleN_any fA1 (some ⟨dd, 0, none⟩) 1 b w (by omega) ⟨dd, 0, _, rfl, hd, by simpa using c0, by simpa using c1, by decide, .inr ⟨_, _, rfl⟩, trivial⟩ (by decide)
    rw [a1_fields] at h; exact h
  have HO : Hid (∀ W, Below w.heap.size w W → Calls Try.prog 32 #[.pointer (some ⟨b, 0, none⟩), .iface 55 (.pointer (some ⟨g', 0, none⟩)), .int .i64 (n + 1)] W fun e w' => e = .returned (.int .i64 2) ∧ (∃ p' d', Wk w' b p' d' ∧ 0 < p' ∧ p' ≤ 16385) ∧ Below b w w') := fun W hW =>
    (HC R g' b p d (n + 1) W (hw.same (Same.of_below hW (Nat.le_refl _)) hbw) (hR.same (Same.of_below hW (by omega))) hg hp hp' (by omega) hn').mono fun e w' h => ⟨h.1, h.2.1, (hW.mono (by omega)).trans h.2.2⟩
  have HX : Hid (∀ W, Below w.heap.size w W → W.cell? ⟨dd, 0, none⟩ = some (.string nmA1) ∧ W.cell? ⟨dd, 1, none⟩ = some (.iface 55 (.pointer (some ⟨g', 0, none⟩)))) := fun W hW => ⟨by rw [hW.cell (p := ⟨dd, 0, none⟩) (by show dd < _; omega)]; exact c0, by rw [hW.cell (p := ⟨dd, 1, none⟩) (by show dd < _; omega)]; exact c1⟩
  clear HC hw hR hg c0 c1
  go_enter Try.func51, Try.ntmps51
  go_wp2_with (go_at_call 79; refine HFR.out.mono ?_; rintro e w1 ⟨rfl, hb1⟩)
  have HB1 : Hid (Below w.heap.size w w1) := hb1
  clear hb1
  go_loopw [18] (fun i wr => i = .int .i64 0 ∧ Hid (wr = w1)) (fun _ _ => 0)
  case atStart => exact ⟨rfl, rfl⟩
  case round =>
    obtain ⟨rfl, HW⟩ := hrel
    obtain rfl := HW.out
    obtain ⟨d0, d1⟩ := HX.out wr HB1.out
    go_wp2_with (go_at_call 32; refine (HO.out _ (HB1.out.alloc HB1.out.size _)).mono ?_; rintro e w2 ⟨rfl, hk2, hb2⟩)
    go_ret
    exact ⟨rfl, hk2, hb2⟩

set_option maxRecDepth 100000 in
set_option maxHeartbeats 400000 in
theorem Plain_bad (v : Value) (e : Int) (w : World) (h : Bad v e w) : Calls Try.prog 17 #[v] w fun x w' => x = .returned (.tuple #[.agg #[.int .i64 0, .bool false, .int .i64 0, .float .f64 0, .string ByteArray.empty, .slice none 0 0, .int .u64 0, .slice none 0 0, .slice none 0 0, .string ByteArray.empty, .int .i64 0], .int .i64 e]) ∧ Below w.heap.size w w' := by
  have he := ne_bool h.1
  have HC : Hid (∀ W, Below w.heap.size w W → Calls Try.prog 10 #[v] W fun x w' => ∃ a, x = .returned (.tuple #[.int .i64 a, .int .i64 e]) ∧ Below W.heap.size W w') := h.2
  have HX : Hid (∀ o w1, Below (w.alloc o).heap.size (w.alloc o) w1 → w1.heap[w.heap.size]? = some o ∧ Below w.heap.size w w1) := fun o w1 h => ⟨by rw [h.block w.heap.size (by simp)]; exact heap_alloc_new w o, below_to ((Below.refl _ _).alloc (Nat.le_refl _) _) h⟩
  clear h
  go_enter Try.func17, Try.ntmps17
  go_wp2_with (go_at_call 10; refine (HC.out _ ((Below.refl _ _).alloc (Nat.le_refl _) _)).mono ?_; rintro x w1 ⟨a, rfl, hb1⟩; obtain ⟨hR, hbw⟩ := HX.out _ _ hb1; have hh := fun j => cell_of_row w1 w.heap.size j _ _ _ hR; have hf := fun j => frozen_of_row w1 w.heap.size j _ _ hR; have r0 := hh 0; have z0 := hf 0; have r1 := hh 1; have z1 := hf 1; have r2 := hh 2; have z2 := hf 2; have r3 := hh 3; have z3 := hf 3; have r4 := hh 4; have z4 := hf 4; have r5 := hh 5; have z5 := hf 5; have r6 := hh 6; have z6 := hf 6; have r7 := hh 7; have z7 := hf 7; have r8 := hh 8; have z8 := hf 8; have r9 := hh 9; have z9 := hf 9; have r10 := hh 10; have z10 := hf 10; have HB1 : Hid _ := hbw; clear hb1 hR hbw hh hf)
  have HE : Hid (Below w.heap.size w (setN w1 w.heap.size 0 [.int .i64 0, .bool false, .int .i64 0, .float .f64 0, .string ByteArray.empty, .slice none 0 0, .int .u64 0, .slice none 0 0, .slice none 0 0, .string ByteArray.empty, .int .i64 0])) := setN_below (Nat.le_refl _) _ _ _ _ HB1.out
  refine bodyPost_ret (v := .tuple #[.agg #[.int .i64 0, .bool false, .int .i64 0, .float .f64 0, .string ByteArray.empty, .slice none 0 0, .int .u64 0, .slice none 0 0, .slice none 0 0, .string ByteArray.empty, .int .i64 0], .int .i64 e]) (by simp [results, Try.results17, go_sem, r0, r1, r2, r3, r4, r5, r6, r7, r8, r9, r10] <;> rfl) rfl ⟨rfl, HE.out⟩

/-- a list of two: a bool and a dict whose one field holds a record of the ring -/
def RingV (w : World) (b : Nat) (R : Nat → Prop) (l dd g : Nat) : Prop := l < b ∧ dd < b ∧ w.cell? ⟨l, 0, none⟩ = some (.iface 4 (.bool true)) ∧ w.cell? ⟨l, 1, none⟩ = some (.iface 62 (.slice (some ⟨dd, 0, none⟩) 1 1)) ∧ w.cell? ⟨dd, 0, none⟩ = some (.string nmA1) ∧ w.cell? ⟨dd, 1, none⟩ = some (.iface 55 (.pointer (some ⟨g, 0, none⟩))) ∧ Ring w b R ∧ R g
theorem RingV.same {w w' : World} {b : Nat} {R : Nat → Prop} {l dd g : Nat} (h : RingV w b R l dd g) (hs : Same (Lo b) w w') : RingV w' b R l dd g := by
  obtain ⟨h0, h1, h2, h3, h4, h5, h6, h7⟩ := h
  exact ⟨h0, h1, by rw [hs.cell (p := ⟨l, 0, none⟩) h0]; exact h2, by rw [hs.cell (p := ⟨l, 1, none⟩) h0]; exact h3, by rw [hs.cell (p := ⟨dd, 0, none⟩) h1]; exact h4, by rw [hs.cell (p := ⟨dd, 1, none⟩) h1]; exact h5, h6.same hs, h7⟩

set_option maxRecDepth 100000 in
set_option maxHeartbeats 400000 in
theorem value_dictR (dd g b : Nat) (R : Nat → Prop) (l : Nat) (w : World) (p d : Int) (hw : Wk w b p d) (h : RingV w b R l dd g) (hp : 0 ≤ p) (hp' : p ≤ 100) :
    Calls Try.prog 32 #[.pointer (some ⟨b, 0, none⟩), .iface 62 (.slice (some ⟨dd, 0, none⟩) 1 1), .int .i64 2] w fun e w' => e = .returned (.int .i64 2) ∧ (∃ p' d', Wk w' b p' d' ∧ 0 < p' ∧ p' ≤ 16385) ∧ Below b w w' := by
  have he : Sp.ent 9 p 2 = 0 := by unfold Sp.ent; rw [if_neg (by omega), if_neg (by omega), if_neg (by omega)]
  have HW : Hid (Wk w b p d) := hw
  have HC : Hid (∀ W, Below b w W → Wk W b (p + 1) (max d 2) → Calls Try.prog 51 #[.pointer (some ⟨b, 0, none⟩), .slice (some ⟨dd, 0, none⟩) 1 1, .int .i64 2] W fun e w' => e = .returned (.int .i64 2) ∧ (∃ p' d', Wk w' b p' d' ∧ 0 < p' ∧ p' ≤ 16385) ∧ Below b W w') := fun W hW hk => by
    obtain ⟨h0, h1, h2, h3, h4, h5, h6, h7⟩ := h.same (Same.of_below hW (Nat.le_refl _))
    exact dict_a 62 (ring_any 62) R dd g b (p + 1) (max d 2) 2 W hk h6 h7 h1 h4 h5 (by omega) (by omega) (by decide) (by decide)
  clear hw h
  go_enter Try.func32, Try.ntmps32
  go_wp2_with (first | (go_at_call 34; refine (kindOf_dict _ _).mono ?_; rintro e w' ⟨rfl, rfl⟩) | (go_at_call 48; refine (enter_to b p d _ _ _ HW.out hp (by omega)).mono ?_; rintro e w1 ⟨rfl, hk1, hb1⟩) | (go_at_call 51; refine (HC.out _ hb1 hk1).mono ?_; rintro e w2 ⟨rfl, hk2, hb2⟩))
  go_ret
  exact ⟨rfl, hk2, hb1.trans hb2⟩

set_option maxRecDepth 100000 in
set_option maxHeartbeats 1000000 in
theorem list_ring (m : Nat) (hm : m = 2) (l dd g b : Nat) (R : Nat → Prop) (w : World) (p d : Int) (hw : Wk w b p d) (h : RingV w b R l dd g) (hp : 0 ≤ p) (hp' : p ≤ 50) :
    Calls Try.prog 50 #[.pointer (some ⟨b, 0, none⟩), .slice (some ⟨l, 0, none⟩) m m, .int .i64 1] w fun e w' => e = .returned (.int .i64 2) ∧ (∃ p' d', Wk w' b p' d' ∧ 0 < p' ∧ p' ≤ 16385) ∧ Below b w w' := by
  have hr : Sp.len (m : Int) 4096 = 0 := by subst hm; decide
  have HM : Hid (m = 2) := hm
  have hmm : m ≤ 1000 := by omega
  have H0 : Hid (Wk w b p d ∧ RingV w b R l dd g) := ⟨hw, h⟩
  clear hm hw h
  go_enter Try.func50, Try.ntmps50
  go_wp2_with (go_at_call 49; refine (lengthRule_any _ _ _).mono ?_; rintro e w' ⟨rfl, rfl⟩)
  go_loopw [19] (fun i wr => ∃ (k : Nat), i = .int .i64 k ∧ k < m ∧ Hid (Below b w wr ∧ (k = 0 ∧ Wk wr b p d ∨ k = 1 ∧ Wk wr b (p + 1) (max d 2)))) (fun i _ => m - (intOf i).toNat)
  case atStart => exact ⟨0, rfl, by have := HM.out; omega, Below.refl _ _, .inl ⟨rfl, H0.out.1⟩⟩
  case round =>
    obtain ⟨k, rfl, hk, HR⟩ := hrel
    have hi0 : (0 : Int) ≤ (k : Int) := Int.natCast_nonneg _
    have hi1 : (k : Int) < (m : Int) := by omega
    have hV := H0.out.2.same (Same.of_below HR.out.1 (Nat.le_refl _))
    rcases HR.out.2 with ⟨hk0, hwk⟩ | ⟨hk0, hwk⟩
    · have d0 : wr.cell? ⟨l, 0 + k, none⟩ = some (.iface 4 (.bool true)) := by rw [hk0]; exact hV.2.2.1
      have d0' : wr.cell? ⟨l, k, none⟩ = some (.iface 4 (.bool true)) := by rw [hk0]; exact hV.2.2.1
      have HW : Hid (Wk wr b p d) := hwk
      have HK : Hid (k = 0) := hk0
      have he : Sp.ent 2 p 2 = 0 := by unfold Sp.ent; rw [if_neg (by omega), if_neg (by omega), if_neg (by omega)]
      have HVP : Hid (Calls Try.prog 32 #[.pointer (some ⟨b, 0, none⟩), .iface 4 (.bool true), .int .i64 2] wr fun e w' => e = .returned (.int .i64 0) ∧ Wk w' b (p + 1) (max d 2) ∧ Below b wr w') := value_plain b _ _ 2 p d 2 wr (kindOf_bool _) hwk hp (by omega) he (by decide) (by decide) (by decide) (by decide) (by decide)
      clear hV hk0 hwk
      go_wp2_with (go_at_call 32; refine HVP.out.mono ?_; rintro e w1 ⟨rfl, hk1, hb1⟩)
      go_roundw
      case rel => exact ⟨k + 1, by go_num, by have := HM.out; have := HK.out; omega, HR.out.1.trans hb1, .inr ⟨by have := HK.out; omega, hk1⟩⟩
      case measure => simp [intOf]; omega
    · have d0 : wr.cell? ⟨l, 0 + k, none⟩ = some (.iface 62 (.slice (some ⟨dd, 0, none⟩) 1 1)) := by rw [hk0]; exact hV.2.2.2.1
      have d0' : wr.cell? ⟨l, k, none⟩ = some (.iface 62 (.slice (some ⟨dd, 0, none⟩) 1 1)) := by rw [hk0]; exact hV.2.2.2.1
      have HVP : Hid (Calls Try.prog 32 #[.pointer (some ⟨b, 0, none⟩), .iface 62 (.slice (some ⟨dd, 0, none⟩) 1 1), .int .i64 2] wr fun e w' => e = .returned (.int .i64 2) ∧ (∃ p' d', Wk w' b p' d' ∧ 0 < p' ∧ p' ≤ 16385) ∧ Below b wr w') := value_dictR dd g b R l wr (p + 1) (max d 2) hwk hV (by omega) (by omega)
      clear hV hk0 hwk
      go_wp2_with (go_at_call 32; refine HVP.out.mono ?_; rintro e w1 ⟨rfl, hk1, hb1⟩)
      go_ret
      exact ⟨rfl, hk1, HR.out.1.trans hb1⟩

set_option maxRecDepth 100000 in
set_option maxHeartbeats 400000 in
theorem value_listR (l dd g b : Nat) (R : Nat → Prop) (w : World) (hw : Wk w b 0 0) (h : RingV w b R l dd g) :
    Calls Try.prog 32 #[.pointer (some ⟨b, 0, none⟩), .iface 63 (.slice (some ⟨l, 0, none⟩) 2 2), .int .i64 1] w fun e w' => e = .returned (.int .i64 2) ∧ (∃ p' d', Wk w' b p' d' ∧ 0 < p' ∧ p' ≤ 16385) ∧ Below b w w' := by
  have he : Sp.ent 8 0 1 = 0 := by decide
  have HW : Hid (Wk w b 0 0) := hw
  have HC : Hid (∀ W, Below b w W → Wk W b (0 + 1) (max 0 1) → Calls Try.prog 50 #[.pointer (some ⟨b, 0, none⟩), .slice (some ⟨l, 0, none⟩) 2 2, .int .i64 1] W fun e w' => e = .returned (.int .i64 2) ∧ (∃ p' d', Wk w' b p' d' ∧ 0 < p' ∧ p' ≤ 16385) ∧ Below b W w') := fun W hW hk =>
    list_ring 2 rfl l dd g b R W (0 + 1) (max 0 1) hk (h.same (Same.of_below hW (Nat.le_refl _))) (by decide) (by decide)
  clear hw h
  go_enter Try.func32, Try.ntmps32
  go_wp2_with (first | (go_at_call 34; refine (kindOf_list _ _).mono ?_; rintro e w' ⟨rfl, rfl⟩) | (go_at_call 48; refine (enter_to b 0 0 _ _ _ HW.out (by decide) (by decide)).mono ?_; rintro e w1 ⟨rfl, hk1, hb1⟩) | (go_at_call 50; refine (HC.out _ hb1 hk1).mono ?_; rintro e w2 ⟨rfl, hk2, hb2⟩))
  go_ret
  exact ⟨rfl, hk2, hb1.trans hb2⟩

/-- a value at which the walk tells error 2 in whatever world is later -/
theorem bad_of (v : Value) (w : World) (h : ∀ W, Below w.heap.size w W → Wk W w.heap.size 0 0 → Calls Try.prog 32 #[.pointer (some ⟨w.heap.size, 0, none⟩), v, .int .i64 1] W fun e w' => e = .returned (.int .i64 2) ∧ (∃ p' d', Wk w' w.heap.size p' d' ∧ 0 < p' ∧ p' ≤ 16385) ∧ Below w.heap.size W w') :
    Calls Try.prog 10 #[v] w fun x w' => ∃ a, x = .returned (.tuple #[.int .i64 a, .int .i64 2]) ∧ Below w.heap.size w w' := by
  have HC : Hid _ := h
  clear h
  go_enter Try.func10, Try.ntmps10
  go_wp2_with (go_at_call 32; refine (HC.out _ ((Below.refl _ _).alloc (Nat.le_refl _) _) (Wk_new w)).mono ?_; rintro e w1 ⟨rfl, ⟨p', d', hk1, hp0, hp1⟩, hb1⟩; obtain ⟨c0, c1, f0, f1⟩ := hk1)
  go_ret2
  exact ⟨_, rfl, ((Below.refl _ _).alloc (Nat.le_refl _) _).trans hb1⟩
theorem ringV_bad (l dd g b : Nat) (R : Nat → Prop) (w : World) (hb : b ≤ w.heap.size) (h : RingV w b R l dd g) : Bad (.iface 63 (.slice (some ⟨l, 0, none⟩) 2 2)) 2 w :=
  ⟨by decide, fun W hW => bad_of _ W fun X hX hk => value_listR l dd g W.heap.size R X hk (by
    have hs : RingV X b R l dd g := h.same (Same.of_below (below_to hW hX) hb)
    have hz := hW.size
    obtain ⟨h0, h1, h2, h3, h4, h5, h6, h7⟩ := hs
    exact ⟨by omega, by omega, h2, h3, h4, h5, fun g hg => by
      obtain ⟨a0, a1, a2, d, g', a3, a4, a5, a6, a7⟩ := h6 g hg
      exact ⟨by omega, a1, a2, d, g', by omega, a4, a5, a6, a7⟩, h7⟩)⟩
theorem ring_bad (g b : Nat) (R : Nat → Prop) (w : World) (hb : b ≤ w.heap.size) (h : Ring w b R) (hg : R g) : Bad (.iface 55 (.pointer (some ⟨g, 0, none⟩))) 2 w :=
  ⟨by decide, fun W hW => bad_of _ W fun X hX hk => by
    have hs : Ring X b R := h.same (Same.of_below (below_to hW hX) hb)
    have hz := hW.size
    exact ring_any 64 R g W.heap.size 0 0 1 X hk (fun g hg => by
      obtain ⟨a0, a1, a2, d, g', a3, a4, a5, a6, a7⟩ := hs g hg
      exact ⟨by omega, a1, a2, d, g', by omega, a4, a5, a6, a7⟩) hg (by decide) (by decide) (by decide) (by decide)⟩
end Go.Proofs.Ytbaadndogikphaa

/- tenonlaw01.ring: a record that holds itself, so many records around. -/
namespace Go.Proofs.Ytbaadndogikphaa
open Go.RowKit

/-- a node of a ring but the first: all of its cells -/
def Node (w : World) (R : Nat → Prop) (x : Nat) : Prop := x < w.heap.size ∧ w.cell? ⟨x, 0, none⟩ = some (.string nmRing) ∧ w.cell? ⟨x, 1, none⟩ = some (.int .i64 1) ∧
  ∃ d g', d < w.heap.size ∧ w.cell? ⟨x, 2, none⟩ = some (.slice (some ⟨d, 0, none⟩) 1 1) ∧ w.cell? ⟨d, 0, none⟩ = some (.string nmNext) ∧ w.cell? ⟨d, 1, none⟩ = some (.iface 55 (.pointer (some ⟨g', 0, none⟩))) ∧ R g'
/-- what the loop of ring carries -/
structure Chain (w wr : World) (R : Nat → Prop) (g : Nat) : Prop where
  first : R w.heap.size
  last : R g
  box : wr.heap[w.heap.size]? = some (.cells #[.string nmRing, .int .i64 1, .slice none 0 0] 69 (0, 0))
  node : ∀ x, R x → x ≠ w.heap.size → Node wr R x ∧ w.heap.size < x
  dict : ∀ x, R x → x ≠ w.heap.size → ∀ d c, wr.cell? ⟨x, 2, none⟩ = some (.slice (some ⟨d, 0, none⟩) 1 c) → d ≠ w.heap.size
  bel : Below w.heap.size w wr
  sz : w.heap.size < wr.heap.size

theorem Node.later {w w' : World} {R R' : Nat → Prop} {x : Nat} (h : Node w R x) (hb : Below w.heap.size w w') (hR : ∀ k, R k → R' k) : Node w' R' x := by
  obtain ⟨h0, h1, h2, d, g', h3, h4, h5, h6, h7⟩ := h
  have hz := hb.size
  exact ⟨by omega, by rw [hb.cell (p := ⟨x, 0, none⟩) h0]; exact h1, by rw [hb.cell (p := ⟨x, 1, none⟩) h0]; exact h2, d, g', by omega, by rw [hb.cell (p := ⟨x, 2, none⟩) h0]; exact h4, by rw [hb.cell (p := ⟨d, 0, none⟩) h3]; exact h5, by rw [hb.cell (p := ⟨d, 1, none⟩) h3]; exact h6, hR _ h7⟩

theorem Chain.start (w : World) : Chain w (w.alloc (.cells #[.string nmRing, .int .i64 1, .slice none 0 0] 69)) (fun k => k = w.heap.size) w.heap.size :=
  ⟨rfl, rfl, heap_alloc_new w _, fun x h1 h2 => absurd h1 h2, fun x h1 h2 => absurd h1 h2, (Below.refl _ _).alloc (Nat.le_refl _) _, by simp⟩

def grow (wr : World) (g : Nat) : World := (wr.alloc (.cells #[.string nmNext, .iface 55 (.pointer (some ⟨g, 0, none⟩))] 60)).alloc (.cells #[.string nmRing, .int .i64 1, .slice (some ⟨wr.heap.size, 0, none⟩) 1 1] 69)
theorem Chain.step {w wr : World} {R : Nat → Prop} {g : Nat} (h : Chain w wr R g) : Chain w (grow wr g) (fun k => R k ∨ k = wr.heap.size + 1) (wr.heap.size + 1) := by
  have hb : Below wr.heap.size wr (grow wr g) := ((Below.refl _ _).alloc (Nat.le_refl _) _).alloc (by simp) _
  have hz : (grow wr g).heap.size = wr.heap.size + 2 := by simp [grow]
  have hs := h.sz
  refine ⟨.inl h.first, .inr rfl, by rw [hb.block _ hs]; exact h.box, fun x hx hne => ?_, fun x hx hne d c hc => ?_, h.bel.trans (hb.mono h.bel.size), by omega⟩
  · rcases hx with hx | rfl
    · exact ⟨(h.node x hx hne).1.later hb (fun k hk => .inl hk), (h.node x hx hne).2⟩
    · refine ⟨⟨by omega, by simp [grow], by simp [grow], wr.heap.size, g, by omega, by simp [grow], by simp [grow], by simp [grow], .inl h.last⟩, by omega⟩
  · rcases hx with hx | rfl
    · have hl := (h.node x hx hne).1.1
      rw [hb.cell (p := ⟨x, 2, none⟩) hl] at hc
      exact h.dict x hx hne d c hc
    · have : (grow wr g).cell? ⟨wr.heap.size + 1, 2, none⟩ = some (.slice (some ⟨wr.heap.size, 0, none⟩) 1 1) := by simp [grow]
      rw [this] at hc
      simp only [Option.some.injEq, Value.slice.injEq, Addr.mk.injEq] at hc
      omega

def shut (w wr : World) (g : Nat) : World := (wr.alloc (.cells #[.string nmNext, .iface 55 (.pointer (some ⟨g, 0, none⟩))] 60)).setCell ⟨w.heap.size, 2, none⟩ (.slice (some ⟨wr.heap.size, 0, none⟩) 1 1)
theorem Chain.shut {w wr : World} {R : Nat → Prop} {g : Nat} (h : Chain w wr R g) : Ring (shut w wr g) (shut w wr g).heap.size R ∧ R g ∧ Below w.heap.size w (shut w wr g) := by
  have hb : Below wr.heap.size wr (wr.alloc (.cells #[.string nmNext, .iface 55 (.pointer (some ⟨g, 0, none⟩))] 60)) := (Below.refl _ _).alloc (Nat.le_refl _) _
  have hs := h.sz
  have hz : (Go.Proofs.Ytbaadndogikphaa.shut w wr g).heap.size = wr.heap.size + 1 := by simp [Go.Proofs.Ytbaadndogikphaa.shut]
  have hbox : (wr.alloc (.cells #[.string nmNext, .iface 55 (.pointer (some ⟨g, 0, none⟩))] 60)).heap[w.heap.size]? = some (.cells #[.string nmRing, .int .i64 1, .slice none 0 0] 69 (0, 0)) := by rw [hb.block _ hs]; exact h.box
  have hbox' : (Go.Proofs.Ytbaadndogikphaa.shut w wr g).heap[w.heap.size]? = some (.cells #[.string nmRing, .int .i64 1, .slice (some ⟨wr.heap.size, 0, none⟩) 1 1] 69 (0, 0)) := heap_setCell_same _ w.heap.size 2 _ _ _ hbox
  have hc := fun j => cell_of_row (Go.Proofs.Ytbaadndogikphaa.shut w wr g) w.heap.size j _ _ _ hbox'
  have hoth : ∀ x j, x ≠ w.heap.size → (Go.Proofs.Ytbaadndogikphaa.shut w wr g).cell? ⟨x, j, none⟩ = (wr.alloc (.cells #[.string nmNext, .iface 55 (.pointer (some ⟨g, 0, none⟩))] 60)).cell? ⟨x, j, none⟩ := fun x j hx => by
    unfold Go.Proofs.Ytbaadndogikphaa.shut; rw [sc_ne (by intro e; injection e with e; exact hx e.symm)]
  refine ⟨fun x hx => ?_, h.last, ?_⟩
  · by_cases hne : x = w.heap.size
    · subst hne
      refine ⟨by omega, hc 0, hc 1, wr.heap.size, g, by omega, hc 2, ?_, ?_, h.last⟩
      · rw [hoth _ _ (by omega)]; simp
      · rw [hoth _ _ (by omega)]; simp
    · obtain ⟨⟨h0, h1, h2, d, g', h3, h4, h5, h6, h7⟩, _⟩ := h.node x hx hne
      have hd := h.dict x hx hne d 1 h4
      exact ⟨by omega, by rw [hoth _ _ hne, hb.cell (p := ⟨x, 0, none⟩) h0]; exact h1, by rw [hoth _ _ hne, hb.cell (p := ⟨x, 1, none⟩) h0]; exact h2, d, g', by omega, by rw [hoth _ _ hne, hb.cell (p := ⟨x, 2, none⟩) h0]; exact h4, by rw [hoth _ _ hd, hb.cell (p := ⟨d, 0, none⟩) h3]; exact h5, by rw [hoth _ _ hd, hb.cell (p := ⟨d, 1, none⟩) h3]; exact h6, h7⟩
  · exact (h.bel.trans (hb.mono h.bel.size)).setCell (p := ⟨w.heap.size, 2, none⟩) (Nat.le_refl _) _

set_option maxRecDepth 100000 in
set_option maxHeartbeats 1000000 in
theorem ringF_any (n : Int) (w : World) (hn : n ≤ 1000) :
    Calls Try.prog 29 #[.int .i64 n] w fun e w' => ∃ g R, e = .returned (.pointer (some ⟨g, 0, none⟩)) ∧ Below w.heap.size w w' ∧ Ring w' w'.heap.size R ∧ R g := by
  have H0 : Hid (Chain w (w.alloc (.cells #[.string nmRing, .int .i64 1, .slice none 0 0] 69)) (fun k => k = w.heap.size) w.heap.size) := Chain.start w
  go_enter Try.func29, Try.ntmps29
  go_wp2_with fail
  go_loopw [4, 5] (fun v x wr => ∃ (k g : Nat) (R : Nat → Prop), v = .pointer (some ⟨g, 0, none⟩) ∧ x = .int .i64 k ∧ k ≤ 1001 ∧ Hid (Chain w wr R g)) (fun _ x _ => 1001 - (intOf x).toNat)
  case atStart => exact ⟨1, w.heap.size, _, rfl, rfl, by decide, H0.out⟩
  case round =>
    obtain ⟨k, g, R, rfl, rfl, hk, HR⟩ := hrel
    clear H0
    by_cases hkn : (k : Int) < n
    · go_wp2_with fail
      go_roundw
      case rel => exact ⟨k + 1, wr.heap.size + 1, _, rfl, by go_num, by omega, HR.out.step⟩
      case measure => simp [intOf]; omega
    · have hc := cell_of_row wr w.heap.size 2 _ _ _ HR.out.box
      have hf := frozen_of_row wr w.heap.size 2 _ _ HR.out.box
      have c2 : wr.cell? ⟨w.heap.size, 2, none⟩ = some (.slice none 0 0) := hc
      have hsz := HR.out.sz
      have HB : Hid (∀ o, (wr.alloc o).cell? ⟨w.heap.size, 2, none⟩ = some (.slice none 0 0) ∧ (wr.alloc o).frozen? ⟨w.heap.size, 2, none⟩ = false) := fun o => by
        have hb : Below wr.heap.size wr (wr.alloc o) := (Below.refl _ _).alloc (Nat.le_refl _) _
        exact ⟨by rw [hb.cell (p := ⟨w.heap.size, 2, none⟩) hsz]; exact c2, by rw [World.frozen?_of_block (w := wr) (hb.block _ hsz)]; exact hf⟩
      have HB1 := fun o => (HB.out o).1
      have HB2 := fun o => (HB.out o).2
      have HS : Hid (Ring ((wr.setCell ⟨w.heap.size, 2, none⟩ (.slice (some ⟨wr.heap.size, 0, none⟩) 1 1)).alloc (.cells #[.string nmNext, .iface 55 (.pointer (some ⟨g, 0, none⟩))] 60)) ((wr.setCell ⟨w.heap.size, 2, none⟩ (.slice (some ⟨wr.heap.size, 0, none⟩) 1 1)).alloc (.cells #[.string nmNext, .iface 55 (.pointer (some ⟨g, 0, none⟩))] 60)).heap.size R ∧ R g ∧ Below w.heap.size w ((wr.setCell ⟨w.heap.size, 2, none⟩ (.slice (some ⟨wr.heap.size, 0, none⟩) 1 1)).alloc (.cells #[.string nmNext, .iface 55 (.pointer (some ⟨g, 0, none⟩))] 60))) := by
        have hh := HR.out.shut
        unfold shut at hh
        rw [World.setCell_alloc_past _ _ _ _ hsz] at hh
        exact hh
      clear hc c2 hf
      go_wp2_with fail
      go_ret
      exact ⟨g, rfl, HS.out.2.2, R, HS.out.1, HS.out.2.1⟩
end Go.Proofs.Ytbaadndogikphaa
