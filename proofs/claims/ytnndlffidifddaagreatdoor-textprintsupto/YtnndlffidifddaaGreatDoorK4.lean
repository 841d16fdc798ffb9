/- Contracts of the small functions of package value that only reckon, or write into the walk alone: isLetter, isDigit, lengthRule, enter. -/
import Derived.Test.YtnndlffidifddaaGreatDoorProg
import Derived.Test.YtnndlffidifddaaGreatDoorK2
import Derived.WalkKit
import Derived.WalkSpells
import Derived.WalkLawsBesides
namespace Go.Proofs.YtnndlffidifddaaGreatDoor
open Go.RowKit

set_option maxHeartbeats 400000 in
theorem isLetter_any (c : Int) (w : World) (_h0 : 0 ≤ c) (_h1 : c ≤ 255) :
    Calls Tryz.prog 119 #[.int .u8 c] w fun e w' => e = .returned (.bool (Sp.letter c)) ∧ w = w' := by
  by_cases ha : 97 ≤ c
  · by_cases hb : c ≤ 122
    · go_enter Tryz.func119, Tryz.ntmps119
      go_wp2
      go_ret
      exact ⟨by simp [Sp.letter, ha, hb], rfl⟩
    · go_enter Tryz.func119, Tryz.ntmps119
      go_wp2
      go_ret
      exact ⟨by simp [Sp.letter]; omega, rfl⟩
  · go_enter Tryz.func119, Tryz.ntmps119
    go_wp2
    go_ret
    exact ⟨by simp [Sp.letter]; omega, rfl⟩

set_option maxHeartbeats 400000 in
theorem isDigit_any (c : Int) (w : World) (_h0 : 0 ≤ c) (_h1 : c ≤ 255) :
    Calls Tryz.prog 125 #[.int .u8 c] w fun e w' => e = .returned (.bool (Sp.digit c)) ∧ w = w' := by
  by_cases ha : 48 ≤ c
  · by_cases hb : c ≤ 57
    · go_enter Tryz.func125, Tryz.ntmps125
      go_wp2
      go_ret
      exact ⟨by simp [Sp.digit, ha, hb], rfl⟩
    · go_enter Tryz.func125, Tryz.ntmps125
      go_wp2
      go_ret
      exact ⟨by simp [Sp.digit]; omega, rfl⟩
  · go_enter Tryz.func125, Tryz.ntmps125
    go_wp2
    go_ret
    exact ⟨by simp [Sp.digit]; omega, rfl⟩

set_option maxHeartbeats 400000 in
theorem lengthRule_any (n m : Int) (w : World) :
    Calls Tryz.prog 68 #[.int .i64 n, .int .i64 m] w fun e w' => e = .returned (.int .i64 (Sp.len n m)) ∧ w = w' := by
  by_cases h : m < n
  · go_enter Tryz.func68, Tryz.ntmps68
    go_wp2
    go_ret
    exact ⟨by rw [Sp.len, if_neg (by omega)]; rfl, rfl⟩
  · go_enter Tryz.func68, Tryz.ntmps68
    go_wp2
    go_ret
    exact ⟨by rw [Sp.len, if_pos (by omega)]; rfl, rfl⟩

theorem ret_int {k : IntKind} {a b : Int} (h : a = b) : Ending.returned (.int k a) = .returned (.int k b) := by rw [h]

set_option maxHeartbeats 400000 in
theorem enter_any (b : Nat) (p d k n : Int) (w : World) (h : Wk w b p d) (hp : 0 ≤ p) (hp' : p ≤ 100000) :
    Calls Tryz.prog 66 #[.pointer (some ⟨b, 0, none⟩), .int .i64 k, .int .i64 n] w fun e w' => e = .returned (.int .i64 (Sp.ent k p n)) ∧ (w.setCell ⟨b, 0, none⟩ (.int .i64 (p + 1))).setCell ⟨b, 1, none⟩ (.int .i64 (max d n)) = w' := by
  obtain ⟨h0, h1, f0, f1⟩ := h
  go_enter Tryz.func66, Tryz.ntmps66
  go_wp2
  all_goals
    go_ret
    refine ⟨?_, ?_⟩
    · refine ret_int ?_
      simp only [beq_iff_eq, beq_eq_false_iff_ne, ne_eq] at *
      unfold Sp.ent
      (repeat' split) <;> omega
    · have hm : max d n = if n ≤ d then d else n := by omega
      rw [hm]; split <;> first | rfl | omega

set_option maxRecDepth 100000 in
set_option maxHeartbeats 400000 in
theorem kindOf_alien (T : Nat) (x : Value) (w : World) (h : Alien T) :
    Calls Tryz.prog 67 #[.iface T x] w fun e w' => e = .returned (.int .i64 0) ∧ w = w' := by
  obtain ⟨h1, h2, h3, h4, h5, h6, h7, h8, h9⟩ := h
  go_enter Tryz.func67, Tryz.ntmps67
  go_wp2
  go_ret
  exact ⟨rfl, rfl⟩
set_option maxRecDepth 100000 in
set_option maxHeartbeats 400000 in
theorem kindOf_nil (w : World) :
    Calls Tryz.prog 67 #[.nilIface] w fun e w' => e = .returned (.int .i64 1) ∧ w = w' := by
  go_enter Tryz.func67, Tryz.ntmps67
  go_wp2
  go_ret
  exact ⟨rfl, rfl⟩
set_option maxRecDepth 100000 in
set_option maxHeartbeats 400000 in
theorem kindOf_bool (x : Value) (w : World) :
    Calls Tryz.prog 67 #[.iface 4 x] w fun e w' => e = .returned (.int .i64 2) ∧ w = w' := by
  go_enter Tryz.func67, Tryz.ntmps67
  go_wp2
  go_ret
  exact ⟨rfl, rfl⟩
set_option maxRecDepth 100000 in
set_option maxHeartbeats 400000 in
theorem kindOf_int (x : Value) (w : World) :
    Calls Tryz.prog 67 #[.iface 2 x] w fun e w' => e = .returned (.int .i64 3) ∧ w = w' := by
  go_enter Tryz.func67, Tryz.ntmps67
  go_wp2
  go_ret
  exact ⟨rfl, rfl⟩
set_option maxRecDepth 100000 in
set_option maxHeartbeats 400000 in
theorem kindOf_float (x : Value) (w : World) :
    Calls Tryz.prog 67 #[.iface 22 x] w fun e w' => e = .returned (.int .i64 4) ∧ w = w' := by
  go_enter Tryz.func67, Tryz.ntmps67
  go_wp2
  go_ret
  exact ⟨rfl, rfl⟩
set_option maxRecDepth 100000 in
set_option maxHeartbeats 400000 in
theorem kindOf_text (x : Value) (w : World) :
    Calls Tryz.prog 67 #[.iface 9 x] w fun e w' => e = .returned (.int .i64 5) ∧ w = w' := by
  go_enter Tryz.func67, Tryz.ntmps67
  go_wp2
  go_ret
  exact ⟨rfl, rfl⟩
set_option maxRecDepth 100000 in
set_option maxHeartbeats 400000 in
theorem kindOf_bytes (x : Value) (w : World) :
    Calls Tryz.prog 67 #[.iface 23 x] w fun e w' => e = .returned (.int .i64 6) ∧ w = w' := by
  go_enter Tryz.func67, Tryz.ntmps67
  go_wp2
  go_ret
  exact ⟨rfl, rfl⟩
set_option maxRecDepth 100000 in
set_option maxHeartbeats 400000 in
theorem kindOf_ref (x : Value) (w : World) :
    Calls Tryz.prog 67 #[.iface 25 x] w fun e w' => e = .returned (.int .i64 7) ∧ w = w' := by
  go_enter Tryz.func67, Tryz.ntmps67
  go_wp2
  go_ret
  exact ⟨rfl, rfl⟩
set_option maxRecDepth 100000 in
set_option maxHeartbeats 400000 in
theorem kindOf_list (x : Value) (w : World) :
    Calls Tryz.prog 67 #[.iface 41 x] w fun e w' => e = .returned (.int .i64 8) ∧ w = w' := by
  go_enter Tryz.func67, Tryz.ntmps67
  go_wp2
  go_ret
  exact ⟨rfl, rfl⟩
set_option maxRecDepth 100000 in
set_option maxHeartbeats 400000 in
theorem kindOf_dict (x : Value) (w : World) :
    Calls Tryz.prog 67 #[.iface 43 x] w fun e w' => e = .returned (.int .i64 9) ∧ w = w' := by
  go_enter Tryz.func67, Tryz.ntmps67
  go_wp2
  go_ret
  exact ⟨rfl, rfl⟩
set_option maxRecDepth 100000 in
set_option maxHeartbeats 400000 in
theorem kindOf_rec (a : Addr) (w : World) :
    Calls Tryz.prog 67 #[.iface 45 (.pointer (some a))] w fun e w' => e = .returned (.int .i64 10) ∧ w = w' := by
  go_enter Tryz.func67, Tryz.ntmps67
  go_wp2
  go_ret
  exact ⟨rfl, rfl⟩
set_option maxRecDepth 100000 in
set_option maxHeartbeats 400000 in
theorem kindOf_nothing (w : World) :
    Calls Tryz.prog 67 #[.iface 45 (.pointer none)] w fun e w' => e = .returned (.int .i64 11) ∧ w = w' := by
  go_enter Tryz.func67, Tryz.ntmps67
  go_wp2
  go_ret
  exact ⟨rfl, rfl⟩
end Go.Proofs.YtnndlffidifddaaGreatDoor

/- The Go function value.isName tells whether a text is a name; value.headRule what is wrong with a record's class and version. -/
namespace Go.Proofs.YtnndlffidifddaaGreatDoor
open Go.RowKit

theorem byte_at (s : ByteArray) (k : Nat) (h : k < s.size) : (s[k].toNat : Int) = Sp.byte s k := by
  unfold Sp.byte
  have h' : k < s.data.size := h
  rw [Array.getD, dif_pos h']; rfl
theorem byte_bd (s : ByteArray) (k : Nat) : 0 ≤ Sp.byte s k ∧ Sp.byte s k ≤ 255 := by
  unfold Sp.byte
  have := (s.data.getD k 0).toNat_lt
  omega
theorem toList_ne {s : ByteArray} (h : ¬ s.size = 0) : s.toList.isEmpty = false := by
  cases he : s.toList.isEmpty with
  | false => rfl
  | true =>
    rw [List.isEmpty_iff, ByteArray.toList_eq] at he
    exact absurd (by cases s with | mk d => simpa [ByteArray.size] using he) h
theorem nmTo_first (s : ByteArray) (h : Sp.letter (Sp.byte s 0) = true) : Sp.nmTo s 1 = true := by
  simp [Sp.nmTo, Sp.ch, h]
theorem nmTo_bad (s : ByteArray) (k : Nat) (h : Sp.ch k (Sp.byte s k) = false) : ∀ n, k < n → Sp.nmTo s n = false
  | 0, hn => by omega
  | n + 1, hn => by
    rw [Sp.nmTo]
    by_cases e : k = n
    · subst e; simp [h]
    · rw [nmTo_bad s k h n (by omega)]; rfl
theorem isNm_bad (s : ByteArray) (k : Nat) (hk : k < s.size) (h : Sp.ch k (Sp.byte s k) = false) : Sp.isNm s = false := by
  simp [Sp.isNm, nmTo_bad s k h s.size hk]
theorem isNm_of (s : ByteArray) (h1 : 1 ≤ s.size) (h2 : s.size ≤ 32) : Sp.isNm s = Sp.nmTo s s.size := by simp [Sp.isNm, h1, h2]
theorem ret_bool {a b : Bool} (h : a = b) : Ending.returned (.bool a) = .returned (.bool b) := by rw [h]

/-- may a byte stand in a name, behind its first one -/
def Sp.nb (c : Int) : Bool := letter c || digit c || c == 95
theorem Sp.ch_nb {k : Nat} (c : Int) (hk : 1 ≤ k) : Sp.ch k c = Sp.nb c := by
  have : (k != 0) = true := by simp; omega
  rw [Sp.ch, Sp.nb, this, Bool.true_and, Bool.or_assoc]

set_option maxHeartbeats 400000 in
theorem nByte_any (c : Int) (w : World) (h0 : 0 ≤ c) (h1 : c ≤ 255) :
    Calls Tryz.prog 120 #[.int .u8 c] w fun e w' => e = .returned (.bool (Sp.nb c)) ∧ w = w' := by
  cases hl : Sp.letter c with
  | true =>
    have H : Hid (Sp.nb c = true) := by show _ = _; simp [Sp.nb, hl]
    go_enter Tryz.func120, Tryz.ntmps120
    go_wp2_with (go_at_call 119; refine (isLetter_any _ _ h0 h1).mono ?_; rintro e w' ⟨rfl, rfl⟩)
    go_ret
    exact ⟨ret_bool H.out.symm, rfl⟩
  | false =>
    cases hd : Sp.digit c with
    | true =>
      have H : Hid (Sp.nb c = true) := by show _ = _; simp [Sp.nb, hl, hd]
      go_enter Tryz.func120, Tryz.ntmps120
      go_wp2_with (first | (go_at_call 119; refine (isLetter_any _ _ h0 h1).mono ?_; rintro e w' ⟨rfl, rfl⟩) | (go_at_call 125; refine (isDigit_any _ _ h0 h1).mono ?_; rintro e w' ⟨rfl, rfl⟩))
      go_ret
      exact ⟨ret_bool H.out.symm, rfl⟩
    | false =>
      have H : Hid (Sp.nb c = (c == 95)) := by show _ = _; simp [Sp.nb, hl, hd]
      go_enter Tryz.func120, Tryz.ntmps120
      go_wp2_with (first | (go_at_call 119; refine (isLetter_any _ _ h0 h1).mono ?_; rintro e w' ⟨rfl, rfl⟩) | (go_at_call 125; refine (isDigit_any _ _ h0 h1).mono ?_; rintro e w' ⟨rfl, rfl⟩))
      go_ret
      exact ⟨ret_bool H.out.symm, rfl⟩

set_option maxRecDepth 100000 in
set_option maxHeartbeats 400000 in
theorem isName_any (s : ByteArray) (w : World) (hs : s.size ≤ maxLen) :
    Calls Tryz.prog 98 #[.string s] w fun e w' => e = .returned (.bool (Sp.isNm s)) ∧ w = w' := by
  unfold maxLen at hs
  by_cases h0 : s.size = 0
  · have he : s = ByteArray.empty := by
      cases s with | mk d => simp [ByteArray.size] at h0; subst h0; rfl
    subst he
    go_enter Tryz.func98, Tryz.ntmps98
    go_wp2_with fail
    go_ret
    exact ⟨rfl, rfl⟩
  · have hne := toList_ne h0
    by_cases h32 : 32 < s.size
    · have H : Hid (Sp.isNm s = false) := by show _ = _; simp [Sp.isNm]; omega
      go_enter Tryz.func98, Tryz.ntmps98
      go_wp2_with fail
      go_ret
      exact ⟨ret_bool H.out.symm, rfl⟩
    · have hz : 0 < s.size := by omega
      have hb := byte_bd s 0
      have e0 := byte_at s 0 hz
      cases hl : Sp.letter (Sp.byte s 0) with
      | false =>
        have H : Hid (Sp.isNm s = false) := isNm_bad s 0 hz (by simp [Sp.ch, hl])
        go_enter Tryz.func98, Tryz.ntmps98
        go_wp2_with (go_at_call 119; refine (isLetter_any _ _ (by omega) (by omega)).mono ?_; rintro e w' ⟨rfl, rfl⟩)
        go_ret
        exact ⟨ret_bool H.out.symm, rfl⟩
      | true =>
        have H1 : Hid (Sp.nmTo s 1 = true) := nmTo_first s hl
        go_enter Tryz.func98, Tryz.ntmps98
        go_wp2_with (go_at_call 119; refine (isLetter_any _ _ (by omega) (by omega)).mono ?_; rintro e w' ⟨rfl, rfl⟩)
        go_loop [3] (fun i => ∃ k : Nat, 1 ≤ k ∧ k ≤ s.size ∧ i = .int .i64 k ∧ Hid (Sp.nmTo s k = true)) (fun i => s.size - (intOf i).toNat)
        case atStart => exact ⟨1, by omega, by omega, rfl, H1⟩
        case round =>
          obtain ⟨k, hk1, hk, rfl, HK⟩ := hrel
          by_cases hlt : k < s.size
          · have hbk := byte_bd s k
            have ek := byte_at s k hlt
            cases hnk : Sp.nb (Sp.byte s k) with
            | true =>
              have HK' : Hid (Sp.nmTo s (k + 1) = true) := by show _ = _; rw [Sp.nmTo, HK.out, Sp.ch_nb _ hk1, hnk]; rfl
              go_wp2_with (go_at_call 120; refine (nByte_any _ _ (by omega) (by omega)).mono ?_; rintro e w' ⟨rfl, rfl⟩)
              go_round
              case rel => exact ⟨k + 1, by omega, by omega, by go_num, HK'⟩
              case measure => simp [intOf]; omega
            | false =>
              have H : Hid (Sp.isNm s = false) := isNm_bad s k hlt (by rw [Sp.ch_nb _ hk1, hnk])
              go_wp2_with (go_at_call 120; refine (nByte_any _ _ (by omega) (by omega)).mono ?_; rintro e w' ⟨rfl, rfl⟩)
              go_ret
              exact ⟨ret_bool H.out.symm, rfl⟩
          · go_wp2_with fail
            go_ret
            exact ⟨ret_bool (by rw [isNm_of s (by omega) (by omega), show s.size = k by omega]; exact HK.out.symm), rfl⟩

set_option maxRecDepth 100000 in
set_option maxHeartbeats 400000 in
theorem headRule_any (s : ByteArray) (v : Int) (w : World) (hs : s.size ≤ maxLen) :
    Calls Tryz.prog 71 #[.string s, .int .i64 v] w fun e w' => e = .returned (.int .i64 (Sp.headR s v)) ∧ w = w' := by
  cases hn : Sp.isNm s with
  | false =>
    have H : Hid (Sp.headR s v = 8) := by show _ = _; simp [Sp.headR, hn]
    go_enter Tryz.func71, Tryz.ntmps71
    go_wp2_with (go_at_call 98; refine (isName_any _ _ hs).mono ?_; rintro e w' ⟨rfl, rfl⟩)
    go_ret
    exact ⟨ret_int H.out.symm, rfl⟩
  | true =>
    by_cases h1 : v < 1
    · have H : Hid (Sp.headR s v = 1) := by show _ = _; simp [Sp.headR, hn, h1]
      go_enter Tryz.func71, Tryz.ntmps71
      go_wp2_with (go_at_call 98; refine (isName_any _ _ hs).mono ?_; rintro e w' ⟨rfl, rfl⟩)
      go_ret
      exact ⟨ret_int H.out.symm, rfl⟩
    · by_cases h2 : 1000 < v
      · have H : Hid (Sp.headR s v = 1) := by show _ = _; simp [Sp.headR, hn, h2]
        go_enter Tryz.func71, Tryz.ntmps71
        go_wp2_with (go_at_call 98; refine (isName_any _ _ hs).mono ?_; rintro e w' ⟨rfl, rfl⟩)
        go_ret
        exact ⟨ret_int H.out.symm, rfl⟩
      · have H : Hid (Sp.headR s v = 0) := by show _ = _; simp [Sp.headR, hn, h1, h2]
        go_enter Tryz.func71, Tryz.ntmps71
        go_wp2_with (go_at_call 98; refine (isName_any _ _ hs).mono ?_; rintro e w' ⟨rfl, rfl⟩)
        go_ret
        exact ⟨ret_int H.out.symm, rfl⟩
end Go.Proofs.YtnndlffidifddaaGreatDoor

/- The Go walk through a value (package value: fieldsRule, walk.list, walk.dict, walk.value) comes to the plain walk through its term. -/
namespace Go.Proofs.YtnndlffidifddaaGreatDoor
open Go.RowKit

set_option maxRecDepth 100000 in
set_option maxHeartbeats 400000 in
theorem dict1_any (n : ByteArray) (v : Value) (w : World) :
    Calls Tryz.prog 97 #[.agg #[.string n, v]] w fun e w' => e = .returned (.string n) ∧ Below w.heap.size w w' := by
  go_enter Tryz.func97, Tryz.ntmps97
  go_wp2
  go_ret
  exact ⟨rfl, (Below.refl _ _).alloc (Nat.le_refl _) _⟩

theorem isNm_len {n : ByteArray} (h : Sp.isNm n = true) : 1 ≤ n.size := by
  simp [Sp.isNm] at h; omega

set_option maxRecDepth 100000 in
set_option maxHeartbeats 400000 in
theorem fieldsRule_any (fs : TmF) (a : Option Addr) (cap B : Nat) (w : World) (hB : B ≤ w.heap.size) (h : fs.V w (Lo B) a 0) (hlen : fs.len ≤ maxLen) :
    Calls Tryz.prog 96 #[.slice a fs.len cap, .func (.func 97) #[] #[]] w fun e w' => e = .returned (.int .i64 (Sp.fieldsR fs.names)) ∧ Below w.heap.size w w' := by
  unfold maxLen at hlen
  by_cases hl : 4096 < fs.len
  · have hr : Sp.len (fs.len : Int) 4096 = 2 := by unfold Sp.len; rw [if_neg (by omega)]
    have H : Hid (Sp.fieldsR fs.names = 2) := by show _ = _; unfold Sp.fieldsR; rw [if_pos (by rw [TmF.names_len]; exact hl)]
    go_enter Tryz.func96, Tryz.ntmps96
    go_wp2_with (go_at_call 68; refine (lengthRule_any _ _ _).mono ?_; rintro e w' ⟨rfl, rfl⟩)
    go_ret
    exact ⟨ret_int H.out.symm, Below.refl _ _⟩
  · have hr : Sp.len (fs.len : Int) 4096 = 0 := by unfold Sp.len; rw [if_pos (by omega)]
    go_enter Tryz.func96, Tryz.ntmps96
    go_wp2_with (go_at_call 68; refine (lengthRule_any _ _ _).mono ?_; rintro e w' ⟨rfl, rfl⟩)
    go_loopw [6, 18] (fun ah i wr => ∃ (k : Nat) (l : TmF) (s : ByteArray), ah = .string s ∧ i = .int .i64 k ∧ l.len + k = fs.len ∧ l.V w (Lo B) a k ∧ Hid (Sp.named ByteArray.empty fs.names = Sp.named s l.names) ∧ Below w.heap.size w wr) (fun _ i _ => fs.len - (intOf i).toNat)
    case atStart => exact ⟨0, fs, _, rfl, rfl, rfl, h, rfl, Below.refl _ _⟩
    case round =>
      obtain ⟨k, l, s, rfl, rfl, hk, hv, HN, hb⟩ := hrel
      cases l with
      | nil =>
        have h1 : fs.len ≤ k := by simp [TmF.len] at hk; omega
        have HK : Hid (TmF.nil.len + k = fs.len) := hk
        have H : Hid (Sp.fieldsR fs.names = 0) := by
          show _ = _; unfold Sp.fieldsR; rw [if_neg (by rw [TmF.names_len]; exact hl), HN.out]; simp [TmF.names, Sp.named]
        clear hk HN hv h
        go_wp2_with fail
        go_ret
        exact ⟨ret_int H.out.symm, hb⟩
      | cons n t l =>
        have HV : Hid (TmF.V w (Lo B) (.cons n t l) a k) := hv
        simp only [TmF.V] at hv
        obtain ⟨g, o, v, rfl, hg, c0, c1, hn, ht, hv'⟩ := hv
        have hg : g < B := hg
        have hlt : k < fs.len := by simp [TmF.len] at hk; omega
        have HK : Hid (l.len + (k + 1) = fs.len) := by show _ = _; simp [TmF.len] at hk; omega
        have d0 : wr.cell? ⟨g, o + k * 2, none⟩ = some (.string n) := by rw [hb.cell (p := ⟨g, o + k * 2, none⟩) (by show g < _; omega)]; exact c0
        have d1 : wr.cell? ⟨g, o + k * 2 + 1, none⟩ = some v := by rw [hb.cell (p := ⟨g, o + k * 2 + 1, none⟩) (by show g < _; omega)]; exact c1
        have HB : Hid (Below w.heap.size w wr) := hb
        have HT : Hid (TmF.V w (Lo B) l (some ⟨g, o, none⟩) (k + 1)) := hv'
        have hgr : g < wr.heap.size := by have := hb.size; omega
        have hsh := t.V_shape v ht
        clear hk hv' ht c0 c1 h hb HV
        cases hnm : Sp.isNm n with
        | false =>
          have H : Hid (Sp.fieldsR fs.names = 8) := by
            show _ = _; unfold Sp.fieldsR; rw [if_neg (by rw [TmF.names_len]; exact hl), HN.out]; simp [TmF.names, Sp.named, hnm]
          rcases hsh with rfl | ⟨T, x, rfl⟩
          all_goals
            go_wp2_with (first | (go_at_call 97; refine (dict1_any _ _ _).mono ?_; rintro e w1 ⟨rfl, hb1⟩) | (go_at_call 98; refine (isName_any _ _ hn).mono ?_; rintro e w' ⟨rfl, rfl⟩))
            go_ret
            exact ⟨ret_int H.out.symm, (HB.out.alloc HB.out.size _).trans (hb1.mono (by simp; have := HB.out.size; omega))⟩
        | true =>
          cases hle : Sp.leS n s with
          | true =>
            have H : Hid (Sp.fieldsR fs.names = 8) := by
              show _ = _; unfold Sp.fieldsR; rw [if_neg (by rw [TmF.names_len]; exact hl), HN.out]; simp [TmF.names, Sp.named, hnm, hle]
            unfold Sp.leS at hle
            rcases hsh with rfl | ⟨T, x, rfl⟩
            all_goals
              go_wp2_with (first | (go_at_call 97; refine (dict1_any _ _ _).mono ?_; rintro e w1 ⟨rfl, hb1⟩) | (go_at_call 98; refine (isName_any _ _ hn).mono ?_; rintro e w' ⟨rfl, rfl⟩))
              go_ret
              exact ⟨ret_int H.out.symm, (HB.out.alloc HB.out.size _).trans (hb1.mono (by simp; have := HB.out.size; omega))⟩
          | false =>
            have H : Hid (Sp.named ByteArray.empty fs.names = Sp.named n l.names) := by
              show _ = _; rw [HN.out]; simp [TmF.names, Sp.named, hnm, hle]
            unfold Sp.leS at hle
            rcases hsh with rfl | ⟨T, x, rfl⟩
            all_goals
              go_wp2_with (first | (go_at_call 97; refine (dict1_any _ _ _).mono ?_; rintro e w1 ⟨rfl, hb1⟩) | (go_at_call 98; refine (isName_any _ _ hn).mono ?_; rintro e w' ⟨rfl, rfl⟩))
              go_roundw
              case rel => exact ⟨k + 1, l, n, rfl, by go_num, HK.out, HT.out, H, (HB.out.alloc HB.out.size _).trans (hb1.mono (by simp; have := HB.out.size; omega))⟩
              case measure => simp [intOf]; omega
end Go.Proofs.YtnndlffidifddaaGreatDoor

