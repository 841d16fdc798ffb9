/- The Go function tenonref01.Name tells whether a text is a name. -/
import Derived.Test.YtkomcebknllaiaaL1
import Derived.Test.YtkomcebknllaiaaL2
import Derived.Test.YtkomcebknllaiaaL4
namespace Go.Proofs.Ytkomcebknllaiaa
open Go.RowKit

theorem ch_eq (k : Nat) (c : Int) : Sp.ch k c = decide ((97 ≤ c ∧ c ≤ 122) ∨ (k ≠ 0 ∧ ((48 ≤ c ∧ c ≤ 57) ∨ c = 95))) := by
  rw [Bool.eq_iff_iff]; simp [Sp.ch, Sp.letter, Sp.digit]
theorem nmTo_c {s : ByteArray} {k : Nat} (h : Sp.nmTo s k = true) (hc : (97 ≤ Sp.byte s k ∧ Sp.byte s k ≤ 122) ∨ (k ≠ 0 ∧ ((48 ≤ Sp.byte s k ∧ Sp.byte s k ≤ 57) ∨ Sp.byte s k = 95))) : Sp.nmTo s (k + 1) = true := by
  rw [Sp.nmTo, h, ch_eq]; simp only [hc, decide_true, Bool.and_self]
theorem isNm_no {s : ByteArray} {k : Nat} (hk : k < s.size) (hc : ¬ ((97 ≤ Sp.byte s k ∧ Sp.byte s k ≤ 122) ∨ (k ≠ 0 ∧ ((48 ≤ Sp.byte s k ∧ Sp.byte s k ≤ 57) ∨ Sp.byte s k = 95)))) : Sp.isNm s = false :=
  isNm_bad s k hk (by rw [ch_eq]; simp only [hc, decide_false])

set_option maxRecDepth 100000 in
set_option maxHeartbeats 1000000 in
theorem Name_any (s : ByteArray) (w : World) (hs : s.size ≤ maxLen) :
    Calls Try.prog 115 #[.string s] w fun e w' => e = .returned (.bool (Sp.isNm s)) ∧ w = w' := by
  unfold maxLen at hs
  by_cases h0 : s.size = 0
  · have H : Hid (Sp.isNm s = false) := by show _ = _; simp [Sp.isNm]; omega
    go_enter Try.func115, Try.ntmps115
    go_wp2_with fail
    go_ret
    exact ⟨ret_bool H.out.symm, rfl⟩
  · by_cases h32 : 32 < s.size
    · have H : Hid (Sp.isNm s = false) := by show _ = _; simp [Sp.isNm]; omega
      go_enter Try.func115, Try.ntmps115
      go_wp2_with fail
      go_ret
      exact ⟨ret_bool H.out.symm, rfl⟩
    · go_enter Try.func115, Try.ntmps115
      go_wp2_with fail
      go_loop [3] (fun i => ∃ k : Nat, k ≤ s.size ∧ i = .int .i64 k ∧ Hid (Sp.nmTo s k = true)) (fun i => s.size - (intOf i).toNat)
      case atStart => exact ⟨0, by omega, rfl, rfl⟩
      case round =>
        obtain ⟨k, hk, rfl, HK⟩ := hrel
        by_cases hlt : k < s.size
        · have hbk := byte_bd s k
          have ek := byte_at s k hlt
          by_cases hgood : (97 ≤ Sp.byte s k ∧ Sp.byte s k ≤ 122) ∨ (k ≠ 0 ∧ ((48 ≤ Sp.byte s k ∧ Sp.byte s k ≤ 57) ∨ Sp.byte s k = 95))
          · have HK' : Hid (Sp.nmTo s (k + 1) = true) := nmTo_c HK.out hgood
            rcases hgood with ⟨ha, hb⟩ | ⟨hk0, ⟨ha, hb⟩ | h95⟩
            · go_wp2_with fail
              go_round
              case rel => exact ⟨k + 1, by omega, by go_num, HK'⟩
              case measure => simp [intOf]; omega
            · have h95' : (Sp.byte s k != 95) = true := by simp; omega
              have hk0' : ((k : Int) == 0) = false := by simp; omega
              go_wp2_with fail
              go_round
              case rel => exact ⟨k + 1, by omega, by go_num, HK'⟩
              case measure => simp [intOf]; omega
            · have h95' : (Sp.byte s k != 95) = false := by simp [h95]
              have hk0' : ((k : Int) == 0) = false := by simp; omega
              have h96 : Sp.byte s k < 97 := by omega
              clear h95
              go_wp2_with fail
              go_round
              case rel => exact ⟨k + 1, by omega, by go_num, HK'⟩
              case measure => simp [intOf]; omega
          · have H : Hid (Sp.isNm s = false) := isNm_no hlt hgood
            by_cases hk0 : k = 0
            · subst hk0
              by_cases h97 : Sp.byte s 0 < 97
              · clear hgood
                go_wp2_with fail
                go_ret
                exact ⟨ret_bool H.out.symm, rfl⟩
              · have h122 : decide (Sp.byte s 0 ≤ 122) = false := by simp; omega
                clear hgood
                go_wp2_with fail
                go_ret
                exact ⟨ret_bool H.out.symm, rfl⟩
            · have h95' : (Sp.byte s k != 95) = true := by simp; omega
              have hk0' : ((k : Int) == 0) = false := by simp; omega
              by_cases h48 : Sp.byte s k < 48
              · clear hgood
                go_wp2_with fail
                go_ret
                exact ⟨ret_bool H.out.symm, rfl⟩
              · have h57 : 57 < Sp.byte s k := by omega
                by_cases h97 : Sp.byte s k < 97
                · clear hgood
                  go_wp2_with fail
                  go_ret
                  exact ⟨ret_bool H.out.symm, rfl⟩
                · have h122 : decide (Sp.byte s k ≤ 122) = false := by simp; omega
                  clear hgood
                  go_wp2_with fail
                  go_ret
                  exact ⟨ret_bool H.out.symm, rfl⟩
        · go_wp2_with fail
          go_ret
          exact ⟨ret_bool (by rw [isNm_of s (by omega) (by omega), show s.size = k by omega]; exact HK.out.symm), rfl⟩
end Go.Proofs.Ytkomcebknllaiaa

/- tenonref01.own: what is wrong with a part by itself, as the plain mathematics says it. -/
namespace Go.Proofs.Ytkomcebknllaiaa
open Go.RowKit

section
variable (k : Int) (b : Bool) (i : Int) (f : Nat) (tx : ByteArray) (ab : Option Addr) (nb cb : Nat) (rf : Int) (al : Option Addr) (nl cl : Nat) (af : Option Addr) (nf cf : Nat) (c : ByteArray) (vr p n : Int) (w : World)
set_option maxRecDepth 100000 in
set_option maxHeartbeats 1000000 in
theorem own_ent (h : Sp.ent k p n ≠ 0) :
    Calls Try.prog 68 #[.agg (tcells k b i f tx (.slice ab nb cb) rf (.slice al nl cl) (.slice af nf cf) c vr), .int .i64 p, .int .i64 n] w fun e w' => e = .returned (.int .i64 (Sp.ent k p n)) ∧ Below w.heap.size w w' := by
  unfold tcells
  by_cases h11 : k = 11
  · have hk : (k == 11) = true := by simp [h11]
    have H : Hid (Sp.ent k p n = 7) := by show _ = _; simp [Sp.ent, h11]
    clear h h11
    go_enter Try.func68, Try.ntmps68
    go_wp2_with fail
    go_ret
    exact ⟨ret_int H.out.symm, (Below.refl _ _).alloc (Nat.le_refl _) _⟩
  · have hk : (k == 11) = false := by simp [h11]
    by_cases h1 : k < 1
    · have H : Hid (Sp.ent k p n = 6) := by show _ = _; simp [Sp.ent, h11, h1]
      clear h h11
      go_enter Try.func68, Try.ntmps68
      go_wp2_with fail
      go_ret
      exact ⟨ret_int H.out.symm, (Below.refl _ _).alloc (Nat.le_refl _) _⟩
    · by_cases h10 : 10 < k
      · have H : Hid (Sp.ent k p n = 6) := by show _ = _; simp [Sp.ent, h11, h10]
        clear h h11
        go_enter Try.func68, Try.ntmps68
        go_wp2_with fail
        go_ret
        exact ⟨ret_int H.out.symm, (Below.refl _ _).alloc (Nat.le_refl _) _⟩
      · by_cases hp : 16384 ≤ p
        · have H : Hid (Sp.ent k p n = 2) := by show _ = _; simp [Sp.ent, h11, h10, h1, hp]
          clear h h11
          go_enter Try.func68, Try.ntmps68
          go_wp2_with fail
          go_ret
          exact ⟨ret_int H.out.symm, (Below.refl _ _).alloc (Nat.le_refl _) _⟩
        · by_cases hn : 64 < n
          · have H : Hid (Sp.ent k p n = 2) := by show _ = _; simp [Sp.ent, h11, h10, h1, hn]
            clear h h11
            go_enter Try.func68, Try.ntmps68
            go_wp2_with fail
            go_ret
            exact ⟨ret_int H.out.symm, (Below.refl _ _).alloc (Nat.le_refl _) _⟩
          · exact absurd (by simp [Sp.ent, h11, h10, h1, hp, hn]) h

set_option maxRecDepth 100000 in
set_option maxHeartbeats 1000000 in
theorem own_plain (h : Sp.ent k p n = 0) (h5 : k ≠ 5) (h6 : k ≠ 6) (h8 : k ≠ 8) (h9 : k ≠ 9) (h10 : k ≠ 10) :
    Calls Try.prog 68 #[.agg (tcells k b i f tx (.slice ab nb cb) rf (.slice al nl cl) (.slice af nf cf) c vr), .int .i64 p, .int .i64 n] w fun e w' => e = .returned (.int .i64 0) ∧ Below w.heap.size w w' := by
  unfold tcells
  obtain ⟨a1, a2, a3, a4⟩ := Sp.ent_zero h
  have b11 : (k == 11) = false := by simp; omega
  have b10 : (k == 10) = false := by simp; omega
  have b5 : (k == 5) = false := by simp; omega
  have b6 : (k == 6) = false := by simp; omega
  have b8 : (k == 8) = false := by simp; omega
  have b9 : (k != 9) = true := by simp; omega
  have b10' : (k != 10) = true := by simp; omega
  clear h h5 h6 h8 h9 h10
  go_enter Try.func68, Try.ntmps68
  go_wp2_with fail
  go_ret
  exact ⟨rfl, (Below.refl _ _).alloc (Nat.le_refl _) _⟩

set_option maxRecDepth 100000 in
set_option maxHeartbeats 1000000 in
theorem own_5 (h : Sp.ent 5 p n = 0) :
    Calls Try.prog 68 #[.agg (tcells 5 b i f tx (.slice ab nb cb) rf (.slice al nl cl) (.slice af nf cf) c vr), .int .i64 p, .int .i64 n] w fun e w' => e = .returned (.int .i64 (Sp.len tx.size 65536)) ∧ Below w.heap.size w w' := by
  unfold tcells
  obtain ⟨a1, a2, a3, a4⟩ := Sp.ent_zero h
  clear h a1 a2
  by_cases hl : 65536 < tx.size
  · have H : Hid (Sp.len tx.size 65536 = 2) := by show _ = _; unfold Sp.len; rw [if_neg (by omega)]
    go_enter Try.func68, Try.ntmps68
    go_wp2_with fail
    go_ret
    exact ⟨ret_int H.out.symm, (Below.refl _ _).alloc (Nat.le_refl _) _⟩
  · have H : Hid (Sp.len tx.size 65536 = 0) := by show _ = _; unfold Sp.len; rw [if_pos (by omega)]
    have hl' : decide (65536 < (tx.size : Int)) = false := by simp; omega
    go_enter Try.func68, Try.ntmps68
    go_wp2_with fail
    go_ret
    exact ⟨ret_int H.out.symm, (Below.refl _ _).alloc (Nat.le_refl _) _⟩

set_option maxRecDepth 100000 in
set_option maxHeartbeats 1000000 in
theorem own_6 (h : Sp.ent 6 p n = 0) :
    Calls Try.prog 68 #[.agg (tcells 6 b i f tx (.slice ab nb cb) rf (.slice al nl cl) (.slice af nf cf) c vr), .int .i64 p, .int .i64 n] w fun e w' => e = .returned (.int .i64 (Sp.len nb 65536)) ∧ Below w.heap.size w w' := by
  unfold tcells
  obtain ⟨a1, a2, a3, a4⟩ := Sp.ent_zero h
  clear h a1 a2
  by_cases hl : 65536 < nb
  · have H : Hid (Sp.len nb 65536 = 2) := by show _ = _; unfold Sp.len; rw [if_neg (by omega)]
    go_enter Try.func68, Try.ntmps68
    go_wp2_with fail
    go_ret
    exact ⟨ret_int H.out.symm, (Below.refl _ _).alloc (Nat.le_refl _) _⟩
  · have H : Hid (Sp.len nb 65536 = 0) := by show _ = _; unfold Sp.len; rw [if_pos (by omega)]
    have hl' : decide (65536 < (nb : Int)) = false := by simp; omega
    go_enter Try.func68, Try.ntmps68
    go_wp2_with fail
    go_ret
    exact ⟨ret_int H.out.symm, (Below.refl _ _).alloc (Nat.le_refl _) _⟩

set_option maxRecDepth 100000 in
set_option maxHeartbeats 1000000 in
theorem own_8 (h : Sp.ent 8 p n = 0) :
    Calls Try.prog 68 #[.agg (tcells 8 b i f tx (.slice ab nb cb) rf (.slice al nl cl) (.slice af nf cf) c vr), .int .i64 p, .int .i64 n] w fun e w' => e = .returned (.int .i64 (Sp.len nl 4096)) ∧ Below w.heap.size w w' := by
  unfold tcells
  obtain ⟨a1, a2, a3, a4⟩ := Sp.ent_zero h
  clear h a1 a2
  by_cases hl : 4096 < nl
  · have H : Hid (Sp.len nl 4096 = 2) := by show _ = _; unfold Sp.len; rw [if_neg (by omega)]
    go_enter Try.func68, Try.ntmps68
    go_wp2_with fail
    go_ret
    exact ⟨ret_int H.out.symm, (Below.refl _ _).alloc (Nat.le_refl _) _⟩
  · have H : Hid (Sp.len nl 4096 = 0) := by show _ = _; unfold Sp.len; rw [if_pos (by omega)]
    have hl' : decide (4096 < (nl : Int)) = false := by simp; omega
    go_enter Try.func68, Try.ntmps68
    go_wp2_with fail
    go_ret
    exact ⟨ret_int H.out.symm, (Below.refl _ _).alloc (Nat.le_refl _) _⟩

set_option maxRecDepth 100000 in
set_option maxHeartbeats 1000000 in
theorem own_10 (h : Sp.ent 10 p n = 0) (hs : c.size ≤ maxLen) (hh : Sp.headR c vr ≠ 0) :
    Calls Try.prog 68 #[.agg (tcells 10 b i f tx (.slice ab nb cb) rf (.slice al nl cl) (.slice af nf cf) c vr), .int .i64 p, .int .i64 n] w fun e w' => e = .returned (.int .i64 (Sp.headR c vr)) ∧ Below w.heap.size w w' := by
  unfold tcells
  obtain ⟨a1, a2, a3, a4⟩ := Sp.ent_zero h
  clear h a1 a2
  cases hn : Sp.isNm c with
  | false =>
    have H : Hid (Sp.headR c vr = 8) := by show _ = _; simp [Sp.headR, hn]
    clear hh
    go_enter Try.func68, Try.ntmps68
    go_wp2_with (go_at_call 115; refine (Name_any _ _ hs).mono ?_; rintro e w' ⟨rfl, rfl⟩)
    go_ret
    exact ⟨ret_int H.out.symm, (Below.refl _ _).alloc (Nat.le_refl _) _⟩
  | true =>
    by_cases h1 : vr < 1
    · have H : Hid (Sp.headR c vr = 1) := by show _ = _; simp [Sp.headR, hn, h1]
      clear hh
      go_enter Try.func68, Try.ntmps68
      go_wp2_with (go_at_call 115; refine (Name_any _ _ hs).mono ?_; rintro e w' ⟨rfl, rfl⟩)
      go_ret
      exact ⟨ret_int H.out.symm, (Below.refl _ _).alloc (Nat.le_refl _) _⟩
    · by_cases h2 : 1000 < vr
      · have H : Hid (Sp.headR c vr = 1) := by show _ = _; simp [Sp.headR, hn, h2]
        clear hh
        go_enter Try.func68, Try.ntmps68
        go_wp2_with (go_at_call 115; refine (Name_any _ _ hs).mono ?_; rintro e w' ⟨rfl, rfl⟩)
        go_ret
        exact ⟨ret_int H.out.symm, (Below.refl _ _).alloc (Nat.le_refl _) _⟩
      · exact absurd (by simp [Sp.headR, hn, h1, h2]) hh
end
end Go.Proofs.Ytkomcebknllaiaa

/- tenonref01.own at dicts and records: the fields' number and names. -/
namespace Go.Proofs.Ytkomcebknllaiaa
open Go.RowKit

theorem leS_empty {n : ByteArray} (h : Sp.isNm n = true) : Sp.leS n ByteArray.empty = false := by
  have h1 := isNm_len h
  have h2 : n.toList ≠ [] := by
    have := toList_ne (s := n) (by omega)
    intro e; rw [e] at this; simp at this
  unfold Sp.leS
  have he : ByteArray.empty.toList = [] := by rw [ByteArray.toList_eq]; rfl
  rw [he]
  cases hl : n.toList with
  | nil => exact absurd hl h2
  | cons x l => rfl

/-- what the loop over the fields' names carries: behind j fields the rest is l, the name ahead is s -/
def NmLoop (w : World) (B : Nat → Prop) (fs : TmF) (af : Option Addr) (j : Nat) (l : TmF) (s : ByteArray) : Prop :=
  l.len + j = fs.len ∧ l.In w B af j ∧ Sp.named ByteArray.empty fs.names = Sp.named s l.names ∧ (j = 0 → s = ByteArray.empty) ∧ (0 < j → ∃ g o, af = some ⟨g, o, none⟩ ∧ B g ∧ w.cell? ⟨g, o + (j - 1) * 12, none⟩ = some (.string s))

section
variable (k : Int) (b : Bool) (i : Int) (f : Nat) (tx : ByteArray) (ab : Option Addr) (nb cb : Nat) (rf : Int) (al : Option Addr) (nl cl : Nat) (af : Option Addr) (cf : Nat) (c : ByteArray) (vr p n : Int) (w : World)
set_option maxRecDepth 100000 in
set_option maxHeartbeats 2000000 in
theorem own_fields (hk : k = 9 ∨ (k = 10 ∧ Sp.headR c vr = 0)) (h : Sp.ent k p n = 0) (hs : c.size ≤ maxLen) (B : Nat → Prop) (hB : Sub B w) (fs : TmF) (hf : fs.In w B af 0) (hlen : fs.len ≤ 140737488355328) :
    Calls Try.prog 68 #[.agg (tcells k b i f tx (.slice ab nb cb) rf (.slice al nl cl) (.slice af fs.len cf) c vr), .int .i64 p, .int .i64 n] w fun e w' => e = .returned (.int .i64 (Sp.fieldsR fs.names)) ∧ Below w.heap.size w w' := by
  unfold tcells
  obtain ⟨_, _, a3, a4⟩ := Sp.ent_zero h
  have hk' : k = 9 ∨ (k = 10 ∧ Sp.isNm c = true ∧ 1 ≤ vr ∧ vr ≤ 1000) := by
    rcases hk with hk | ⟨hk, hh⟩
    · exact .inl hk
    · refine .inr ⟨hk, ?_⟩
      unfold Sp.headR at hh
      split at hh
      · omega
      · split at hh
        · omega
        · exact ⟨by simpa using ‹¬ Sp.isNm c = false›, by omega, by omega⟩
  clear hk h
  by_cases hl : 4096 < fs.len
  · have H : Hid (Sp.fieldsR fs.names = 2) := by show _ = _; unfold Sp.fieldsR; rw [if_pos (by rw [TmF.names_len]; exact hl)]
    clear hf
    rcases hk' with rfl | ⟨rfl, hnm, hv0, hv1⟩
    all_goals
      go_enter Try.func68, Try.ntmps68
      go_wp2_with (go_at_call 115; refine (Name_any _ _ hs).mono ?_; rintro e w' ⟨rfl, rfl⟩)
      go_ret
      exact ⟨ret_int H.out.symm, (Below.refl _ _).alloc (Nat.le_refl _) _⟩
  · have HS : Hid (NmLoop w B fs af 0 fs ByteArray.empty) := ⟨rfl, hf, rfl, fun _ => rfl, fun h => absurd h (by omega)⟩
    clear hf
    rcases hk' with rfl | ⟨rfl, hnm, hv0, hv1⟩
    all_goals
      go_enter Try.func68, Try.ntmps68
      go_wp2_with (go_at_call 115; refine (Name_any _ _ hs).mono ?_; rintro e w' ⟨rfl, rfl⟩)
      go_loopw [7] (fun x wr => ∃ (j : Nat) (l : TmF) (s : ByteArray), x = .int .i64 j ∧ Hid (NmLoop w B fs af j l s) ∧ j ≤ fs.len ∧ wr.cell? ⟨w.heap.size, 8, none⟩ = some (.slice af fs.len cf) ∧ Hid (Below w.heap.size w wr)) (fun x _ => fs.len - (intOf x).toNat)
      case atStart => exact ⟨0, fs, _, rfl, HS, by omega, by simp, (Below.refl _ _).alloc (Nat.le_refl _) _⟩
      case round =>
        obtain ⟨j, l, s, rfl, HR, hj, hc8, HB⟩ := hrel
        cases l with
        | nil =>
          have h1 : fs.len ≤ j := by have := HR.out.1; simp [TmF.len] at this; omega
          have H : Hid (Sp.fieldsR fs.names = 0) := by
            show _ = _; unfold Sp.fieldsR; rw [if_neg (by rw [TmF.names_len]; exact hl), HR.out.2.2.1]; simp [TmF.names, Sp.named]
          go_wp2_with fail
          go_ret
          exact ⟨ret_int H.out.symm, HB.out⟩
        | cons nm t l =>
          obtain ⟨hlen', hin, hnamed, hz, hprev⟩ := HR.out
          simp only [TmF.In] at hin
          obtain ⟨g, o, cs, rfl, hgB, c0, hn0, _, _, hin'⟩ := hin
          have hg := hB _ hgB
          have hlt : j < fs.len := by simp [TmF.len] at hlen'; omega
          have d0 : wr.cell? ⟨g, o + j * 12, none⟩ = some (.string nm) := by rw [HB.out.cell (p := ⟨g, o + j * 12, none⟩) (by show g < _; omega)]; exact c0
          have hnl : nm.size ≤ maxLen := by unfold maxLen; omega
          have HN : Hid (Sp.isNm nm = true ∧ Sp.leS nm s = false → NmLoop w B fs (some ⟨g, o, none⟩) (j + 1) l nm) := fun ⟨a, b⟩ => ⟨by simp [TmF.len] at hlen'; omega, hin', by rw [hnamed]; simp [TmF.names, Sp.named, a, b], fun h => by omega, fun _ => ⟨g, o, rfl, hgB, by simpa using c0⟩⟩
          have H8 : Hid (Sp.isNm nm = false ∨ Sp.leS nm s = true → Sp.fieldsR fs.names = 8) := by
            intro hor; unfold Sp.fieldsR; rw [if_neg (by rw [TmF.names_len]; exact hl), hnamed]
            rcases hor with a | a <;> simp [TmF.names, Sp.named, a]
          have HZ : Hid (j = 0 → s = ByteArray.empty) := hz
          have HP : Hid (0 < j → wr.cell? ⟨g, o + (j - 1) * 12, none⟩ = some (.string s)) := by
            intro hj0; obtain ⟨g', o', e, _, hc⟩ := hprev hj0
            simp only [Option.some.injEq, Addr.mk.injEq, and_true] at e
            obtain ⟨rfl, rfl⟩ := e
            rw [HB.out.cell (p := ⟨g, o + (j - 1) * 12, none⟩) (by show g < _; omega)]; exact hc
          clear hlen' hin' hnamed hz hprev c0 HR
          cases hnm' : Sp.isNm nm with
          | false =>
            have H := H8.out (.inl hnm')
            have H : Hid _ := H
            go_wp2_with fail
            go_quiet ((go_at_call 115; exact Calls.quiet_of_same ((Name_any _ _ hnl).mono (fun e w' h => ⟨h.1, h.2.symm⟩))))
            go_wp2_with fail
            go_ret
            exact ⟨ret_int H.out.symm, HB.out.trans (below_drewN' _ _ _)⟩
          | true =>
            by_cases hj0 : j = 0
            · have hs0 := HZ.out hj0
              have hle : Sp.leS nm s = false := by rw [hs0]; exact leS_empty hnm'
              have HN1 : Hid (NmLoop w B fs (some ⟨g, o, none⟩) (j + 1) l nm) := HN.out ⟨hnm', hle⟩
              have hd : decide (0 < (j : Int)) = false := by simp; omega
              have hd2 : decide (0 < j) = false := by simp; omega
              clear hs0 hle HN HP HZ H8 hj0
              go_wp2_with fail
              go_quiet ((go_at_call 115; exact Calls.quiet_of_same ((Name_any _ _ hnl).mono (fun e w' h => ⟨h.1, h.2.symm⟩))))
              go_wp2_with fail
              go_roundw
              case rel => exact ⟨j + 1, l, nm, by go_num, HN1, by omega, by simpa using hc8, HB.out.trans (below_drewN' _ _ _)⟩
              case measure => simp [intOf]; omega
            · have hp := HP.out (by omega)
              have hd : decide (0 < (j : Int)) = true := by simp; omega
              have hd2 : decide (0 < j) = true := by simp; omega
              have hd3 : ((j : Int) - 1).toNat = j - 1 := by omega
              have hd4 : 0 ≤ (j : Int) - 1 ∧ (j : Int) - 1 < fs.len := by omega
              cases hle : Sp.leS nm s with
              | true =>
                have H := H8.out (.inr hle)
                have H : Hid _ := H
                unfold Sp.leS at hle
                go_wp2_with fail
                go_quiet ((go_at_call 115; exact Calls.quiet_of_same ((Name_any _ _ hnl).mono (fun e w' h => ⟨h.1, h.2.symm⟩))))
                go_wp2_with fail
                go_ret
                exact ⟨ret_int H.out.symm, HB.out.trans (below_drewN' _ _ _)⟩
              | false =>
                have HN1 : Hid (NmLoop w B fs (some ⟨g, o, none⟩) (j + 1) l nm) := HN.out ⟨hnm', hle⟩
                unfold Sp.leS at hle
                go_wp2_with fail
                go_quiet ((go_at_call 115; exact Calls.quiet_of_same ((Name_any _ _ hnl).mono (fun e w' h => ⟨h.1, h.2.symm⟩))))
                go_wp2_with fail
                go_roundw
                case rel => exact ⟨j + 1, l, nm, by go_num, HN1, by omega, by simpa using hc8, HB.out.trans (below_drewN' _ _ _)⟩
                case measure => simp [intOf]; omega
end
end Go.Proofs.Ytkomcebknllaiaa

/- tenonref01.Parts: the terms that a term holds, as a slice of terms. -/
namespace Go.Proofs.Ytkomcebknllaiaa
open Go.RowKit

/-- the blocks of B, and those that are new in w' -/
def Up (B : Nat → Prop) (w w' : World) : Nat → Prop := fun k => B k ∨ Fr w w' k

def TPre (w : World) (B : Nat → Prop) : TmL → List (Array Value) → TmL → Prop
  | L, [], l => L = l
  | .cons t L, cs :: r, l => t.In w B cs ∧ cs.size = 11 ∧ TPre w B L r l
  | .nil, _ :: _, _ => False
theorem TPre_nil {w : World} {B : Nat → Prop} (L l : TmL) : TPre w B L [] l ↔ L = l := by cases L <;> rfl
theorem TPre.snoc {w : World} {B : Nat → Prop} : (L : TmL) → ∀ xs t l cs, TPre w B L xs (.cons t l) → t.In w B cs → cs.size = 11 → TPre w B L (xs ++ [cs]) l
  | L, [], t, l, cs, h, hx, hz => by
    obtain rfl := (TPre_nil _ _).1 h
    simp only [List.nil_append, TPre]
    exact ⟨hx, hz, trivial⟩
  | .nil, y :: ys, t, l, x, h, hx, hz => by simp [TPre] at h
  | .cons u L, y :: ys, t, l, x, h, hx, hz => by
    simp only [List.cons_append, TPre] at h ⊢
    exact ⟨h.1, h.2.1, TPre.snoc L ys t l x h.2.2 hx hz⟩
theorem TPre.done {w w' : World} {B B' : Nat → Prop} (hs : Same B w w') (hB : ∀ k, B k → B' k) (g : Nat) (hg : B' g) : (L : TmL) → ∀ (xs : List (Array Value)) (j : Nat), TPre w B L xs .nil → (∀ i x, (xs.flatMap (·.toList))[i]? = some x → w'.cell? ⟨g, j * 11 + i, none⟩ = some x) → L.In w' B' (some ⟨g, 0, none⟩) j
  | .nil, _, _, _, _ => by simp [TmL.In]
  | .cons t L, [], j, h, _ => by simp [TPre] at h
  | .cons t L, cs :: xs, j, h, hc => by
    simp only [TPre, TmL.In] at h ⊢
    obtain ⟨h1, h2, h3⟩ := h
    refine ⟨g, 0, cs, rfl, hg, ?_, t.In_same hs hB cs h1, TPre.done hs hB g hg L xs (j + 1) h3 ?_⟩
    · intro x hx
      have hx' : x < cs.size := by omega
      rw [Array.getElem?_eq_getElem hx']
      have := hc x cs[x] (by simp only [List.flatMap_cons]; rw [List.getElem?_append_left (by simpa using hx')]; simp)
      simpa using this
    · intro i x hi
      have := hc (i + 11) x (by simp only [List.flatMap_cons]; rw [List.getElem?_append_right (by simp; omega)]; simpa [h2] using hi)
      rw [show (j + 1) * 11 + i = j * 11 + (i + 11) by omega]; exact this

def Tm.parts : Tm → TmL
  | .mk k _ _ _ _ _ _ l fs _ _ => if k = 8 then l else if k = 9 ∨ k = 10 then fs.vals else .nil

/-- what the loop of Parts carries: behind j entries the rest is l; the terms lie in the row of block g -/
structure PL (L : TmF) (w : World) (B : Nat → Prop) (al : Option Addr) (wr : World) (j g cap : Nat) (xs : List (Array Value)) (l : TmF) : Prop where
  len : l.len + j = L.len
  src : l.In w B al j
  own : wr.ownsRow (w.heap.size + 1) 29 11 (.slice (some ⟨g, 0, none⟩) j cap) j (xs.flatMap (·.toList))
  pre : TPre w B L.vals xs l.vals
  lt : w.heap.size + 1 ≤ g ∧ g < wr.heap.size
  bel : Below w.heap.size w wr

theorem PL.step {L : TmF} {w : World} {B : Nat → Prop} {al : Option Addr} {wr : World} {j g cap : Nat} {xs : List (Array Value)} {n : ByteArray} {t : Tm} {l : TmF} (h : PL L w B al wr j g cap xs (.cons n t l)) {cs : Array Value} (ht : t.In w B cs) (hz : cs.size = 11) {w3 : World} {o : Obj} {g' cap' : Nat}
    (ho : w3.ownsRow (w.heap.size + 1) 29 11 (.slice (some ⟨g', 0, none⟩) (j + 1) cap') (j + 1) (xs.flatMap (·.toList) ++ cs.toList)) (hg : (wr.alloc o).grownBy w3 (some g)) :
    PL L w B al w3 (j + 1) g' cap' (xs ++ [cs]) l := by
  have hsrc := h.src
  simp only [TmF.In] at hsrc
  obtain ⟨_, _, _, _, _, _, _, _, _, hl⟩ := hsrc
  refine ⟨?_, hl, ?_, TPre.snoc _ _ t _ cs h.pre ht hz, ho.lt g' rfl, ?_⟩
  · have := h.len; simp [TmF.len] at this; omega
  · rw [List.flatMap_append]; simpa using ho
  · exact (h.bel.alloc h.bel.size _).grown hg (by have := h.bel.size; simp; omega) (fun k e => by injection e with e; have := h.lt; omega)
theorem PL.done {L : TmF} {w : World} {B : Nat → Prop} {al : Option Addr} {wr : World} {j g cap : Nat} {xs : List (Array Value)} (h : PL L w B al wr j g cap xs .nil) (hB : Sub B w) : L.vals.In wr (Up B w wr) (some ⟨g, 0, none⟩) 0 := by
  refine TPre.done (hB.same h.bel) (fun _ hk => .inl hk) g (.inr ⟨by have := h.lt; omega, h.lt.2⟩) L.vals xs 0 h.pre ?_
  intro i x hi
  have := h.own.cells (g := g) rfl i x hi
  have e : (⟨g, 0, none⟩ : Addr).add i = ⟨g, 0 * 11 + i, none⟩ := by
    unfold Addr.add; split
    · rename_i h0; rw [h0]
    · simp
  rw [e] at this; exact this

theorem tcells_one (k : Int) (b : Bool) (i : Int) (f : Nat) (tx : ByteArray) (ab : Option Addr) (nb cb : Nat) (rf : Int) (al : Option Addr) (nl cl : Nat) (af : Option Addr) (nf cf : Nat) (c : ByteArray) (vr : Int) :
    ∀ u ∈ (tcells k b i f tx (.slice ab nb cb) rf (.slice al nl cl) (.slice af nf cf) c vr).toList, u.oneCell' = true := by
  intro u hu
  simp [tcells] at hu
  rcases hu with rfl | rfl | rfl | rfl | rfl | rfl | rfl | rfl | rfl | rfl | rfl <;> rfl

theorem block_cells {w : World} {g : Nat} {cs : Array Value} {e : TypeId} (h : w.heap[g]? = some (.cells cs e (0, 0))) : ∀ j u, cs.toList[j]? = some u → w.cell? ((⟨g, 0, none⟩ : Addr).add j) = some u := by
  intro j u hj
  have e : (⟨g, 0, none⟩ : Addr).add j = ⟨g, j, none⟩ := by
    unfold Addr.add; split
    · rename_i h0; rw [h0]
    · simp
  rw [e, cell_of_row w g j cs _ (0, 0) h]
  simpa using hj

set_option maxRecDepth 100000 in
set_option maxHeartbeats 1000000 in
theorem parts_fields (k : Int) (hk : k = 9 ∨ k = 10) (b : Bool) (i : Int) (f : Nat) (tx : ByteArray) (vb : Value) (rf : Int) (vl : Value) (af : Option Addr) (L : TmF) (cf : Nat) (c : ByteArray) (vr : Int) (w : World) (B : Nat → Prop) (hB : Sub B w) (hL : L.In w B af 0) (hlen : L.len * 168 ≤ 140737488355328) :
    Calls Try.prog 69 #[.agg (tcells k b i f tx vb rf vl (.slice af L.len cf) c vr)] w fun e w' => ∃ a cap, e = .returned (.slice a L.vals.len cap) ∧ Below w.heap.size w w' ∧ L.vals.In w' (Up B w w') a 0 := by
  obtain ⟨i0, hi, hz0, hz1, hz2⟩ := info_parts Try.infoT
  have H0 : Hid (∀ o, PL L w B af ((w.alloc o).alloc (.cells #[] 29)) 0 (w.heap.size + 1) 0 [] L) := fun o =>
    ⟨rfl, hL, ⟨rfl, .inr ⟨w.heap.size + 1, 0, #[], rfl, Nat.le_refl _, by simpa using heap_alloc_new (w.alloc o) (.cells #[] 29), Nat.le_refl _, by simp [maxLen], rfl, rfl⟩⟩, (TPre_nil _ _).2 rfl, by simp, ((Below.refl _ _).alloc (Nat.le_refl _) _).alloc (by simp) _⟩
  clear hL
  unfold tcells
  rcases hk with rfl | rfl
  all_goals
    go_enter Try.func69, Try.ntmps69
    go_wp2_with fail
    go_loopw [3, 4] (fun v x wr => ∃ (j g cap : Nat) (xs : List (Array Value)) (l : TmF), v = .slice (some ⟨g, 0, none⟩) j cap ∧ x = .int .i64 j ∧ j ≤ L.len ∧ wr.cell? ⟨w.heap.size, 8, none⟩ = some (.slice af L.len cf) ∧ Hid (PL L w B af wr j g cap xs l)) (fun _ x _ => L.len - (intOf x).toNat)
    case atStart => exact ⟨0, w.heap.size + 1, 0, [], L, rfl, rfl, by omega, by simp, H0.out _⟩
    case round =>
      obtain ⟨j, g, cap, xs, l, rfl, rfl, hj, c8, HR⟩ := hrel
      cases l with
      | nil =>
        have hjl : L.len ≤ j := by have := HR.out.len; simp [TmF.len] at this; omega
        go_wp2_with fail
        go_ret
        have e : j = L.len := by omega
        rw [e, ← TmF.vals_len]
        exact ⟨_, _, rfl, HR.out.bel, HR.out.done hB⟩
      | cons nm t l =>
        have hsrc := HR.out.src
        simp only [TmF.In] at hsrc
        obtain ⟨g1, o1, cs, rfl, hg1, _, _, hc, ht, _⟩ := hsrc
        have hg1 := hB _ hg1
        have hlt : j < L.len := by have := HR.out.len; simp [TmF.len] at this; omega
        have hw0 := HR.out.bel
        have hgl := HR.out.lt
        cases t with
        | mk k b' i' f' tx' by' rf' l' fs' c' vr' =>
          have ht' := ht
          simp only [Tm.In] at ht'
          obtain ⟨ab', cb', al', cl', af', cf', rfl, _⟩ := ht'
          obtain ⟨e0, e1, e2, e3, e4, e5, e6, e7, e8, e9, e10⟩ := eleven (w := wr) (g := g1) (o := o1 + j * 12 + 1) (fun x hx => by rw [hw0.cell (p := ⟨g1, o1 + j * 12 + 1 + x, none⟩) (by show g1 < _; omega)]; exact hc x hx)
          have HB0 : Hid (Below w.heap.size w wr) := hw0
          have hszr := hw0.size
          have HT : Hid (Tm.In w B (.mk k b' i' f' tx' by' rf' l' fs' c' vr') (tcells k b' i' f' tx' (.slice ab' by'.size cb') rf' (.slice al' l'.len cl') (.slice af' fs'.len cf') c' vr')) := ht
          clear hw0 hc ht
          go_wp2_with (at_builtin; refine wpList_app _ rfl _ _ 26 rfl (w.heap.size + 1) 29 i0 _ 11 152 Try.undT hi hz0 hz1 hz2 rfl (by decide) _ _ (xs.flatMap (·.toList)) rfl (HR.out.own.alloc _) ⟨wr.heap.size, 0, none⟩ 1 1 (tcells k b' i' f' tx' (.slice ab' by'.size cb') rf' (.slice al' l'.len cl') (.slice af' fs'.len cf') c' vr').toList rfl rfl (block_cells (heap_alloc_new wr _)) (tcells_one _ _ _ _ _ _ _ _ _ _ _ _ _ _ _ _ _) (by decide) (by unfold maxLen; omega) (by omega) (by simp; omega) ?_; intro g' cap' w3 hown' hgrow hor)
          have HN := HR.out.step HT.out rfl hown' hgrow
          have c8' : w3.cell? ⟨w.heap.size, 8, none⟩ = some (.slice (some ⟨g1, o1, none⟩) L.len cf) := (app_kept (g := g) (Below.refl _ _) hgrow (p := ⟨w.heap.size, 8, none⟩) (by show w.heap.size < _; omega) (by show w.heap.size ≠ _; omega)).trans c8
          go_roundw
          case rel => exact ⟨j + 1, g', cap', _, l, rfl, by go_num, by omega, c8', HN⟩
          case measure => simp [intOf]; omega

set_option maxRecDepth 100000 in
set_option maxHeartbeats 400000 in
theorem parts_list (b : Bool) (i : Int) (f : Nat) (tx : ByteArray) (vb : Value) (rf : Int) (al : Option Addr) (nl cl : Nat) (vf : Value) (c : ByteArray) (vr : Int) (w : World) :
    Calls Try.prog 69 #[.agg (tcells 8 b i f tx vb rf (.slice al nl cl) vf c vr)] w fun e w' => e = .returned (.slice al nl cl) ∧ Below w.heap.size w w' := by
  unfold tcells
  go_enter Try.func69, Try.ntmps69
  go_wp2_with fail
  go_ret
  exact ⟨rfl, (Below.refl _ _).alloc (Nat.le_refl _) _⟩
set_option maxRecDepth 100000 in
set_option maxHeartbeats 400000 in
theorem parts_none (k : Int) (h8 : k ≠ 8) (h9 : k ≠ 9) (h10 : k ≠ 10) (b : Bool) (i : Int) (f : Nat) (tx : ByteArray) (vb : Value) (rf : Int) (vl vf : Value) (c : ByteArray) (vr : Int) (w : World) :
    Calls Try.prog 69 #[.agg (tcells k b i f tx vb rf vl vf c vr)] w fun e w' => ∃ a cap, e = .returned (.slice a 0 cap) ∧ Below w.heap.size w w' := by
  have b8 : (k == 8) = false := by simp [h8]
  have b9 : (k == 9) = false := by simp [h9]
  have b10 : (k == 10) = false := by simp [h10]
  clear h8 h9 h10
  unfold tcells
  go_enter Try.func69, Try.ntmps69
  go_wp2_with fail
  go_ret
  exact ⟨_, _, rfl, ((Below.refl _ _).alloc (Nat.le_refl _) _).alloc (by simp) _⟩

/-- Parts at every term -/
theorem parts_any (t : Tm) (cs : Array Value) (B : Nat → Prop) (w : World) (h : t.In w B cs) (hB : Sub B w) :
    Calls Try.prog 69 #[.agg cs] w fun e w' => ∃ a cap, e = .returned (.slice a t.parts.len cap) ∧ Below w.heap.size w w' ∧ t.parts.In w' (Up B w w') a 0 ∧ t.parts.len ≤ 140737488355328 := by
  cases t with
  | mk k b i f tx by' rf l fs c vr =>
    simp only [Tm.In] at h
    obtain ⟨ab, cb, al, cl, af, cf, rfl, hbd, _, hl, hfs⟩ := h
    by_cases h8 : k = 8
    · subst h8
      have e : Tm.parts (.mk 8 b i f tx by' rf l fs c vr) = l := by simp [Tm.parts]
      rw [e]
      refine (parts_list b i f tx _ rf al _ cl _ c vr w).mono ?_
      rintro e w' ⟨rfl, hb⟩
      exact ⟨al, cl, rfl, hb, l.In_same (hB.same hb) (fun _ hk => .inl hk) al 0 hl, by have := hbd.nl; omega⟩
    · by_cases h9 : k = 9 ∨ k = 10
      · have e : Tm.parts (.mk k b i f tx by' rf l fs c vr) = fs.vals := by simp [Tm.parts, h8, h9]
        rw [e]
        refine (parts_fields k h9 b i f tx _ rf _ af fs cf c vr w B hB hfs hbd.nf).mono ?_
        rintro e w' ⟨a, cap, rfl, hb, hv⟩
        exact ⟨a, cap, rfl, hb, hv, by rw [TmF.vals_len]; have := hbd.nf; omega⟩
      · have e : Tm.parts (.mk k b i f tx by' rf l fs c vr) = .nil := by simp [Tm.parts, h8, h9]
        rw [e]
        refine (parts_none k h8 (by omega) (by omega) b i f tx _ rf _ _ c vr w).mono ?_
        rintro e w' ⟨a, cap, rfl, hb⟩
        exact ⟨a, cap, rfl, hb, by simp [TmL.In], by simp [TmL.len]⟩

/-- own at every term -/
theorem own_any (t : Tm) (cs : Array Value) (B : Nat → Prop) (p n : Int) (w : World) (h : t.In w B cs) (hB : Sub B w) :
    Calls Try.prog 68 #[.agg cs, .int .i64 p, .int .i64 n] w fun e w' => e = .returned (.int .i64 (t.own p n)) ∧ Below w.heap.size w w' := by
  cases t with
  | mk k b i f tx by' rf l fs c vr =>
    simp only [Tm.In] at h
    obtain ⟨ab, cb, al, cl, af, cf, rfl, hbd, _, hl, hfs⟩ := h
    have hcl : c.size ≤ maxLen := by unfold maxLen; have := hbd.c; omega
    by_cases he : Sp.ent k p n ≠ 0
    · have e : Tm.own (.mk k b i f tx by' rf l fs c vr) p n = Sp.ent k p n := by simp only [Tm.own]; rw [if_pos he]
      rw [e]; exact own_ent k b i f tx ab _ cb rf al _ cl af _ cf c vr p n w he
    have he := Decidable.not_not.1 he
    by_cases h5 : k = 5
    · subst h5
      have e : Tm.own (.mk 5 b i f tx by' rf l fs c vr) p n = Sp.len tx.size 65536 := by simp [Tm.own, he]
      rw [e]; exact own_5 b i f tx ab _ cb rf al _ cl af _ cf c vr p n w he
    by_cases h6 : k = 6
    · subst h6
      have e : Tm.own (.mk 6 b i f tx by' rf l fs c vr) p n = Sp.len by'.size 65536 := by simp [Tm.own, he]
      rw [e]; exact own_6 b i f tx ab _ cb rf al _ cl af _ cf c vr p n w he
    by_cases h8 : k = 8
    · subst h8
      have e : Tm.own (.mk 8 b i f tx by' rf l fs c vr) p n = Sp.len l.len 4096 := by simp [Tm.own, he]
      rw [e]; exact own_8 b i f tx ab _ cb rf al _ cl af _ cf c vr p n w he
    by_cases h9 : k = 9
    · subst h9
      have e : Tm.own (.mk 9 b i f tx by' rf l fs c vr) p n = Sp.fieldsR fs.names := by simp [Tm.own, he]
      rw [e]; exact own_fields 9 b i f tx ab _ cb rf al _ cl af cf c vr p n w (.inl rfl) he hcl B hB fs hfs (by have := hbd.nf; omega)
    by_cases h10 : k = 10
    · subst h10
      by_cases hh : Sp.headR c vr ≠ 0
      · have e : Tm.own (.mk 10 b i f tx by' rf l fs c vr) p n = Sp.headR c vr := by simp [Tm.own, he, hh]
        rw [e]; exact own_10 b i f tx ab _ cb rf al _ cl af _ cf c vr p n w he hcl hh
      · have hh := Decidable.not_not.1 hh
        have e : Tm.own (.mk 10 b i f tx by' rf l fs c vr) p n = Sp.fieldsR fs.names := by simp [Tm.own, he, hh]
        rw [e]; exact own_fields 10 b i f tx ab _ cb rf al _ cl af cf c vr p n w (.inr ⟨rfl, hh⟩) he hcl B hB fs hfs (by have := hbd.nf; omega)
    have e : Tm.own (.mk k b i f tx by' rf l fs c vr) p n = 0 := by simp [Tm.own, he, h5, h6, h8, h9, h10]
    rw [e]; exact own_plain k b i f tx ab _ cb rf al _ cl af _ cf c vr p n w he h5 h6 h8 h9 h10

theorem TmL.wk_parts (t : Tm) (n p d : Int) (h : t.own p n = 0) : t.wk n p d = t.parts.wk (n + 1) (p + 1) (max d n) := by
  cases t with
  | mk k b i f tx by' rf l fs c vr =>
    rw [Tm.wk, if_neg (by simpa using h)]
    by_cases h8 : k = 8
    · simp [Tm.parts, h8]
    · by_cases h9 : k = 9 ∨ k = 10
      · simp [Tm.parts, h8, h9, TmF.wk_vals]
      · simp [Tm.parts, h8, h9, TmL.wk]
theorem TmF.vals_sz : (l : TmF) → l.vals.sz = l.sz
  | .nil => rfl
  | .cons _ t l => by simp [TmF.vals, TmL.sz, TmF.sz, TmF.vals_sz l]
theorem Tm.parts_sz (t : Tm) : t.parts.sz < t.sz := by
  cases t with
  | mk k b i f tx by' rf l fs c vr =>
    simp only [Tm.parts, Tm.sz]
    split
    · omega
    · split
      · rw [TmF.vals_sz]; omega
      · simp [TmL.sz]
theorem Tm.wk_own (t : Tm) (n p d : Int) (h : t.own p n ≠ 0) : t.wk n p d = ⟨p + 1, max d n, t.own p n⟩ := by
  cases t with
  | mk k b i f tx by' rf l fs c vr => rw [Tm.wk, if_pos h]
end Go.Proofs.Ytkomcebknllaiaa
