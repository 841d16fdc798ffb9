/- tenonref02.breaks. -/
import Derived.Test.YtnndlffidifddaaGreatDoorK11
import Derived.Test.YtnndlffidifddaaGreatDoorK4
import Derived.Test.YtnndlffidifddaaGreatDoorK2
import Derived.Test.YtnndlffidifddaaGreatDoorK5
namespace Go.Proofs.YtnndlffidifddaaGreatDoor
open Go.RowKit

/-- a line feed and blanks, or nothing -/
def Sp.brk (l : Bool) (d : Nat) : List UInt8 := if l then 10 :: List.replicate (2 * d) 32 else []
theorem Sp.rep2 (d : Nat) : (10 : UInt8) :: List.replicate (2 * (d + 1)) 32 = 10 :: List.replicate (2 * d) 32 ++ [32, 32] := by
  rw [show 2 * (d + 1) = 2 * d + 2 by omega, ← List.replicate_append_replicate]; rfl

set_option maxRecDepth 100000 in
set_option maxHeartbeats 2000000 in
theorem breaks_any (l : Bool) (d : Nat) (w : World) (hd : d ≤ 1000000) :
    Calls Tryz.prog 35 #[.bool l, .int .i64 (d : Int)] w fun e w' => ∃ (a : Option Addr) (m cap : Nat), e = .returned (.slice a m cap) ∧ Byts w' w.heap.size a m cap (Sp.brk l d) ∧ Below w.heap.size w w' := by
  obtain ⟨i0, hi, hz0, hz1, hz2⟩ := info_parts Tryz.infoB
  cases l with
  | false =>
    go_enter Tryz.func35, Tryz.ntmps35
    go_wp2_with fail
    go_ret
    exact ⟨none, 0, 0, rfl, ⟨rfl, rfl, .inl ⟨rfl, rfl⟩⟩, Below.refl _ _⟩
  | true =>
    go_enter Tryz.func35, Tryz.ntmps35
    go_wp2_with fail
    go_loopw [5, 6] (fun u i wr => ∃ (k m' : Nat) (a' : Option Addr) (p' : Nat), k ≤ d ∧ i = .int .i64 (k : Int) ∧ u = .slice a' m' p' ∧ Hid (m' = 1 + 2 * k) ∧ Hid (Byts wr w.heap.size a' m' p' (10 :: List.replicate (2 * k) 32)) ∧ Hid (Below w.heap.size w wr)) (fun _ i _ => d - (intOf i).toNat)
    case atStart =>
      refine ⟨0, 1, _, 1, by omega, rfl, rfl, (show _ = _ by omega), ?_, (Below.refl _ _).alloc (Nat.le_refl _) _⟩
      exact ⟨rfl, rfl, .inr ⟨w.heap.size, 1, #[.int .u8 10], rfl, Nat.le_refl _, heap_alloc_new w _, Nat.le_refl _, by simp [maxLen], rfl, rfl⟩⟩
    case round =>
      obtain ⟨k, m', a', p', hk, rfl, rfl, HM, HN, HB⟩ := hrel
      have hm1 : m' ≤ 2000001 := by have := HM.out; omega
      by_cases hlt : k < d
      · have HX : Hid ((10 : UInt8) :: List.replicate (2 * (k + 1)) 32 = 10 :: List.replicate (2 * k) 32 ++ [32, 32]) := Sp.rep2 k
        go_wp2_with (at_builtin; refine wpList_app _ rfl _ _ 23 rfl w.heap.size 5 i0 (.int .u8 0) 1 1 Tryz.undB hi hz0 hz1 hz2 rfl (by decide) _ m' (Sp.u8c (10 :: List.replicate (2 * k) 32)) rfl (HN.out.2.alloc _) ⟨wr.heap.size, 0, none⟩ 2 2 (Sp.u8c [32, 32]) rfl rfl (bytes_new wr [32, 32] rfl rfl) (u8c_one _) (by decide) (by unfold maxLen; omega) (by omega) (by have := HB.out.size; simp; omega) ?_; intro g5 p5 w5 hown hgrow hor; have HB5 : Hid (Below w.heap.size w w5) := (HB.out.alloc HB.out.size _).grown hgrow (by have := HB.out.size; simp; omega) (fun q hq => own_ge HN.out.2 hq); have HN5 : Hid (Byts w5 w.heap.size (some ⟨g5, 0, none⟩) (m' + 2) p5 (10 :: List.replicate (2 * k) 32 ++ [32, 32])) := ⟨by rw [List.length_append, ← HN.out.1]; rfl, by rw [u8c_app]; exact hown⟩; clear hown hgrow hor)
        go_roundw
        case rel => exact ⟨k + 1, m' + 2, _, p5, by omega, by go_num, rfl, (by have := HM.out; show _ = _; omega), (by show Byts _ _ _ _ _ _; rw [HX.out]; exact HN5.out), HB5⟩
        case measure => simp [intOf]; omega
      · obtain rfl : k = d := by omega
        go_wp2_with fail
        go_ret
        exact ⟨a', m', p', rfl, HN.out, HB.out⟩
end Go.Proofs.YtnndlffidifddaaGreatDoor

/- The Go function tenonref01.Name tells whether a text is a name. -/
namespace Go.Proofs.YtnndlffidifddaaGreatDoor
open Go.RowKit

theorem ch_eq (k : Nat) (c : Int) : Sp.ch k c = decide ((97 ≤ c ∧ c ≤ 122) ∨ (k ≠ 0 ∧ ((48 ≤ c ∧ c ≤ 57) ∨ c = 95))) := by
  rw [Bool.eq_iff_iff]; simp [Sp.ch, Sp.letter, Sp.digit]
theorem nmTo_c {s : ByteArray} {k : Nat} (h : Sp.nmTo s k = true) (hc : (97 ≤ Sp.byte s k ∧ Sp.byte s k ≤ 122) ∨ (k ≠ 0 ∧ ((48 ≤ Sp.byte s k ∧ Sp.byte s k ≤ 57) ∨ Sp.byte s k = 95))) : Sp.nmTo s (k + 1) = true := by
  rw [Sp.nmTo, h, ch_eq]; simp only [hc, decide_true, Bool.and_self]
theorem isNm_no {s : ByteArray} {k : Nat} (hk : k < s.size) (hc : ¬ ((97 ≤ Sp.byte s k ∧ Sp.byte s k ≤ 122) ∨ (k ≠ 0 ∧ ((48 ≤ Sp.byte s k ∧ Sp.byte s k ≤ 57) ∨ Sp.byte s k = 95)))) : Sp.isNm s = false :=
  isNm_bad s k hk (by rw [ch_eq]; simp only [hc, decide_false])

set_option maxRecDepth 100000 in
set_option maxHeartbeats 1000000 in
theorem Name_any (s : ByteArray) (w : World) (hs : s.size ≤ maxLen) :
    Calls Tryz.prog 78 #[.string s] w fun e w' => e = .returned (.bool (Sp.isNm s)) ∧ w = w' := by
  unfold maxLen at hs
  by_cases h0 : s.size = 0
  · have H : Hid (Sp.isNm s = false) := by show _ = _; simp [Sp.isNm]; omega
    go_enter Tryz.func78, Tryz.ntmps78
    go_wp2_with fail
    go_ret
    exact ⟨ret_bool H.out.symm, rfl⟩
  · by_cases h32 : 32 < s.size
    · have H : Hid (Sp.isNm s = false) := by show _ = _; simp [Sp.isNm]; omega
      go_enter Tryz.func78, Tryz.ntmps78
      go_wp2_with fail
      go_ret
      exact ⟨ret_bool H.out.symm, rfl⟩
    · go_enter Tryz.func78, Tryz.ntmps78
      go_wp2_with fail
      go_loop [3] (fun i => ∃ k : Nat, k ≤ s.size ∧ i = .int .i64 k ∧ Hid (Sp.nmTo s k = true)) (fun i => s.size - (intOf i).toNat)
      case atStart => exact ⟨0, by omega, rfl, rfl⟩
      case round =>
        obtain ⟨k, hk, rfl, HK⟩ := hrel
        by_cases hlt : k < s.size
        · have hbk := byte_bd s k
          have ek := byte_at s k hlt
          by_cases hgood : (97 ≤ Sp.byte s k ∧ Sp.byte s k ≤ 122) ∨ (k ≠ 0 ∧ ((48 ≤ Sp.byte s k ∧ Sp.byte s k ≤ 57) ∨ Sp.byte s k = 95))
          · have HK' : Hid (Sp.nmTo s (k + 1) = true) := nmTo_c HK.out hgood
            rcases hgood with ⟨ha, hb⟩ | ⟨hk0, ⟨ha, hb⟩ | h95⟩
            · go_wp2_with fail
              go_round
              case rel => exact ⟨k + 1, by omega, by go_num, HK'⟩
              case measure => simp [intOf]; omega
            · have h95' : (Sp.byte s k != 95) = true := by simp; omega
              have hk0' : ((k : Int) == 0) = false := by simp; omega
              go_wp2_with fail
              go_round
              case rel => exact ⟨k + 1, by omega, by go_num, HK'⟩
              case measure => simp [intOf]; omega
            · have h95' : (Sp.byte s k != 95) = false := by simp [h95]
              have hk0' : ((k : Int) == 0) = false := by simp; omega
              have h96 : Sp.byte s k < 97 := by omega
              clear h95
              go_wp2_with fail
              go_round
              case rel => exact ⟨k + 1, by omega, by go_num, HK'⟩
              case measure => simp [intOf]; omega
          · have H : Hid (Sp.isNm s = false) := isNm_no hlt hgood
            by_cases hk0 : k = 0
            · subst hk0
              by_cases h97 : Sp.byte s 0 < 97
              · clear hgood
                go_wp2_with fail
                go_ret
                exact ⟨ret_bool H.out.symm, rfl⟩
              · have h122 : decide (Sp.byte s 0 ≤ 122) = false := by simp; omega
                clear hgood
                go_wp2_with fail
                go_ret
                exact ⟨ret_bool H.out.symm, rfl⟩
            · have h95' : (Sp.byte s k != 95) = true := by simp; omega
              have hk0' : ((k : Int) == 0) = false := by simp; omega
              by_cases h48 : Sp.byte s k < 48
              · clear hgood
                go_wp2_with fail
                go_ret
                exact ⟨ret_bool H.out.symm, rfl⟩
              · have h57 : 57 < Sp.byte s k := by omega
                by_cases h97 : Sp.byte s k < 97
                · clear hgood
                  go_wp2_with fail
                  go_ret
                  exact ⟨ret_bool H.out.symm, rfl⟩
                · have h122 : decide (Sp.byte s k ≤ 122) = false := by simp; omega
                  clear hgood
                  go_wp2_with fail
                  go_ret
                  exact ⟨ret_bool H.out.symm, rfl⟩
        · go_wp2_with fail
          go_ret
          exact ⟨ret_bool (by rw [isNm_of s (by omega) (by omega), show s.size = k by omega]; exact HK.out.symm), rfl⟩
end Go.Proofs.YtnndlffidifddaaGreatDoor

/- tenonref01.own: what is wrong with a part by itself, as the plain mathematics says it. -/
namespace Go.Proofs.YtnndlffidifddaaGreatDoor
open Go.RowKit

section
variable (k : Int) (b : Bool) (i : Int) (f : Nat) (tx : ByteArray) (ab : Option Addr) (nb cb : Nat) (rf : Int) (al : Option Addr) (nl cl : Nat) (af : Option Addr) (nf cf : Nat) (c : ByteArray) (vr p n : Int) (w : World)
set_option maxRecDepth 100000 in
set_option maxHeartbeats 1000000 in
theorem own_ent (h : Sp.ent k p n ≠ 0) :
    Calls Tryz.prog 53 #[.agg (tcells k b i f tx (.slice ab nb cb) rf (.slice al nl cl) (.slice af nf cf) c vr), .int .i64 p, .int .i64 n] w fun e w' => e = .returned (.int .i64 (Sp.ent k p n)) ∧ Below w.heap.size w w' := by
  unfold tcells
  by_cases h11 : k = 11
  · have hk : (k == 11) = true := by simp [h11]
    have H : Hid (Sp.ent k p n = 7) := by show _ = _; simp [Sp.ent, h11]
    clear h h11
    go_enter Tryz.func53, Tryz.ntmps53
    go_wp2_with fail
    go_ret
    exact ⟨ret_int H.out.symm, (Below.refl _ _).alloc (Nat.le_refl _) _⟩
  · have hk : (k == 11) = false := by simp [h11]
    by_cases h1 : k < 1
    · have H : Hid (Sp.ent k p n = 6) := by show _ = _; simp [Sp.ent, h11, h1]
      clear h h11
      go_enter Tryz.func53, Tryz.ntmps53
      go_wp2_with fail
      go_ret
      exact ⟨ret_int H.out.symm, (Below.refl _ _).alloc (Nat.le_refl _) _⟩
    · by_cases h10 : 10 < k
      · have H : Hid (Sp.ent k p n = 6) := by show _ = _; simp [Sp.ent, h11, h10]
        clear h h11
        go_enter Tryz.func53, Tryz.ntmps53
        go_wp2_with fail
        go_ret
        exact ⟨ret_int H.out.symm, (Below.refl _ _).alloc (Nat.le_refl _) _⟩
      · by_cases hp : 16384 ≤ p
        · have H : Hid (Sp.ent k p n = 2) := by show _ = _; simp [Sp.ent, h11, h10, h1, hp]
          clear h h11
          go_enter Tryz.func53, Tryz.ntmps53
          go_wp2_with fail
          go_ret
          exact ⟨ret_int H.out.symm, (Below.refl _ _).alloc (Nat.le_refl _) _⟩
        · by_cases hn : 64 < n
          · have H : Hid (Sp.ent k p n = 2) := by show _ = _; simp [Sp.ent, h11, h10, h1, hn]
            clear h h11
            go_enter Tryz.func53, Tryz.ntmps53
            go_wp2_with fail
            go_ret
            exact ⟨ret_int H.out.symm, (Below.refl _ _).alloc (Nat.le_refl _) _⟩
          · exact absurd (by simp [Sp.ent, h11, h10, h1, hp, hn]) h

set_option maxRecDepth 100000 in
set_option maxHeartbeats 1000000 in
theorem own_plain (h : Sp.ent k p n = 0) (h5 : k ≠ 5) (h6 : k ≠ 6) (h8 : k ≠ 8) (h9 : k ≠ 9) (h10 : k ≠ 10) :
    Calls Tryz.prog 53 #[.agg (tcells k b i f tx (.slice ab nb cb) rf (.slice al nl cl) (.slice af nf cf) c vr), .int .i64 p, .int .i64 n] w fun e w' => e = .returned (.int .i64 0) ∧ Below w.heap.size w w' := by
  unfold tcells
  obtain ⟨a1, a2, a3, a4⟩ := Sp.ent_zero h
  have b11 : (k == 11) = false := by simp; omega
  have b10 : (k == 10) = false := by simp; omega
  have b5 : (k == 5) = false := by simp; omega
  have b6 : (k == 6) = false := by simp; omega
  have b8 : (k == 8) = false := by simp; omega
  have b9 : (k != 9) = true := by simp; omega
  have b10' : (k != 10) = true := by simp; omega
  clear h h5 h6 h8 h9 h10
  go_enter Tryz.func53, Tryz.ntmps53
  go_wp2_with fail
  go_ret
  exact ⟨rfl, (Below.refl _ _).alloc (Nat.le_refl _) _⟩

set_option maxRecDepth 100000 in
set_option maxHeartbeats 1000000 in
theorem own_5 (h : Sp.ent 5 p n = 0) :
    Calls Tryz.prog 53 #[.agg (tcells 5 b i f tx (.slice ab nb cb) rf (.slice al nl cl) (.slice af nf cf) c vr), .int .i64 p, .int .i64 n] w fun e w' => e = .returned (.int .i64 (Sp.len tx.size 65536)) ∧ Below w.heap.size w w' := by
  unfold tcells
  obtain ⟨a1, a2, a3, a4⟩ := Sp.ent_zero h
  clear h a1 a2
  by_cases hl : 65536 < tx.size
  · have H : Hid (Sp.len tx.size 65536 = 2) := by show _ = _; unfold Sp.len; rw [if_neg (by omega)]
    go_enter Tryz.func53, Tryz.ntmps53
    go_wp2_with fail
    go_ret
    exact ⟨ret_int H.out.symm, (Below.refl _ _).alloc (Nat.le_refl _) _⟩
  · have H : Hid (Sp.len tx.size 65536 = 0) := by show _ = _; unfold Sp.len; rw [if_pos (by omega)]
    have hl' : decide (65536 < (tx.size : Int)) = false := by simp; omega
    go_enter Tryz.func53, Tryz.ntmps53
    go_wp2_with fail
    go_ret
    exact ⟨ret_int H.out.symm, (Below.refl _ _).alloc (Nat.le_refl _) _⟩

set_option maxRecDepth 100000 in
set_option maxHeartbeats 1000000 in
theorem own_6 (h : Sp.ent 6 p n = 0) :
    Calls Tryz.prog 53 #[.agg (tcells 6 b i f tx (.slice ab nb cb) rf (.slice al nl cl) (.slice af nf cf) c vr), .int .i64 p, .int .i64 n] w fun e w' => e = .returned (.int .i64 (Sp.len nb 65536)) ∧ Below w.heap.size w w' := by
  unfold tcells
  obtain ⟨a1, a2, a3, a4⟩ := Sp.ent_zero h
  clear h a1 a2
  by_cases hl : 65536 < nb
  · have H : Hid (Sp.len nb 65536 = 2) := by show _ = _; unfold Sp.len; rw [if_neg (by omega)]
    go_enter Tryz.func53, Tryz.ntmps53
    go_wp2_with fail
    go_ret
    exact ⟨ret_int H.out.symm, (Below.refl _ _).alloc (Nat.le_refl _) _⟩
  · have H : Hid (Sp.len nb 65536 = 0) := by show _ = _; unfold Sp.len; rw [if_pos (by omega)]
    have hl' : decide (65536 < (nb : Int)) = false := by simp; omega
    go_enter Tryz.func53, Tryz.ntmps53
    go_wp2_with fail
    go_ret
    exact ⟨ret_int H.out.symm, (Below.refl _ _).alloc (Nat.le_refl _) _⟩

set_option maxRecDepth 100000 in
set_option maxHeartbeats 1000000 in
theorem own_8 (h : Sp.ent 8 p n = 0) :
    Calls Tryz.prog 53 #[.agg (tcells 8 b i f tx (.slice ab nb cb) rf (.slice al nl cl) (.slice af nf cf) c vr), .int .i64 p, .int .i64 n] w fun e w' => e = .returned (.int .i64 (Sp.len nl 4096)) ∧ Below w.heap.size w w' := by
  unfold tcells
  obtain ⟨a1, a2, a3, a4⟩ := Sp.ent_zero h
  clear h a1 a2
  by_cases hl : 4096 < nl
  · have H : Hid (Sp.len nl 4096 = 2) := by show _ = _; unfold Sp.len; rw [if_neg (by omega)]
    go_enter Tryz.func53, Tryz.ntmps53
    go_wp2_with fail
    go_ret
    exact ⟨ret_int H.out.symm, (Below.refl _ _).alloc (Nat.le_refl _) _⟩
  · have H : Hid (Sp.len nl 4096 = 0) := by show _ = _; unfold Sp.len; rw [if_pos (by omega)]
    have hl' : decide (4096 < (nl : Int)) = false := by simp; omega
    go_enter Tryz.func53, Tryz.ntmps53
    go_wp2_with fail
    go_ret
    exact ⟨ret_int H.out.symm, (Below.refl _ _).alloc (Nat.le_refl _) _⟩

set_option maxRecDepth 100000 in
set_option maxHeartbeats 1000000 in
theorem own_10 (h : Sp.ent 10 p n = 0) (hs : c.size ≤ maxLen) (hh : Sp.headR c vr ≠ 0) :
    Calls Tryz.prog 53 #[.agg (tcells 10 b i f tx (.slice ab nb cb) rf (.slice al nl cl) (.slice af nf cf) c vr), .int .i64 p, .int .i64 n] w fun e w' => e = .returned (.int .i64 (Sp.headR c vr)) ∧ Below w.heap.size w w' := by
  unfold tcells
  obtain ⟨a1, a2, a3, a4⟩ := Sp.ent_zero h
  clear h a1 a2
  cases hn : Sp.isNm c with
  | false =>
    have H : Hid (Sp.headR c vr = 8) := by show _ = _; simp [Sp.headR, hn]
    clear hh
    go_enter Tryz.func53, Tryz.ntmps53
    go_wp2_with (go_at_call 78; refine (Name_any _ _ hs).mono ?_; rintro e w' ⟨rfl, rfl⟩)
    go_ret
    exact ⟨ret_int H.out.symm, (Below.refl _ _).alloc (Nat.le_refl _) _⟩
  | true =>
    by_cases h1 : vr < 1
    · have H : Hid (Sp.headR c vr = 1) := by show _ = _; simp [Sp.headR, hn, h1]
      clear hh
      go_enter Tryz.func53, Tryz.ntmps53
      go_wp2_with (go_at_call 78; refine (Name_any _ _ hs).mono ?_; rintro e w' ⟨rfl, rfl⟩)
      go_ret
      exact ⟨ret_int H.out.symm, (Below.refl _ _).alloc (Nat.le_refl _) _⟩
    · by_cases h2 : 1000 < vr
      · have H : Hid (Sp.headR c vr = 1) := by show _ = _; simp [Sp.headR, hn, h2]
        clear hh
        go_enter Tryz.func53, Tryz.ntmps53
        go_wp2_with (go_at_call 78; refine (Name_any _ _ hs).mono ?_; rintro e w' ⟨rfl, rfl⟩)
        go_ret
        exact ⟨ret_int H.out.symm, (Below.refl _ _).alloc (Nat.le_refl _) _⟩
      · exact absurd (by simp [Sp.headR, hn, h1, h2]) hh
end
end Go.Proofs.YtnndlffidifddaaGreatDoor

/- tenonref01.own at dicts and records: the fields' number and names. -/
namespace Go.Proofs.YtnndlffidifddaaGreatDoor
open Go.RowKit

theorem leS_empty {n : ByteArray} (h : Sp.isNm n = true) : Sp.leS n ByteArray.empty = false := by
  have h1 := isNm_len h
  have h2 : n.toList ≠ [] := by
    have := toList_ne (s := n) (by omega)
    intro e; rw [e] at this; simp at this
  unfold Sp.leS
  have he : ByteArray.empty.toList = [] := by rw [ByteArray.toList_eq]; rfl
  rw [he]
  cases hl : n.toList with
  | nil => exact absurd hl h2
  | cons x l => rfl

/-- what the loop over the fields' names carries: behind j fields the rest is l, the name ahead is s -/
def NmLoop (w : World) (B : Nat → Prop) (fs : TmF) (af : Option Addr) (j : Nat) (l : TmF) (s : ByteArray) : Prop :=
  l.len + j = fs.len ∧ l.In w B af j ∧ Sp.named ByteArray.empty fs.names = Sp.named s l.names ∧ (j = 0 → s = ByteArray.empty) ∧ (0 < j → ∃ g o, af = some ⟨g, o, none⟩ ∧ B g ∧ w.cell? ⟨g, o + (j - 1) * 12, none⟩ = some (.string s))

section
variable (k : Int) (b : Bool) (i : Int) (f : Nat) (tx : ByteArray) (ab : Option Addr) (nb cb : Nat) (rf : Int) (al : Option Addr) (nl cl : Nat) (af : Option Addr) (cf : Nat) (c : ByteArray) (vr p n : Int) (w : World)
set_option maxRecDepth 100000 in
set_option maxHeartbeats 2000000 in
theorem own_fields (hk : k = 9 ∨ (k = 10 ∧ Sp.headR c vr = 0)) (h : Sp.ent k p n = 0) (hs : c.size ≤ maxLen) (B : Nat → Prop) (hB : Sub B w) (fs : TmF) (hf : fs.In w B af 0) (hlen : fs.len ≤ 140737488355328) :
    Calls Tryz.prog 53 #[.agg (tcells k b i f tx (.slice ab nb cb) rf (.slice al nl cl) (.slice af fs.len cf) c vr), .int .i64 p, .int .i64 n] w fun e w' => e = .returned (.int .i64 (Sp.fieldsR fs.names)) ∧ Below w.heap.size w w' := by
  unfold tcells
  obtain ⟨_, _, a3, a4⟩ := Sp.ent_zero h
  have hk' : k = 9 ∨ (k = 10 ∧ Sp.isNm c = true ∧ 1 ≤ vr ∧ vr ≤ 1000) := by
    rcases hk with hk | ⟨hk, hh⟩
    · exact .inl hk
    · refine .inr ⟨hk, ?_⟩
      unfold Sp.headR at hh
      split at hh
      · omega
      · split at hh
        · omega
        · exact ⟨by simpa using ‹¬ Sp.isNm c = false›, by omega, by omega⟩
  clear hk h
  by_cases hl : 4096 < fs.len
  · have H : Hid (Sp.fieldsR fs.names = 2) := by show _ = _; unfold Sp.fieldsR; rw [if_pos (by rw [TmF.names_len]; exact hl)]
    clear hf
    rcases hk' with rfl | ⟨rfl, hnm, hv0, hv1⟩
    all_goals
      go_enter Tryz.func53, Tryz.ntmps53
      go_wp2_with (go_at_call 78; refine (Name_any _ _ hs).mono ?_; rintro e w' ⟨rfl, rfl⟩)
      go_ret
      exact ⟨ret_int H.out.symm, (Below.refl _ _).alloc (Nat.le_refl _) _⟩
  · have HS : Hid (NmLoop w B fs af 0 fs ByteArray.empty) := ⟨rfl, hf, rfl, fun _ => rfl, fun h => absurd h (by omega)⟩
    clear hf
    rcases hk' with rfl | ⟨rfl, hnm, hv0, hv1⟩
    all_goals
      go_enter Tryz.func53, Tryz.ntmps53
      go_wp2_with (go_at_call 78; refine (Name_any _ _ hs).mono ?_; rintro e w' ⟨rfl, rfl⟩)
      go_loopw [7] (fun x wr => ∃ (j : Nat) (l : TmF) (s : ByteArray), x = .int .i64 j ∧ Hid (NmLoop w B fs af j l s) ∧ j ≤ fs.len ∧ wr.cell? ⟨w.heap.size, 8, none⟩ = some (.slice af fs.len cf) ∧ Hid (Below w.heap.size w wr)) (fun x _ => fs.len - (intOf x).toNat)
      case atStart => exact ⟨0, fs, _, rfl, HS, by omega, by simp, (Below.refl _ _).alloc (Nat.le_refl _) _⟩
      case round =>
        obtain ⟨j, l, s, rfl, HR, hj, hc8, HB⟩ := hrel
        cases l with
        | nil =>
          have h1 : fs.len ≤ j := by have := HR.out.1; simp [TmF.len] at this; omega
          have H : Hid (Sp.fieldsR fs.names = 0) := by
            show _ = _; unfold Sp.fieldsR; rw [if_neg (by rw [TmF.names_len]; exact hl), HR.out.2.2.1]; simp [TmF.names, Sp.named]
          go_wp2_with fail
          go_ret
          exact ⟨ret_int H.out.symm, HB.out⟩
        | cons nm t l =>
          obtain ⟨hlen', hin, hnamed, hz, hprev⟩ := HR.out
          simp only [TmF.In] at hin
          obtain ⟨g, o, cs, rfl, hgB, c0, hn0, _, _, hin'⟩ := hin
          have hg := hB _ hgB
          have hlt : j < fs.len := by simp [TmF.len] at hlen'; omega
          have d0 : wr.cell? ⟨g, o + j * 12, none⟩ = some (.string nm) := by rw [HB.out.cell (p := ⟨g, o + j * 12, none⟩) (by show g < _; omega)]; exact c0
          have hnl : nm.size ≤ maxLen := by unfold maxLen; omega
          have HN : Hid (Sp.isNm nm = true ∧ Sp.leS nm s = false → NmLoop w B fs (some ⟨g, o, none⟩) (j + 1) l nm) := fun ⟨a, b⟩ => ⟨by simp [TmF.len] at hlen'; omega, hin', by rw [hnamed]; simp [TmF.names, Sp.named, a, b], fun h => by omega, fun _ => ⟨g, o, rfl, hgB, by simpa using c0⟩⟩
          have H8 : Hid (Sp.isNm nm = false ∨ Sp.leS nm s = true → Sp.fieldsR fs.names = 8) := by
            intro hor; unfold Sp.fieldsR; rw [if_neg (by rw [TmF.names_len]; exact hl), hnamed]
            rcases hor with a | a <;> simp [TmF.names, Sp.named, a]
          have HZ : Hid (j = 0 → s = ByteArray.empty) := hz
          have HP : Hid (0 < j → wr.cell? ⟨g, o + (j - 1) * 12, none⟩ = some (.string s)) := by
            intro hj0; obtain ⟨g', o', e, _, hc⟩ := hprev hj0
            simp only [Option.some.injEq, Addr.mk.injEq, and_true] at e
            obtain ⟨rfl, rfl⟩ := e
            rw [HB.out.cell (p := ⟨g, o + (j - 1) * 12, none⟩) (by show g < _; omega)]; exact hc
          clear hlen' hin' hnamed hz hprev c0 HR
          cases hnm' : Sp.isNm nm with
          | false =>
            have H := H8.out (.inl hnm')
            have H : Hid _ := H
            go_wp2_with fail
            go_quiet ((go_at_call 78; exact Calls.quiet_of_same ((Name_any _ _ hnl).mono (fun e w' h => ⟨h.1, h.2.symm⟩))))
            go_wp2_with fail
            go_ret
            exact ⟨ret_int H.out.symm, HB.out.trans (below_drewN' _ _ _)⟩
          | true =>
            by_cases hj0 : j = 0
            · have hs0 := HZ.out hj0
              have hle : Sp.leS nm s = false := by rw [hs0]; exact leS_empty hnm'
              have HN1 : Hid (NmLoop w B fs (some ⟨g, o, none⟩) (j + 1) l nm) := HN.out ⟨hnm', hle⟩
              have hd : decide (0 < (j : Int)) = false := by simp; omega
              have hd2 : decide (0 < j) = false := by simp; omega
              clear hs0 hle HN HP HZ H8 hj0
              go_wp2_with fail
              go_quiet ((go_at_call 78; exact Calls.quiet_of_same ((Name_any _ _ hnl).mono (fun e w' h => ⟨h.1, h.2.symm⟩))))
              go_wp2_with fail
              go_roundw
              case rel => exact ⟨j + 1, l, nm, by go_num, HN1, by omega, by simpa using hc8, HB.out.trans (below_drewN' _ _ _)⟩
              case measure => simp [intOf]; omega
            · have hp := HP.out (by omega)
              have hd : decide (0 < (j : Int)) = true := by simp; omega
              have hd2 : decide (0 < j) = true := by simp; omega
              have hd3 : ((j : Int) - 1).toNat = j - 1 := by omega
              have hd4 : 0 ≤ (j : Int) - 1 ∧ (j : Int) - 1 < fs.len := by omega
              cases hle : Sp.leS nm s with
              | true =>
                have H := H8.out (.inr hle)
                have H : Hid _ := H
                unfold Sp.leS at hle
                go_wp2_with fail
                go_quiet ((go_at_call 78; exact Calls.quiet_of_same ((Name_any _ _ hnl).mono (fun e w' h => ⟨h.1, h.2.symm⟩))))
                go_wp2_with fail
                go_ret
                exact ⟨ret_int H.out.symm, HB.out.trans (below_drewN' _ _ _)⟩
              | false =>
                have HN1 : Hid (NmLoop w B fs (some ⟨g, o, none⟩) (j + 1) l nm) := HN.out ⟨hnm', hle⟩
                unfold Sp.leS at hle
                go_wp2_with fail
                go_quiet ((go_at_call 78; exact Calls.quiet_of_same ((Name_any _ _ hnl).mono (fun e w' h => ⟨h.1, h.2.symm⟩))))
                go_wp2_with fail
                go_roundw
                case rel => exact ⟨j + 1, l, nm, by go_num, HN1, by omega, by simpa using hc8, HB.out.trans (below_drewN' _ _ _)⟩
                case measure => simp [intOf]; omega
end
end Go.Proofs.YtnndlffidifddaaGreatDoor

