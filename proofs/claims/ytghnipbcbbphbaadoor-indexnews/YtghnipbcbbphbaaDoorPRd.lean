/- tenonref02.Reader.Run: runs of figures and of words. -/
import Derived.Test.YtghnipbcbbphbaaDoorPNum
namespace Go.Proofs.YtghnipbcbbphbaaDoor
open Go.RowKit

theorem sc_ne {w : World} {a b : Addr} {v : Value} (h : a ≠ b) : (w.setCell a v).cell? b = w.cell? b := World.cell?_setCell_other w a b v h
theorem sc_eq {w : World} {a : Addr} {u v : Value} (h : w.cell? a = some u) : (w.setCell a v).cell? a = some v := World.cell?_setCell_same w a v h
theorem below_drewN' (b : Nat) (w : World) (n : Nat) : Below b w (w.drewN n) := ⟨rfl, rfl, rfl, Nat.le_refl _, fun _ _ => rfl⟩

/-- a tenonref02.Reader: a text, and how far it is read -/
def Rdr2 (w : World) (b : Nat) (s : ByteArray) (i : Nat) : Prop := w.cell? ⟨b, 0, none⟩ = some (.string s) ∧ w.cell? ⟨b, 1, none⟩ = some (.int .i64 (i : Int)) ∧ w.frozen? ⟨b, 1, none⟩ = false
def rdAt (w : World) (b : Nat) : Nat := match w.cell? ⟨b, 1, none⟩ with | some v => (intOf v).toNat | none => 0
theorem Rdr2.at {w : World} {b : Nat} {s : ByteArray} {i : Nat} (h : Rdr2 w b s i) : rdAt w b = i := by
  unfold rdAt; rw [h.2.1]; simp [intOf]
theorem Rdr2.drew {w : World} {b : Nat} {s : ByteArray} {i : Nat} (h : Rdr2 w b s i) (n : Nat) : Rdr2 (w.drewN n) b s i := h
theorem Rdr2.set {w : World} {b : Nat} {s : ByteArray} {i : Nat} (h : Rdr2 w b s i) (j : Nat) : Rdr2 (w.setCell ⟨b, 1, none⟩ (.int .i64 (j : Int))) b s j :=
  ⟨by rw [sc_ne (by simp)]; exact h.1, sc_eq h.2.1, by simpa using h.2.2⟩
theorem Rdr2.on {w w' : World} {b : Nat} {s : ByteArray} {i : Nat} (h : Rdr2 w b s i) (hw : Below w.heap.size w w') : Rdr2 w' b s i := by
  have hlt : b < w.heap.size := World.block_lt_of_cell? _ _ h.1
  exact ⟨by rw [hw.cell (p := ⟨b, 0, none⟩) hlt]; exact h.1, by rw [hw.cell (p := ⟨b, 1, none⟩) hlt]; exact h.2.1, by rw [hw.frozen (p := ⟨b, 1, none⟩) hlt]; exact h.2.2⟩

set_option maxRecDepth 100000 in
set_option maxHeartbeats 4000000 in
theorem Run_fig (s : ByteArray) (i b : Nat) (w : World) (hs : s.size ≤ maxLen) (hi : i ≤ s.size) (h : Rdr2 w b s i) :
    Calls Tryd.prog 20 #[.pointer (some ⟨b, 0, none⟩), .int .i64 2] w fun e w' => e = .returned (.string (s.extract i (Sp.span Sp.digit s i))) ∧ Rdr2 w' b s (Sp.span Sp.digit s i) ∧ Below b w w' := by
  unfold maxLen at hs
  have HR0 : Hid (Rdr2 w b s i) := h
  obtain ⟨h0, h1, h2⟩ := h
  go_enter Tryd.func20, Tryd.ntmps20
  go_wp2_with fail
  clear h0 h1 h2
  go_loopw [6, 7] (fun _ _ wr => ∃ k : Nat, i ≤ k ∧ k ≤ s.size ∧ Hid (Sp.span Sp.digit s k = Sp.span Sp.digit s i) ∧ Hid (Rdr2 wr b s k) ∧ Hid (Below b w wr)) (fun _ _ wr => s.size - rdAt wr b)
  case atStart => exact ⟨i, Nat.le_refl _, hi, rfl, HR0, Below.refl _ _⟩
  case round =>
    obtain ⟨k, hk1, hk2, HS, HR, HB⟩ := hrel
    obtain ⟨h0, h1, h2⟩ := HR.out
    have HM : Hid (∀ n, s.size - rdAt ((wr.drewN n).setCell ⟨b, 1, none⟩ (.int .i64 ((k : Int) + 1))) b = s.size - (k + 1) ∧ rdAt wr b = k) := fun n => ⟨by
      have := ((HR.out.drew n).set (k + 1)).at
      rw [show (((k + 1 : Nat) : Int)) = (k : Int) + 1 by omega] at this
      rw [this], HR.out.at⟩
    have HN : Hid (∀ n, Rdr2 ((wr.drewN n).setCell ⟨b, 1, none⟩ (.int .i64 ((k : Int) + 1))) b s (k + 1) ∧ Below b w ((wr.drewN n).setCell ⟨b, 1, none⟩ (.int .i64 ((k : Int) + 1)))) := fun n => by
      have := (HR.out.drew n).set (k + 1)
      rw [show (((k + 1 : Nat) : Int)) = (k : Int) + 1 by omega] at this
      exact ⟨this, (HB.out.trans (below_drewN' _ _ _)).setCell (p := ⟨b, 1, none⟩) (Nat.le_refl _) _⟩
    by_cases hlt : k < s.size
    · have hbk := byte_bd s k
      have ek := byte_at s k hlt
      cases hnk : Sp.digit (Sp.byte s k) with
      | true =>
        have HK' : Hid (Sp.span Sp.digit s (k + 1) = Sp.span Sp.digit s i) := by show _ = _; rw [← HS.out, Sp.span_go hlt hnk]
        go_wp2_with fail
        go_quiet (fail)
        go_wp2_with fail
        go_quiet (fail)
        go_wp2_with (go_at_call 26; refine (Figure_any _ _ (by omega) (by omega)).mono ?_; rintro e w' ⟨rfl, rfl⟩)
        go_roundw
        case rel => exact ⟨k + 1, by omega, by omega, HK', (HN.out _).1, (HN.out _).2⟩
        case measure =>
          rw [(HM.out _).1, (HM.out 0).2]
          omega
      | false =>
        have HE : Hid (Sp.span Sp.digit s i = k) := by show _ = _; rw [← HS.out, Sp.span_stop hlt hnk]
        go_wp2_with fail
        go_quiet (fail)
        go_wp2_with fail
        go_quiet (fail)
        go_wp2_with (go_at_call 26; refine (Figure_any _ _ (by omega) (by omega)).mono ?_; rintro e w' ⟨rfl, rfl⟩)
        go_quiet (fail)
        go_wp2_with fail
        go_ret
        refine ⟨by rw [HE.out]; rfl, ?_, ?_⟩
        · rw [HE.out]; exact HR.out
        · exact ⟨HB.out.os, HB.out.tape, HB.out.output, HB.out.size, HB.out.block⟩
    · have HE : Hid (Sp.span Sp.digit s i = k) := by show _ = _; rw [← HS.out, Sp.span_end hlt]
      go_wp2_with fail
      go_quiet (fail)
      go_wp2_with fail
      go_quiet (fail)
      go_wp2_with fail
      go_ret
      refine ⟨by rw [HE.out]; rfl, ?_, ?_⟩
      · rw [HE.out]; exact HR.out
      · exact (HB.out.trans (below_drewN' _ _ _)).trans (below_drewN' _ _ _)

set_option maxRecDepth 100000 in
set_option maxHeartbeats 4000000 in
theorem Run_word (s : ByteArray) (i b : Nat) (w : World) (hs : s.size ≤ maxLen) (hi : i ≤ s.size) (h : Rdr2 w b s i) :
    Calls Tryd.prog 20 #[.pointer (some ⟨b, 0, none⟩), .int .i64 0] w fun e w' => e = .returned (.string (s.extract i (Sp.span Sp.nb s i))) ∧ Rdr2 w' b s (Sp.span Sp.nb s i) ∧ Below b w w' := by
  unfold maxLen at hs
  have HR0 : Hid (Rdr2 w b s i) := h
  obtain ⟨h0, h1, h2⟩ := h
  go_enter Tryd.func20, Tryd.ntmps20
  go_wp2_with fail
  clear h0 h1 h2
  go_loopw [6, 7] (fun _ _ wr => ∃ k : Nat, i ≤ k ∧ k ≤ s.size ∧ Hid (Sp.span Sp.nb s k = Sp.span Sp.nb s i) ∧ Hid (Rdr2 wr b s k) ∧ Hid (Below b w wr)) (fun _ _ wr => s.size - rdAt wr b)
  case atStart => exact ⟨i, Nat.le_refl _, hi, rfl, HR0, Below.refl _ _⟩
  case round =>
    obtain ⟨k, hk1, hk2, HS, HR, HB⟩ := hrel
    obtain ⟨h0, h1, h2⟩ := HR.out
    have HM : Hid (∀ n, s.size - rdAt ((wr.drewN n).setCell ⟨b, 1, none⟩ (.int .i64 ((k : Int) + 1))) b = s.size - (k + 1) ∧ rdAt wr b = k) := fun n => ⟨by
      have := ((HR.out.drew n).set (k + 1)).at
      rw [show (((k + 1 : Nat) : Int)) = (k : Int) + 1 by omega] at this
      rw [this], HR.out.at⟩
    have HN : Hid (∀ n, Rdr2 ((wr.drewN n).setCell ⟨b, 1, none⟩ (.int .i64 ((k : Int) + 1))) b s (k + 1) ∧ Below b w ((wr.drewN n).setCell ⟨b, 1, none⟩ (.int .i64 ((k : Int) + 1)))) := fun n => by
      have := (HR.out.drew n).set (k + 1)
      rw [show (((k + 1 : Nat) : Int)) = (k : Int) + 1 by omega] at this
      exact ⟨this, (HB.out.trans (below_drewN' _ _ _)).setCell (p := ⟨b, 1, none⟩) (Nat.le_refl _) _⟩
    by_cases hlt : k < s.size
    · have hbk := byte_bd s k
      have ek := byte_at s k hlt
      cases hnk : Sp.nb (Sp.byte s k) with
      | true =>
        have HK' : Hid (Sp.span Sp.nb s (k + 1) = Sp.span Sp.nb s i) := by show _ = _; rw [← HS.out, Sp.span_go hlt hnk]
        cases hd : Sp.digit (Sp.byte s k) with
        | true =>
          go_wp2_with fail
          go_quiet (fail)
          go_wp2_with fail
          go_quiet (fail)
          go_wp2_with (first | (go_at_call 26; refine (Figure_any _ _ (by omega) (by omega)).mono ?_; rintro e w' ⟨rfl, rfl⟩) | (go_at_call 27; refine (Letter_any _ _ (by omega) (by omega)).mono ?_; rintro e w' ⟨rfl, rfl⟩))
          go_roundw
          case rel => exact ⟨k + 1, by omega, by omega, HK', (HN.out _).1, (HN.out _).2⟩
          case measure =>
            rw [(HM.out _).1, (HM.out 0).2]
            omega
        | false =>
          cases hl : Sp.letter (Sp.byte s k) with
          | true =>
            go_wp2_with fail
            go_quiet (fail)
            go_wp2_with fail
            go_quiet (fail)
            go_wp2_with (first | (go_at_call 26; refine (Figure_any _ _ (by omega) (by omega)).mono ?_; rintro e w' ⟨rfl, rfl⟩) | (go_at_call 27; refine (Letter_any _ _ (by omega) (by omega)).mono ?_; rintro e w' ⟨rfl, rfl⟩))
            go_roundw
            case rel => exact ⟨k + 1, by omega, by omega, HK', (HN.out _).1, (HN.out _).2⟩
            case measure =>
              rw [(HM.out _).1, (HM.out 0).2]
              omega
          | false =>
            have h95 : (Sp.byte s k == 95) = true := by simpa [Sp.nb, hd, hl] using hnk
            go_wp2_with fail
            go_quiet (fail)
            go_wp2_with fail
            go_quiet (fail)
            go_wp2_with (first | (go_at_call 26; refine (Figure_any _ _ (by omega) (by omega)).mono ?_; rintro e w' ⟨rfl, rfl⟩) | (go_at_call 27; refine (Letter_any _ _ (by omega) (by omega)).mono ?_; rintro e w' ⟨rfl, rfl⟩))
            go_roundw
            case rel => exact ⟨k + 1, by omega, by omega, HK', (HN.out _).1, (HN.out _).2⟩
            case measure =>
              rw [(HM.out _).1, (HM.out 0).2]
              omega
      | false =>
        have HE : Hid (Sp.span Sp.nb s i = k) := by show _ = _; rw [← HS.out, Sp.span_stop hlt hnk]
        have hd : Sp.digit (Sp.byte s k) = false := by
          cases hd : Sp.digit (Sp.byte s k) with
          | true => simp [Sp.nb, hd] at hnk
          | false => rfl
        have hl : Sp.letter (Sp.byte s k) = false := by
          cases hl : Sp.letter (Sp.byte s k) with
          | true => simp [Sp.nb, hl] at hnk
          | false => rfl
        have h95 : (Sp.byte s k == 95) = false := by simpa [Sp.nb, hd, hl] using hnk
        go_wp2_with fail
        go_quiet (fail)
        go_wp2_with fail
        go_quiet (fail)
        go_wp2_with (first | (go_at_call 26; refine (Figure_any _ _ (by omega) (by omega)).mono ?_; rintro e w' ⟨rfl, rfl⟩) | (go_at_call 27; refine (Letter_any _ _ (by omega) (by omega)).mono ?_; rintro e w' ⟨rfl, rfl⟩))
        go_quiet (fail)
        go_wp2_with fail
        go_ret
        refine ⟨by rw [HE.out]; rfl, ?_, ?_⟩
        · rw [HE.out]; exact HR.out
        · exact ⟨HB.out.os, HB.out.tape, HB.out.output, HB.out.size, HB.out.block⟩
    · have HE : Hid (Sp.span Sp.nb s i = k) := by show _ = _; rw [← HS.out, Sp.span_end hlt]
      go_wp2_with fail
      go_quiet (fail)
      go_wp2_with fail
      go_quiet (fail)
      go_wp2_with fail
      go_ret
      refine ⟨by rw [HE.out]; rfl, ?_, ?_⟩
      · rw [HE.out]; exact HR.out
      · exact (HB.out.trans (below_drewN' _ _ _)).trans (below_drewN' _ _ _)
end Go.Proofs.YtghnipbcbbphbaaDoor
