/- path.textOf and path.Print. -/
import Derived.Test.YthnanblilofdpaaDoorPEnv
import Derived.Test.YthnanblilofdpaaDoorPWay
import Derived.Laws.Concat
import Derived.Lib.ItoaLen
namespace Go.Proofs.YthnanblilofdpaaDoor
open Go.RowKit

theorem cat_run (a b : ByteArray) (W : World) (h : a.size + b.size ≤ 9223372036854775807) : (binOp .add 9 (.string a) (.string b)).run Tryd.prog W = .ok (.string (a ++ b)) W := by
  rw [binOp_string_add]; exact run_string_add_sum W a b (by omega)
theorem isb_on {T e : TypeId} {B b : Nat} {bs : List Value} {w w' : World} (h : Lib.IsBuilder T e B b bs w) (hw : Below w.heap.size w w') : Lib.IsBuilder T e B b bs w' := by
  have key : ∀ p, Lib.BuilderAt T e B b p bs w → Lib.BuilderAt T e B b p bs w' := fun p h => by
    have hlt := h.lt
    obtain ⟨hB, v, hb, hown, hne⟩ := h
    refine ⟨hB, v, by rw [hw.block b hlt]; exact hb, hown.kept (row := none) ⟨hw.os, hw.tape, hw.output, hw.size, fun k hk _ => hw.block k hk⟩ ?_, hne⟩
    cases hv : v.ownBlock with
    | none => exact .inl rfl
    | some k => exact .inr (by simp)
  exact h.imp (key _) (key _)
theorem txt_len (k : Nat) (x : Stp) (h : x.rule = 0) : (x.txt k).length ≤ 64 := by
  cases ha : x.at' with
  | true =>
    obtain ⟨_, h1, h2⟩ := Stp.rule_at h ha
    have := Lib.itoa_length_le x.idx (by omega) (by omega)
    simp [Stp.txt, ha]; omega
  | false =>
    obtain ⟨h1, _⟩ := Stp.rule_nm h ha
    have := (Sp.isNm_size h1).2
    have e : x.name.data.toList.length = x.name.size := by rw [Array.length_toList]; rfl
    by_cases hk : k = 0
    · simp [Stp.txt, ha, hk]; have : x.name.data.size = x.name.size := rfl; omega
    · simp [Stp.txt, ha, hk]; have : x.name.data.size = x.name.size := rfl; omega
theorem wtxt_len (l : List Stp) (h : Sp.rules l = 0) : ∀ k, k ≤ l.length → (Sp.wtxt l k).length ≤ 64 * k
  | 0, _ => by simp [Sp.wtxt]
  | k + 1, hk => by
    rw [Sp.wtxt_succ l k (by omega), List.length_append]
    have h1 := wtxt_len l h k (by omega)
    have h2 := txt_len k l[k] (Sp.rules_all h _ (List.getElem_mem _))
    omega

set_option maxRecDepth 100000 in
set_option maxHeartbeats 4000000 in
theorem textOf_any (l : List Stp) (a : Option Addr) (cap b : Nat) (w : World) (hb : b ≤ w.heap.size) (h : Rdw w b a l) (hl : l.length ≤ 64) (hr : Sp.rules l = 0) (henv : Env w) :
    Calls Tryd.prog 12 #[.slice a l.length cap] w fun e w' => e = .returned (.string ⟨(Sp.wtxt l l.length).toArray⟩) ∧ Below w.heap.size w w' := by
  have HR : Hid (Rdw w b a l ∧ Env w ∧ Sp.rules l = 0) := ⟨h, henv, hr⟩
  clear h henv hr
  go_enter Tryd.func12, Tryd.ntmps12
  go_wp2_with fail
  go_loopw [8, 4] (fun i _ wr => ∃ k : Nat, k ≤ l.length ∧ i = .int .i64 k ∧ Hid (Lib.IsBuilder 43 5 w.heap.size w.heap.size (Lib.byteCells (Sp.wtxt l k)) wr) ∧ Hid (Below w.heap.size w wr)) (fun i _ _ => l.length - (intOf i).toNat)
  case atStart => exact ⟨0, by omega, rfl, Lib.fresh_isBuilder _ _ w, (Below.refl _ _).alloc (Nat.le_refl _) _⟩
  case round =>
    obtain ⟨k, hk, rfl, HK, HB⟩ := hrel
    have HZ : Hid (w.heap.size ≤ wr.heap.size) := HB.out.size
    by_cases hlt : k < l.length
    · obtain ⟨g, o, rfl, hg, c0, c1, c2, hnm⟩ := (HR.out.1.on (HB.out.mono hb) (Nat.le_refl _)) k l[k] (List.getElem?_eq_getElem hlt)
      have HT : Hid (Sp.wtxt l (k + 1) = Sp.wtxt l k ++ l[k].txt k) := Sp.wtxt_succ l k hlt
      have HL : Hid ((Sp.wtxt l k).length ≤ 4096) := by
        have := wtxt_len l HR.out.2.2 k (by omega)
        show _ ≤ _
        omega
      have HU : Hid (l[k].rule = 0) := Sp.rules_all HR.out.2.2 _ (List.getElem_mem _)
      have HE : Hid (Env wr) := HR.out.2.1.on (HB.out)
      generalize l[k] = x at c0 c1 c2 HT HU hnm
      have HW : Hid (∀ (s : ByteArray) (W : World), s.size ≤ 64 → s.data.toList = x.txt k → Below wr.heap.size wr W → Calls Tryd.prog 20 #[.pointer (some ⟨w.heap.size, 0, none⟩), .string s] W fun e w' => e = .returned (.tuple #[.int .i64 s.size, .nilIface]) ∧ Lib.IsBuilder 43 5 w.heap.size w.heap.size (Lib.byteCells (Sp.wtxt l (k + 1))) w' ∧ Below w.heap.size w w') := fun s W hs he hW => by
        have hi : Lib.IsBuilder 43 5 w.heap.size w.heap.size (Lib.byteCells (Sp.wtxt l k)) W := isb_on HK.out hW
        refine (WriteString_any w.heap.size w.heap.size _ s W hi ?_ ?_).mono ?_
        · have := HL.out
          rw [Lib.byteCells_length]; omega
        · exact Nat.le_trans HZ.out hW.size
        · rintro e w' ⟨rfl, h1, h2⟩
          refine ⟨rfl, ?_, (HB.out.trans (hW.mono HZ.out)).trans h2⟩
          rw [HT.out, Lib.byteCells_append, ← he]
          exact h1
      obtain ⟨n, t, i⟩ := x
      simp only at c0 c1 c2 hnm
      cases t with
      | true =>
        obtain ⟨_, i0, i1⟩ := Stp.rule_at HU.out rfl
        simp only at i0 i1
        obtain ⟨I, hI, HI⟩ : ∃ I : ByteArray, I.size ≤ 21 ∧ Hid (I = ⟨(Lib.itoa i).toArray⟩) := ⟨_, by
          show (Lib.itoa i).toArray.size ≤ 21
          rw [List.size_toArray]; exact Lib.itoa_length_le i (by omega) (by omega), rfl⟩
        have HC : Hid (∀ W, Below wr.heap.size wr W → Calls Tryd.prog 21 #[.int .i64 i] W fun e w' => e = .returned (.string I) ∧ Below W.heap.size W w') := fun W hW => by rw [HI.out]; exact Itoa_env i W (HE.out.on hW) i0 i1
        have hcat1 : ∀ W : World, (binOp .add 9 (.string { data := #[91] }) (.string I)).run Tryd.prog W = .ok (.string ({ data := #[91] } ++ I)) W := fun W => cat_run _ _ W (by show 1 + I.size ≤ _; omega)
        have hcat2 : ∀ W : World, (binOp .add 9 (.string ({ data := #[91] } ++ I)) (.string { data := #[93] })).run Tryd.prog W = .ok (.string ({ data := #[91] } ++ I ++ { data := #[93] })) W := fun W => cat_run _ _ W (by rw [ByteArray.size_append]; show 1 + I.size + 1 ≤ _; omega)
        have HX : Hid (({ data := #[91] } ++ I ++ { data := #[93] } : ByteArray).size ≤ 64 ∧ ({ data := #[91] } ++ I ++ { data := #[93] } : ByteArray).data.toList = Stp.txt k ⟨n, true, i⟩) := ⟨by rw [ByteArray.size_append, ByteArray.size_append]; show 1 + I.size + 1 ≤ _; omega, by rw [HI.out]; simp [Stp.txt]⟩
        go_wp2_with fail
        refine (HC.out _ ((Below.refl _ _).alloc (Nat.le_refl _) _)).mono ?_
        rintro e w1 ⟨rfl, hb1⟩
        have HB1 : Hid (Below wr.heap.size wr w1) := below_to ((Below.refl _ _).alloc (Nat.le_refl _) _) hb1
        clear hb1
        go_wp2_with fail
        refine (HW.out _ _ HX.out.1 HX.out.2 HB1.out).mono ?_
        rintro e w2 ⟨rfl, hi2, hb2⟩
        have HI2 : Hid (Lib.IsBuilder 43 5 w.heap.size w.heap.size (Lib.byteCells (Sp.wtxt l (k + 1))) w2) := hi2
        have HB2 : Hid (Below w.heap.size w w2) := hb2
        clear hi2 hb2
        go_wp2_with fail
        go_roundw
        case rel => exact ⟨k + 1, by omega, by go_num, HI2, HB2⟩
        case measure => simp [intOf]; omega
      | false =>
        have HN : Hid (n.size ≤ 32) := (Sp.isNm_size (Stp.rule_nm HU.out rfl).1).2
        by_cases hk0 : k = 0
        · have hk0' : ((k : Int) == 0) = true := by simp [hk0]
          have HX : Hid (n.size ≤ 64 ∧ n.data.toList = Stp.txt k ⟨n, false, i⟩) := ⟨by have := HN.out; omega, by simp [Stp.txt, hk0]⟩
          clear hk0
          go_wp2_with fail
          refine (HW.out n _ HX.out.1 HX.out.2 ((Below.refl _ _).alloc (Nat.le_refl _) _)).mono ?_
          rintro e w2 ⟨rfl, hi2, hb2⟩
          have HI2 : Hid (Lib.IsBuilder 43 5 w.heap.size w.heap.size (Lib.byteCells (Sp.wtxt l (k + 1))) w2) := hi2
          have HB2 : Hid (Below w.heap.size w w2) := hb2
          clear hi2 hb2
          go_wp2_with fail
          go_roundw
          case rel => exact ⟨k + 1, by omega, by go_num, HI2, HB2⟩
          case measure => simp [intOf]; omega
        · have hk0' : ((k : Int) == 0) = false := by simp; omega
          have hn32 := HN.out
          have hcat1 : ∀ W : World, (binOp .add 9 (.string { data := #[46] }) (.string n)).run Tryd.prog W = .ok (.string ({ data := #[46] } ++ n)) W := fun W => cat_run _ _ W (by have := HN.out; show 1 + n.size ≤ _; omega)
          have HX : Hid (({ data := #[46] } ++ n : ByteArray).size ≤ 64 ∧ ({ data := #[46] } ++ n : ByteArray).data.toList = Stp.txt k ⟨n, false, i⟩) := ⟨by have := HN.out; rw [ByteArray.size_append]; show 1 + n.size ≤ _; omega, by simp [Stp.txt, hk0]⟩
          clear hk0
          go_wp2_with fail
          refine (HW.out _ _ HX.out.1 HX.out.2 ((Below.refl _ _).alloc (Nat.le_refl _) _)).mono ?_
          rintro e w2 ⟨rfl, hi2, hb2⟩
          have HI2 : Hid (Lib.IsBuilder 43 5 w.heap.size w.heap.size (Lib.byteCells (Sp.wtxt l (k + 1))) w2) := hi2
          have HB2 : Hid (Below w.heap.size w w2) := hb2
          clear hi2 hb2
          go_wp2_with fail
          go_roundw
          case rel => exact ⟨k + 1, by omega, by go_num, HI2, HB2⟩
          case measure => simp [intOf]; omega
    · have HD : Hid (Sp.wtxt l k = Sp.wtxt l l.length) := by show _ = _; rw [show k = l.length by omega]
      have HS : Hid (Calls Tryd.prog 22 #[.pointer (some ⟨w.heap.size, 0, none⟩)] wr fun e w' => e = .returned (.string ⟨(Sp.wtxt l k).toArray⟩) ∧ Below w.heap.size wr w') := Tryd.Builder_String_any w.heap.size w.heap.size _ wr HK.out HZ.out
      rw [HD.out] at HS
      go_wp2_with fail
      refine HS.out.mono ?_
      rintro e w1 ⟨rfl, hb1⟩
      have HB1 : Hid (Below w.heap.size w w1) := HB.out.trans hb1
      clear hb1
      go_wp2_with fail
      go_ret
      exact ⟨rfl, HB1.out⟩

set_option maxRecDepth 100000 in
set_option maxHeartbeats 1000000 in
theorem Print_any (l : List Stp) (a : Option Addr) (cap b : Nat) (w : World) (hb : b ≤ w.heap.size) (h : Rdw w b a l) (hl : l.length ≤ maxLen) (henv : Env w) :
    Calls Tryd.prog 5 #[.slice a l.length cap] w fun e w' => e = .returned (.tuple #[.string ⟨(Sp.wtext l).toArray⟩, .int .i64 (Sp.wayR l)]) ∧ Below w.heap.size w w' := by
  have HC : Hid (Calls Tryd.prog 11 #[.slice a l.length cap] w fun e w' => e = .returned (.int .i64 (Sp.wayR l)) ∧ Below w.heap.size w w') := wayRule_any l a cap b w hb h hl
  by_cases hr : Sp.wayR l = 0
  · have hl64 : l.length ≤ 64 := by
      rcases Nat.lt_or_ge 64 l.length with h' | h'
      · rw [Sp.wayR, if_pos h'] at hr; omega
      · exact h'
    have HT : Hid (∀ W, Below w.heap.size w W → Calls Tryd.prog 12 #[.slice a l.length cap] W fun e w' => e = .returned (.string ⟨(Sp.wtxt l l.length).toArray⟩) ∧ Below W.heap.size W w') := fun W hW =>
      textOf_any l a cap b W (Nat.le_trans hb hW.size) (h.on (hW.mono hb) (Nat.le_refl _)) hl64 (by rw [Sp.wayR, if_neg (by omega)] at hr; exact hr) (henv.on hW)
    have HX : Hid (Sp.wtext l = Sp.wtxt l l.length) := by show _ = _; rw [Sp.wtext, if_pos hr]
    rw [hr] at HC ⊢
    clear hr h henv
    go_enter Tryd.func5, Tryd.ntmps5
    go_wp2_with fail
    refine HC.out.mono ?_
    rintro e w1 ⟨rfl, hb1⟩
    have HB1 : Hid (Below w.heap.size w w1) := hb1
    clear hb1
    go_wp2_with fail
    refine (HT.out _ HB1.out).mono ?_
    rintro e w2 ⟨rfl, hb2⟩
    have HB2 : Hid (Below w.heap.size w w2) := below_to HB1.out hb2
    clear hb2
    go_wp2_with fail
    go_ret2
    exact ⟨by rw [HX.out]; rfl, HB2.out⟩
  · have hr' : (Sp.wayR l != 0) = true := by simpa using hr
    have HX : Hid (Sp.wtext l = []) := by show _ = _; rw [Sp.wtext, if_neg hr]
    clear hr h henv
    go_enter Tryd.func5, Tryd.ntmps5
    go_wp2_with fail
    refine HC.out.mono ?_
    rintro e w1 ⟨rfl, hb1⟩
    have HB1 : Hid (Below w.heap.size w w1) := hb1
    clear hb1
    go_wp2_with fail
    go_ret2
    exact ⟨by rw [HX.out]; rfl, HB1.out⟩
end Go.Proofs.YthnanblilofdpaaDoor
