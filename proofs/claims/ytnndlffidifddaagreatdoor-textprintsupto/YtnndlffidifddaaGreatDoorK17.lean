/- text.writer.bracketed, its items written by the closure of value. -/
import Derived.Test.YtnndlffidifddaaGreatDoorK16
namespace Go.Proofs.YtnndlffidifddaaGreatDoor
open Go.RowKit
theorem Sp.sz_list (s : ByteArray) : s.size = s.data.toList.length := by rw [Array.length_toList]; rfl

set_option maxRecDepth 100000 in
set_option maxHeartbeats 4000000 in
theorem bracketed_L (op sh : ByteArray) (its : List (List UInt8)) (b1 b2 : Nat) (w : World) (wb : Nat) (ln : Bool) (d : Nat) (xs : List UInt8) (h : Wt w wb ln d xs) (hd : d ≤ 1000)
    (hit : ∀ (i : Nat) (W : World) (ys : List UInt8), i < its.length → Kw wb w W → Wt W wb ln (d + 1) ys → ys.length + (its.getD i []).length ≤ 17592180000000 → Calls Tryz.prog 50 #[.int .i64 (i : Int), .pointer (some ⟨b1, 0, none⟩), .pointer (some ⟨b2, 0, none⟩)] W (WtE wb ln (d + 1) (ys ++ its.getD i []) W))
    (hn : its.length ≤ 4096) (hl : xs.length + (Sp.brkd op sh ln d its).length ≤ 17592180000000) :
    Calls Tryz.prog 49 #[.pointer (some ⟨wb, 0, none⟩), .string op, .string sh, .int .i64 (its.length : Int), .func (.func 50) #[] #[.pointer (some ⟨b1, 0, none⟩), .pointer (some ⟨b2, 0, none⟩)]] w (WtE wb ln d (xs ++ Sp.brkd op sh ln d its) w) := by
  have HI : Hid (∀ (i : Nat) (W : World) (ys : List UInt8), i < its.length → Kw wb w W → Wt W wb ln (d + 1) ys → ys.length + (its.getD i []).length ≤ 17592180000000 → Calls Tryz.prog 50 #[.int .i64 (i : Int), .pointer (some ⟨b1, 0, none⟩), .pointer (some ⟨b2, 0, none⟩)] W (WtE wb ln (d + 1) (ys ++ its.getD i []) W)) := hit
  have HL : Hid (xs.length + (op.data.toList ++ (Sp.seqTo ln (d + 1) its its.length ++ (Sp.tail ln its.length d ++ sh.data.toList))).length ≤ 17592180000000) := hl
  have HB2 : Hid (d ≤ 1000) := hd
  obtain ⟨c1, -, -⟩ := h.cells
  have HA : Hid (Calls Tryz.prog 44 #[.pointer (some ⟨wb, 0, none⟩), .string op] w (WtE wb ln d (xs ++ op.data.toList) w)) := add_any op w wb ln d xs h (by rw [Sp.sz_list]; have h1 := HL.out; simp only [List.length_append] at h1; omega)
  clear h hit hl
  cases ln with
  | false =>
    have HCM : Hid (∀ (W : World) (ys : List UInt8), Wt W wb false (d + 1) ys → ys.length + 2 ≤ 70368744177664 → Calls Tryz.prog 44 #[.pointer (some ⟨wb, 0, none⟩), .string ⟨#[44, 32]⟩] W (WtE wb false (d + 1) (ys ++ Sp.comma false) W)) := fun W ys hW hy => add_any ⟨#[44, 32]⟩ W wb false (d + 1) ys hW (by first | (show _ + 1 ≤ _; omega) | (show _ + 2 ≤ _; omega))
    have HNL : Hid (∀ (W : World) (ys : List UInt8) (q : Nat), Wt W wb false q ys → ys.length + (Sp.brk false q).length ≤ 70368744177664 → Calls Tryz.prog 75 #[.pointer (some ⟨wb, 0, none⟩)] W (WtE wb false q (ys ++ Sp.brk false q) W)) := fun W ys q hW hy => newLine_any W wb false q ys hW hy
    go_enter Tryz.func49, Tryz.ntmps49
    go_wp2_with fail
    refine HA.out.mono ?_
    rintro e w1 ⟨rfl, hw1, hk1⟩
    obtain ⟨d1, d2, d3⟩ := hw1.cells
    have HW2 : Hid (Wt (w1.setCell ⟨wb, 2, none⟩ (.int .i64 ((d : Int) + 1))) wb false (d + 1) (xs ++ op.data.toList) ∧ Kw wb w (w1.setCell ⟨wb, 2, none⟩ (.int .i64 ((d : Int) + 1)))) := ⟨by have := hw1.deep (d + 1); simpa using this, hk1.setCell 2 _⟩
    clear hw1 hk1 HA c1
    go_wp2_with fail
    go_loopw [27] (fun i wr => ∃ k : Nat, k ≤ its.length ∧ i = .int .i64 (k : Int) ∧ Hid (Wt wr wb false (d + 1) (xs ++ op.data.toList ++ Sp.seqTo false (d + 1) its k) ∧ Kw wb w wr)) (fun i _ => its.length - (intOf i).toNat)
    case atStart => exact ⟨0, by omega, rfl, by simpa [Sp.seqTo] using HW2⟩
    case round =>
      obtain ⟨k, hk, rfl, HK⟩ := hrel
      clear d1 d2 d3 HW2
      by_cases hlt : k < its.length
      · have HLB : Hid ((xs ++ op.data.toList ++ Sp.seqTo false (d + 1) its k).length + ((if k = 0 then ([] : List UInt8) else Sp.comma false).length + ((Sp.brk false (d + 1)).length + (its.getD k []).length)) ≤ 17592180000000) := by
          have h1 := HL.out
          have h2 := Sp.seqTo_mono false (d + 1) its (k := k + 1) (n := its.length) (by omega)
          rw [Sp.seqTo] at h2
          simp only [List.length_append] at h1 h2
          show _ ≤ _
          simp only [List.length_append]
          omega
        have HSQ : Hid (xs ++ op.data.toList ++ Sp.seqTo false (d + 1) its (k + 1) = xs ++ op.data.toList ++ Sp.seqTo false (d + 1) its k ++ (if k = 0 then [] else Sp.comma false) ++ Sp.brk false (d + 1) ++ its.getD k []) := by
          show _ = _
          rw [Sp.seqTo]; simp only [List.append_assoc]
        have HCL : Hid ((Sp.comma false).length = 1 ∨ (Sp.comma false).length = 2) := by show _ ∨ _; simp [Sp.comma]
        generalize hys : xs ++ op.data.toList ++ Sp.seqTo false (d + 1) its k = ys at HK HLB HSQ
        clear hys
        by_cases hk0 : k = 0
        · subst hk0
          simp only [if_pos] at HLB HSQ
          have HC2 : Hid (Calls Tryz.prog 75 #[.pointer (some ⟨wb, 0, none⟩)] wr (WtE wb false (d + 1) (ys ++ Sp.brk false (d + 1)) wr)) := HNL.out wr ys (d + 1) HK.out.1 (by have := HLB.out; simp at this; omega)
          go_wp2_with fail
          refine HC2.out.mono ?_
          rintro e w2 ⟨rfl, hw2, hk2⟩
          have HK2 : Hid (Wt w2 wb false (d + 1) (ys ++ Sp.brk false (d + 1)) ∧ Kw wb w w2) := ⟨hw2, HK.out.2.trans hk2⟩
          clear hw2 hk2 HC2
          have HC3 : Hid (Calls Tryz.prog 50 #[.int .i64 (0 : Int), .pointer (some ⟨b1, 0, none⟩), .pointer (some ⟨b2, 0, none⟩)] w2 (WtE wb false (d + 1) (ys ++ Sp.brk false (d + 1) ++ its.getD 0 []) w2)) := by
            have := HI.out 0 w2 _ hlt HK2.out.2 HK2.out.1 (by have := HLB.out; simp at this ⊢; omega)
            show Calls _ _ _ _ _
            simpa using this
          go_wp2_with fail
          refine HC3.out.mono ?_
          rintro e w3 ⟨rfl, hw3, hk3⟩
          have HK3 : Hid (Wt w3 wb false (d + 1) (xs ++ op.data.toList ++ Sp.seqTo false (d + 1) its (0 + 1)) ∧ Kw wb w w3) := ⟨by rw [HSQ.out]; simpa using hw3, HK2.out.2.trans hk3⟩
          clear hw3 hk3 HC3
          go_wp2_with fail
          go_roundw
          case rel => exact ⟨0 + 1, by omega, by go_num, HK3⟩
          case measure => simp [intOf]; omega
        · have hk0' : (0 : Int) < (k : Int) := by omega
          simp only [if_neg hk0] at HLB HSQ
          have HC1 : Hid (Calls Tryz.prog 44 #[.pointer (some ⟨wb, 0, none⟩), .string ⟨#[44, 32]⟩] wr (WtE wb false (d + 1) (ys ++ Sp.comma false) wr)) := HCM.out wr ys HK.out.1 (by have := HLB.out; have h3 := HCL.out; simp at this; have h4 := Sp.brk_len false (d + 1); have h5 := HB2.out; omega)
          clear hk0
          go_wp2_with fail
          refine HC1.out.mono ?_
          rintro e w1' ⟨rfl, hw1, hk1⟩
          have HK1 : Hid (Wt w1' wb false (d + 1) (ys ++ Sp.comma false) ∧ Kw wb w w1') := ⟨hw1, HK.out.2.trans hk1⟩
          clear hw1 hk1 HC1
          have HC2 : Hid (Calls Tryz.prog 75 #[.pointer (some ⟨wb, 0, none⟩)] w1' (WtE wb false (d + 1) (ys ++ Sp.comma false ++ Sp.brk false (d + 1)) w1')) := HNL.out w1' _ (d + 1) HK1.out.1 (by have := HLB.out; simp only [List.length_append]; omega)
          go_wp2_with fail
          refine HC2.out.mono ?_
          rintro e w2 ⟨rfl, hw2, hk2⟩
          have HK2 : Hid (Wt w2 wb false (d + 1) (ys ++ Sp.comma false ++ Sp.brk false (d + 1)) ∧ Kw wb w w2) := ⟨hw2, HK1.out.2.trans hk2⟩
          clear hw2 hk2 HC2
          have HC3 : Hid (Calls Tryz.prog 50 #[.int .i64 (k : Int), .pointer (some ⟨b1, 0, none⟩), .pointer (some ⟨b2, 0, none⟩)] w2 (WtE wb false (d + 1) (ys ++ Sp.comma false ++ Sp.brk false (d + 1) ++ its.getD k []) w2)) := HI.out k w2 _ hlt HK2.out.2 HK2.out.1 (by have := HLB.out; simp only [List.length_append]; omega)
          go_wp2_with fail
          refine HC3.out.mono ?_
          rintro e w3 ⟨rfl, hw3, hk3⟩
          have HK3 : Hid (Wt w3 wb false (d + 1) (xs ++ op.data.toList ++ Sp.seqTo false (d + 1) its (k + 1)) ∧ Kw wb w w3) := ⟨by rw [HSQ.out]; exact hw3, HK2.out.2.trans hk3⟩
          clear hw3 hk3 HC3
          go_wp2_with fail
          go_roundw
          case rel => exact ⟨k + 1, by omega, by go_num, HK3⟩
          case measure => simp [intOf]; omega
      · obtain rfl : k = its.length := by omega
        obtain ⟨d1, d2, d3⟩ := HK.out.1.cells
        have e2 : ((d + 1 : Nat) : Int) = (d : Int) + 1 := by omega
        rw [e2] at d2
        have HW5 : Hid (Wt (wr.setCell ⟨wb, 2, none⟩ (.int .i64 (d : Int))) wb false d (xs ++ op.data.toList ++ Sp.seqTo false (d + 1) its its.length) ∧ Kw wb w (wr.setCell ⟨wb, 2, none⟩ (.int .i64 (d : Int)))) := ⟨HK.out.1.deep d, HK.out.2.setCell 2 _⟩
        have HAS : Hid (∀ (W : World) (ys : List UInt8), Wt W wb false d ys → ys.length + sh.size ≤ 70368744177664 → Calls Tryz.prog 44 #[.pointer (some ⟨wb, 0, none⟩), .string sh] W (WtE wb false d (ys ++ sh.data.toList) W)) := fun W ys hW hy => add_any sh W wb false d ys hW hy
        have hd1 : (d : Int) + 1 - 1 = (d : Int) := by omega
        by_cases hn0 : its.length = 0
        · have hn0' : ¬ (0 : Int) < (its.length : Int) := by omega
          have HE : Hid (xs ++ Sp.brkd op sh false d its = xs ++ op.data.toList ++ Sp.seqTo false (d + 1) its its.length ++ sh.data.toList) := by
            show _ = _
            rw [Sp.brkd, Sp.tail, if_pos hn0]; simp only [List.append_assoc, List.nil_append]
          clear hn0
          go_wp2_with fail
          refine (HAS.out _ _ HW5.out.1 (by have h1 := HL.out; rw [Sp.sz_list]; simp only [List.length_append] at h1 ⊢; omega)).mono ?_
          rintro e w6 ⟨rfl, hw6, hk6⟩
          have HK6 : Hid (Wt w6 wb false d (xs ++ Sp.brkd op sh false d its) ∧ Kw wb w w6) := ⟨by rw [HE.out]; exact hw6, HW5.out.2.trans hk6⟩
          clear hw6 hk6
          go_wp2_with fail
          go_end0
          exact ⟨rfl, HK6.out⟩
        · have hn0' : (0 : Int) < (its.length : Int) := by omega
          have HE : Hid (xs ++ Sp.brkd op sh false d its = xs ++ op.data.toList ++ Sp.seqTo false (d + 1) its its.length ++ Sp.brk false d ++ sh.data.toList) := by
            show _ = _
            rw [Sp.brkd, Sp.tail, if_neg hn0]; simp only [List.append_assoc]
          have HTL : Hid (Sp.tail false its.length d = Sp.brk false d) := by show _ = _; rw [Sp.tail, if_neg hn0]
          clear hn0
          go_wp2_with fail
          refine (HNL.out _ _ d HW5.out.1 (by have h1 := HL.out; rw [HTL.out] at h1; simp only [List.length_append] at h1 ⊢; omega)).mono ?_
          rintro e w6 ⟨rfl, hw6, hk6⟩
          have HK6 : Hid (Wt w6 wb false d (xs ++ op.data.toList ++ Sp.seqTo false (d + 1) its its.length ++ Sp.brk false d) ∧ Kw wb w w6) := ⟨hw6, HW5.out.2.trans hk6⟩
          clear hw6 hk6
          go_wp2_with fail
          refine (HAS.out _ _ HK6.out.1 (by have h1 := HL.out; rw [HTL.out] at h1; rw [Sp.sz_list]; simp only [List.length_append] at h1 ⊢; omega)).mono ?_
          rintro e w7 ⟨rfl, hw7, hk7⟩
          have HK7 : Hid (Wt w7 wb false d (xs ++ Sp.brkd op sh false d its) ∧ Kw wb w w7) := ⟨by rw [HE.out]; exact hw7, HK6.out.2.trans hk7⟩
          clear hw7 hk7
          go_wp2_with fail
          go_end0
          exact ⟨rfl, HK7.out⟩
  | true =>
    have HCM : Hid (∀ (W : World) (ys : List UInt8), Wt W wb true (d + 1) ys → ys.length + 2 ≤ 70368744177664 → Calls Tryz.prog 44 #[.pointer (some ⟨wb, 0, none⟩), .string ⟨#[44]⟩] W (WtE wb true (d + 1) (ys ++ Sp.comma true) W)) := fun W ys hW hy => add_any ⟨#[44]⟩ W wb true (d + 1) ys hW (by first | (show _ + 1 ≤ _; omega) | (show _ + 2 ≤ _; omega))
    have HNL : Hid (∀ (W : World) (ys : List UInt8) (q : Nat), Wt W wb true q ys → ys.length + (Sp.brk true q).length ≤ 70368744177664 → Calls Tryz.prog 75 #[.pointer (some ⟨wb, 0, none⟩)] W (WtE wb true q (ys ++ Sp.brk true q) W)) := fun W ys q hW hy => newLine_any W wb true q ys hW hy
    go_enter Tryz.func49, Tryz.ntmps49
    go_wp2_with fail
    refine HA.out.mono ?_
    rintro e w1 ⟨rfl, hw1, hk1⟩
    obtain ⟨d1, d2, d3⟩ := hw1.cells
    have HW2 : Hid (Wt (w1.setCell ⟨wb, 2, none⟩ (.int .i64 ((d : Int) + 1))) wb true (d + 1) (xs ++ op.data.toList) ∧ Kw wb w (w1.setCell ⟨wb, 2, none⟩ (.int .i64 ((d : Int) + 1)))) := ⟨by have := hw1.deep (d + 1); simpa using this, hk1.setCell 2 _⟩
    clear hw1 hk1 HA c1
    go_wp2_with fail
    go_loopw [27] (fun i wr => ∃ k : Nat, k ≤ its.length ∧ i = .int .i64 (k : Int) ∧ Hid (Wt wr wb true (d + 1) (xs ++ op.data.toList ++ Sp.seqTo true (d + 1) its k) ∧ Kw wb w wr)) (fun i _ => its.length - (intOf i).toNat)
    case atStart => exact ⟨0, by omega, rfl, by simpa [Sp.seqTo] using HW2⟩
    case round =>
      obtain ⟨k, hk, rfl, HK⟩ := hrel
      clear d1 d2 d3 HW2
      by_cases hlt : k < its.length
      · have HLB : Hid ((xs ++ op.data.toList ++ Sp.seqTo true (d + 1) its k).length + ((if k = 0 then ([] : List UInt8) else Sp.comma true).length + ((Sp.brk true (d + 1)).length + (its.getD k []).length)) ≤ 17592180000000) := by
          have h1 := HL.out
          have h2 := Sp.seqTo_mono true (d + 1) its (k := k + 1) (n := its.length) (by omega)
          rw [Sp.seqTo] at h2
          simp only [List.length_append] at h1 h2
          show _ ≤ _
          simp only [List.length_append]
          omega
        have HSQ : Hid (xs ++ op.data.toList ++ Sp.seqTo true (d + 1) its (k + 1) = xs ++ op.data.toList ++ Sp.seqTo true (d + 1) its k ++ (if k = 0 then [] else Sp.comma true) ++ Sp.brk true (d + 1) ++ its.getD k []) := by
          show _ = _
          rw [Sp.seqTo]; simp only [List.append_assoc]
        have HCL : Hid ((Sp.comma true).length = 1 ∨ (Sp.comma true).length = 2) := by show _ ∨ _; simp [Sp.comma]
        generalize hys : xs ++ op.data.toList ++ Sp.seqTo true (d + 1) its k = ys at HK HLB HSQ
        clear hys
        by_cases hk0 : k = 0
        · subst hk0
          simp only [if_pos] at HLB HSQ
          have HC2 : Hid (Calls Tryz.prog 75 #[.pointer (some ⟨wb, 0, none⟩)] wr (WtE wb true (d + 1) (ys ++ Sp.brk true (d + 1)) wr)) := HNL.out wr ys (d + 1) HK.out.1 (by have := HLB.out; simp at this; omega)
          go_wp2_with fail
          refine HC2.out.mono ?_
          rintro e w2 ⟨rfl, hw2, hk2⟩
          have HK2 : Hid (Wt w2 wb true (d + 1) (ys ++ Sp.brk true (d + 1)) ∧ Kw wb w w2) := ⟨hw2, HK.out.2.trans hk2⟩
          clear hw2 hk2 HC2
          have HC3 : Hid (Calls Tryz.prog 50 #[.int .i64 (0 : Int), .pointer (some ⟨b1, 0, none⟩), .pointer (some ⟨b2, 0, none⟩)] w2 (WtE wb true (d + 1) (ys ++ Sp.brk true (d + 1) ++ its.getD 0 []) w2)) := by
            have := HI.out 0 w2 _ hlt HK2.out.2 HK2.out.1 (by have := HLB.out; simp at this ⊢; omega)
            show Calls _ _ _ _ _
            simpa using this
          go_wp2_with fail
          refine HC3.out.mono ?_
          rintro e w3 ⟨rfl, hw3, hk3⟩
          have HK3 : Hid (Wt w3 wb true (d + 1) (xs ++ op.data.toList ++ Sp.seqTo true (d + 1) its (0 + 1)) ∧ Kw wb w w3) := ⟨by rw [HSQ.out]; simpa using hw3, HK2.out.2.trans hk3⟩
          clear hw3 hk3 HC3
          go_wp2_with fail
          go_roundw
          case rel => exact ⟨0 + 1, by omega, by go_num, HK3⟩
          case measure => simp [intOf]; omega
        · have hk0' : (0 : Int) < (k : Int) := by omega
          simp only [if_neg hk0] at HLB HSQ
          have HC1 : Hid (Calls Tryz.prog 44 #[.pointer (some ⟨wb, 0, none⟩), .string ⟨#[44]⟩] wr (WtE wb true (d + 1) (ys ++ Sp.comma true) wr)) := HCM.out wr ys HK.out.1 (by have := HLB.out; have h3 := HCL.out; simp at this; have h4 := Sp.brk_len true (d + 1); have h5 := HB2.out; omega)
          clear hk0
          go_wp2_with fail
          refine HC1.out.mono ?_
          rintro e w1' ⟨rfl, hw1, hk1⟩
          have HK1 : Hid (Wt w1' wb true (d + 1) (ys ++ Sp.comma true) ∧ Kw wb w w1') := ⟨hw1, HK.out.2.trans hk1⟩
          clear hw1 hk1 HC1
          have HC2 : Hid (Calls Tryz.prog 75 #[.pointer (some ⟨wb, 0, none⟩)] w1' (WtE wb true (d + 1) (ys ++ Sp.comma true ++ Sp.brk true (d + 1)) w1')) := HNL.out w1' _ (d + 1) HK1.out.1 (by have := HLB.out; simp only [List.length_append]; omega)
          go_wp2_with fail
          refine HC2.out.mono ?_
          rintro e w2 ⟨rfl, hw2, hk2⟩
          have HK2 : Hid (Wt w2 wb true (d + 1) (ys ++ Sp.comma true ++ Sp.brk true (d + 1)) ∧ Kw wb w w2) := ⟨hw2, HK1.out.2.trans hk2⟩
          clear hw2 hk2 HC2
          have HC3 : Hid (Calls Tryz.prog 50 #[.int .i64 (k : Int), .pointer (some ⟨b1, 0, none⟩), .pointer (some ⟨b2, 0, none⟩)] w2 (WtE wb true (d + 1) (ys ++ Sp.comma true ++ Sp.brk true (d + 1) ++ its.getD k []) w2)) := HI.out k w2 _ hlt HK2.out.2 HK2.out.1 (by have := HLB.out; simp only [List.length_append]; omega)
          go_wp2_with fail
          refine HC3.out.mono ?_
          rintro e w3 ⟨rfl, hw3, hk3⟩
          have HK3 : Hid (Wt w3 wb true (d + 1) (xs ++ op.data.toList ++ Sp.seqTo true (d + 1) its (k + 1)) ∧ Kw wb w w3) := ⟨by rw [HSQ.out]; exact hw3, HK2.out.2.trans hk3⟩
          clear hw3 hk3 HC3
          go_wp2_with fail
          go_roundw
          case rel => exact ⟨k + 1, by omega, by go_num, HK3⟩
          case measure => simp [intOf]; omega
      · obtain rfl : k = its.length := by omega
        obtain ⟨d1, d2, d3⟩ := HK.out.1.cells
        have e2 : ((d + 1 : Nat) : Int) = (d : Int) + 1 := by omega
        rw [e2] at d2
        have HW5 : Hid (Wt (wr.setCell ⟨wb, 2, none⟩ (.int .i64 (d : Int))) wb true d (xs ++ op.data.toList ++ Sp.seqTo true (d + 1) its its.length) ∧ Kw wb w (wr.setCell ⟨wb, 2, none⟩ (.int .i64 (d : Int)))) := ⟨HK.out.1.deep d, HK.out.2.setCell 2 _⟩
        have HAS : Hid (∀ (W : World) (ys : List UInt8), Wt W wb true d ys → ys.length + sh.size ≤ 70368744177664 → Calls Tryz.prog 44 #[.pointer (some ⟨wb, 0, none⟩), .string sh] W (WtE wb true d (ys ++ sh.data.toList) W)) := fun W ys hW hy => add_any sh W wb true d ys hW hy
        have hd1 : (d : Int) + 1 - 1 = (d : Int) := by omega
        by_cases hn0 : its.length = 0
        · have hn0' : ¬ (0 : Int) < (its.length : Int) := by omega
          have HE : Hid (xs ++ Sp.brkd op sh true d its = xs ++ op.data.toList ++ Sp.seqTo true (d + 1) its its.length ++ sh.data.toList) := by
            show _ = _
            rw [Sp.brkd, Sp.tail, if_pos hn0]; simp only [List.append_assoc, List.nil_append]
          clear hn0
          go_wp2_with fail
          refine (HAS.out _ _ HW5.out.1 (by have h1 := HL.out; rw [Sp.sz_list]; simp only [List.length_append] at h1 ⊢; omega)).mono ?_
          rintro e w6 ⟨rfl, hw6, hk6⟩
          have HK6 : Hid (Wt w6 wb true d (xs ++ Sp.brkd op sh true d its) ∧ Kw wb w w6) := ⟨by rw [HE.out]; exact hw6, HW5.out.2.trans hk6⟩
          clear hw6 hk6
          go_wp2_with fail
          go_end0
          exact ⟨rfl, HK6.out⟩
        · have hn0' : (0 : Int) < (its.length : Int) := by omega
          have HE : Hid (xs ++ Sp.brkd op sh true d its = xs ++ op.data.toList ++ Sp.seqTo true (d + 1) its its.length ++ Sp.brk true d ++ sh.data.toList) := by
            show _ = _
            rw [Sp.brkd, Sp.tail, if_neg hn0]; simp only [List.append_assoc]
          have HTL : Hid (Sp.tail true its.length d = Sp.brk true d) := by show _ = _; rw [Sp.tail, if_neg hn0]
          clear hn0
          go_wp2_with fail
          refine (HNL.out _ _ d HW5.out.1 (by have h1 := HL.out; rw [HTL.out] at h1; simp only [List.length_append] at h1 ⊢; omega)).mono ?_
          rintro e w6 ⟨rfl, hw6, hk6⟩
          have HK6 : Hid (Wt w6 wb true d (xs ++ op.data.toList ++ Sp.seqTo true (d + 1) its its.length ++ Sp.brk true d) ∧ Kw wb w w6) := ⟨hw6, HW5.out.2.trans hk6⟩
          clear hw6 hk6
          go_wp2_with fail
          refine (HAS.out _ _ HK6.out.1 (by have h1 := HL.out; rw [HTL.out] at h1; rw [Sp.sz_list]; simp only [List.length_append] at h1 ⊢; omega)).mono ?_
          rintro e w7 ⟨rfl, hw7, hk7⟩
          have HK7 : Hid (Wt w7 wb true d (xs ++ Sp.brkd op sh true d its) ∧ Kw wb w w7) := ⟨by rw [HE.out]; exact hw7, HK6.out.2.trans hk7⟩
          clear hw7 hk7
          go_wp2_with fail
          go_end0
          exact ⟨rfl, HK7.out⟩
end Go.Proofs.YtnndlffidifddaaGreatDoor

