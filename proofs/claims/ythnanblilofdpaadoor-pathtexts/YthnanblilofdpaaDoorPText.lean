/- The Go function tenonlaw04.PathTexts returns true. -/
import Derived.Test.YthnanblilofdpaaDoorPRPrint
import Derived.Test.YthnanblilofdpaaDoorPRParse
import Derived.Test.YthnanblilofdpaaDoorPWipe
namespace Go.Proofs.YthnanblilofdpaaDoor
open Go.RowKit

theorem wiped_any (l m : List Stp) (a : Option Addr) (cap : Nat) (a2 : Option Addr) (cap2 B : Nat) (w : World) (hB : B ≤ w.heap.size) (h : w.ownsRow B 32 3 (.slice a l.length cap) l.length (Sp.wcells l)) (hn : ∀ x ∈ l, x.name.size ≤ maxLen) (hl : l.length ≤ 64) (h2 : Rdw w w.heap.size a2 m) (hm : m.length ≤ 64) :
    Calls Tryd.prog 10 #[.slice a l.length cap, .slice a2 m.length cap2] w fun e w' => e = .returned (.bool (decide (l = m))) ∧ Below B w w' := by
  rcases h.2 with ⟨e, e0⟩ | ⟨g, c, cur, e, _⟩
  · injection e with e1 e2 e3
    have : l = [] := List.length_eq_zero_iff.1 e0
    subst this e1 e3
    exact wiped_none m a2 cap2 B w hB h2 hm
  · injection e with e1 e2 e3
    subst e1
    exact wiped_some l m g cap a2 cap2 B w hB h hn hl h2 hm

theorem own_base {w : World} {B B' : Nat} {e : TypeId} {size n : Nat} {v : Value} {xs : List Value} (h : w.ownsRow B e size v n xs) (hB : B' ≤ B) : w.ownsRow B' e size v n xs :=
  ⟨h.1, h.2.imp id fun ⟨g, c, cur, e1, h2, r⟩ => ⟨g, c, cur, e1, Nat.le_trans hB h2, r⟩⟩

set_option maxRecDepth 100000 in
set_option maxHeartbeats 4000000 in
theorem PathTexts_any (l : List Stp) (a : Option Addr) (cap : Nat) (s : ByteArray) (w : World) (h : Rdw w w.heap.size a l) (hl : l.length * 32 ≤ 140737488351232) (hs : s.size ≤ 140737488351232) (henv : Env w) :
    Calls Tryd.prog 3 #[.slice a l.length cap, .string s] w fun e w' => e = .returned (.bool true) ∧ Below w.heap.size w w' := by
  have HH : Hid (Calls Tryd.prog 4 #[.slice a l.length cap] w fun e w' => ∃ g cap', e = .returned (.slice (some ⟨g, 0, none⟩) (l.length + 1) cap') ∧ w'.ownsRow w.heap.size 32 3 (.slice (some ⟨g, 0, none⟩) (l.length + 1) cap') (l.length + 1) (Sp.wcells (l ++ [Stp.behind])) ∧ Below w.heap.size w w') := hand_any l a cap w h hl
  have HR : Hid (Rdw w w.heap.size a l ∧ Env w) := ⟨h, henv⟩
  obtain ⟨T, HT⟩ : ∃ T : ByteArray, Hid (T = ⟨(Sp.wtext l).toArray⟩) := ⟨_, rfl⟩
  have hTT : (T.toList == T.toList) = true := by simp
  have HP : Hid (∀ (a1 : Option Addr) (c1 : Nat) (W : World), Below w.heap.size w W → Rdw W W.heap.size a1 l → Calls Tryd.prog 5 #[.slice a1 l.length c1] W fun e w' => e = .returned (.tuple #[.string T, .int .i64 (Sp.wayR l)]) ∧ Below W.heap.size W w') := fun a1 c1 W hW hr => by
    rw [HT.out]; exact Print_any l a1 c1 W.heap.size W (Nat.le_refl _) hr (by unfold maxLen; omega) (HR.out.2.on hW)
  have HQ : Hid (∀ W : World, Below w.heap.size w W → Calls Tryd.prog 6 #[.slice a l.length cap] W fun e w' => e = .returned (.tuple #[.string T, .int .i64 (Sp.wayR l)]) ∧ Below W.heap.size W w') := fun W hW => by
    rw [HT.out]; exact rPrint_any l a cap w.heap.size W hW.size (HR.out.1.on hW (Nat.le_refl _)) (by unfold maxLen; omega)
  have HL : Hid (∀ (g c1 : Nat) (W : World), Below w.heap.size w W → Rdw W W.heap.size (some ⟨g, 0, none⟩) (l ++ [Stp.behind]) → l.length + 1 ≤ c1 → Calls Tryd.prog 7 #[.slice (some ⟨g, 0, none⟩) (l.length + 1) c1, .slice a l.length cap] W fun e w' => e = .returned (.bool true) ∧ Below W.heap.size W w') := fun g c1 W hW hr hc =>
    left_any l a cap g c1 w.heap.size W hW.size (HR.out.1.on hW (Nat.le_refl _)) hr hl hc
  have HPA : Hid (∀ W : World, Below w.heap.size w W → Calls Tryd.prog 8 #[.string s] W fun e w' => (Sp.way s).is W.heap.size w' e ∧ Below W.heap.size W w') := fun W hW => Parse_any s W (by omega) (HR.out.2.on hW)
  have HRP : Hid (∀ W : World, Calls Tryd.prog 9 #[.string s] W fun e w' => (Sp.way s).is W.heap.size w' e ∧ Below W.heap.size W w') := fun W => rParse_any s W (by omega)
  have HNB : Hid (∀ x ∈ l ++ [Stp.behind], x.name.size ≤ maxLen) := fun x hx => by
    rcases List.mem_append.1 hx with hx | hx
    · obtain ⟨j, hj, e⟩ := List.mem_iff_getElem.1 hx
      obtain ⟨_, _, _, _, _, _, _, hm⟩ := HR.out.1 j l[j] (List.getElem?_eq_getElem hj)
      rw [← e]; exact hm
    · simp at hx; subst hx; simp [Stp.behind, maxLen, ByteArray.size]
  clear h henv
  generalize Sp.wayR l = q at HP HQ
  go_enter Tryd.func3, Tryd.ntmps3
  go_wp2_with fail
  refine HH.out.mono ?_
  rintro e w1 ⟨g, c1, rfl, hown, hb1⟩
  have HB1 : Hid (Below w.heap.size w w1) := hb1
  have HW1 : Hid (Rdw w1 w1.heap.size (some ⟨g, 0, none⟩) (l ++ [Stp.behind]) ∧ Rdw w1 w1.heap.size (some ⟨g, 0, none⟩) l) := by
    have h1 : Rdw w1 w1.heap.size (some ⟨g, 0, none⟩) (l ++ [Stp.behind]) := Rdw.of_own hown HNB.out
    exact ⟨h1, fun j x hx => h1 j x (by rw [List.getElem?_append_left ((List.getElem?_eq_some_iff.1 hx).1)]; exact hx)⟩
  have hc1 : l.length + 1 ≤ c1 := by
    rcases hown.2 with ⟨e, _⟩ | ⟨g', c', cur, e, _, _, hnc, _⟩
    · cases e
    · injection e with e1 e2 e3; omega
  clear hown hb1
  generalize hnl : l.length = n at *
  clear hnl
  go_wp2_with fail
  refine (HP.out _ _ _ HB1.out HW1.out.2).mono ?_
  rintro e w2 ⟨rfl, hb2⟩
  have HB2 : Hid (Below w.heap.size w w2) := below_to HB1.out hb2
  have HW2 : Hid (Rdw w2 w2.heap.size (some ⟨g, 0, none⟩) (l ++ [Stp.behind])) := HW1.out.1.on hb2 hb2.size
  clear hb2
  go_wp2_with fail
  refine (HQ.out _ HB2.out).mono ?_
  rintro e w3 ⟨rfl, hb3⟩
  have HB3 : Hid (Below w.heap.size w w3) := below_to HB2.out hb3
  have HW3 : Hid (Rdw w3 w3.heap.size (some ⟨g, 0, none⟩) (l ++ [Stp.behind])) := HW2.out.on hb3 hb3.size
  clear hb3
  have hqq : (q != q) = false := by simp
  go_wp2_with fail
  refine (HL.out _ _ _ HB3.out HW3.out hc1).mono ?_
  rintro e w4 ⟨rfl, hb4⟩
  have HB4 : Hid (Below w.heap.size w w4) := below_to HB3.out hb4
  clear hb4
  go_wp2_with fail
  go_loopw [10] (fun i wr => ∃ k : Nat, k ≤ 2 ∧ i = .int .i64 (k : Int) ∧ Hid (Below w.heap.size w wr)) (fun i _ => 2 - (intOf i).toNat)
  case atStart => exact ⟨0, by omega, rfl, HB4⟩
  case round =>
    obtain ⟨k, hk, rfl, HB⟩ := hrel
    by_cases hlt : k < 2
    · cases hway : Sp.way s with
      | err n' e' =>
        rw [hway] at HPA HRP
        have HWP : Hid (∀ (B : Nat) (W : World), B ≤ W.heap.size → Calls Tryd.prog 10 #[.slice none 0 0, .slice none 0 0] W fun e w' => e = .returned (.bool true) ∧ Below B W w') := fun B W hB => by
          have := wiped_none [] none 0 B W hB (fun j x hx => by simp at hx) (by simp)
          simp only [decide_true] at this
          exact this
        unfold PWay.is at HPA HRP
        go_wp2_with fail
        refine (HPA.out _ HB.out).mono ?_
        rintro e w5 ⟨⟨rfl, _, hn5⟩, hb5⟩
        have HB5 : Hid (Below w.heap.size w w5) := below_to HB.out hb5
        clear hb5
        go_wp2_with fail
        refine (HRP.out _).mono ?_
        rintro e w6 ⟨⟨rfl, _, _⟩, hb6⟩
        have HB6 : Hid (Below w.heap.size w w6) := below_to HB5.out hb6
        clear hb6
        have hnn : ((n' : Int) != (n' : Int)) = false := by simp
        have hee : (e' != e') = false := by simp
        go_wp2_with fail
        refine (HWP.out w.heap.size _ HB6.out.size).mono ?_
        rintro e w7 ⟨rfl, hb7⟩
        have HB7 : Hid (Below w.heap.size w w7) := HB6.out.trans hb7
        clear hb7
        go_wp2_with fail
        go_roundw
        case rel => exact ⟨k + 1, by omega, by go_num, HB7⟩
        case measure => simp [intOf]; omega
      | ok p =>
        rw [hway] at HPA HRP
        unfold PWay.is at HPA HRP
        go_wp2_with fail
        refine (HPA.out _ HB.out).mono ?_
        rintro e w5 ⟨⟨a5, c5, rfl, ho5, hn5, hl5⟩, hb5⟩
        have HB5 : Hid (Below w.heap.size w w5) := below_to HB.out hb5
        have HO5 : Hid (w5.ownsRow w.heap.size 32 3 (.slice a5 p.length c5) p.length (Sp.wcells p)) := own_base ho5 HB.out.size
        have HN5 : Hid (∀ x ∈ p, x.name.size ≤ maxLen) := hn5
        clear hb5 ho5 hn5
        go_wp2_with fail
        refine (HRP.out _).mono ?_
        rintro e w6 ⟨⟨a6, c6, rfl, ho6, _, _⟩, hb6⟩
        have HB6 : Hid (Below w.heap.size w w6) := below_to HB5.out hb6
        have HC : Hid (Calls Tryd.prog 10 #[.slice a5 p.length c5, .slice a6 p.length c6] w6 fun e w' => e = .returned (.bool true) ∧ Below w.heap.size w6 w') := by
          have := wiped_any p p a5 c5 a6 c6 w.heap.size w6 HB6.out.size (own_on HO5.out hb6) HN5.out hl5 (Rdw.of_own ho6 HN5.out) hl5
          simp only [decide_true] at this
          exact this
        clear hb6 ho6
        go_wp2_with fail
        refine HC.out.mono ?_
        rintro e w7 ⟨rfl, hb7⟩
        have HB7 : Hid (Below w.heap.size w w7) := HB6.out.trans hb7
        clear hb7
        go_wp2_with fail
        go_roundw
        case rel => exact ⟨k + 1, by omega, by go_num, HB7⟩
        case measure => simp [intOf]; omega
    · go_wp2_with fail
      go_ret
      exact ⟨rfl, HB.out⟩
end Go.Proofs.YthnanblilofdpaaDoor
