/- path.readIndex, readName and readStep. -/
import Derived.Test.YtghnipbcbbphbaaDoorPEnv
import Derived.Test.YtghnipbcbbphbaaDoorPRun
import Derived.Test.YtghnipbcbbphbaaDoorPWay
namespace Go.Proofs.YtghnipbcbbphbaaDoor
open Go.RowKit

theorem bcell {W w1 : World} (hb : Below W.heap.size W w1) : (∀ b o, b < W.heap.size → w1.cell? ⟨b, o, none⟩ = W.cell? ⟨b, o, none⟩) ∧ (∀ b o, b < W.heap.size → w1.frozen? ⟨b, o, none⟩ = W.frozen? ⟨b, o, none⟩) :=
  ⟨fun b o h => hb.cell (p := ⟨b, o, none⟩) h, fun b o h => hb.frozen (p := ⟨b, o, none⟩) h⟩
theorem set3 {W : World} {g : Nat} (x y z : Value) {a b c : Value} (ha : W.cell? ⟨g, 0, none⟩ = some a) (hb : W.cell? ⟨g, 1, none⟩ = some b) (hc : W.cell? ⟨g, 2, none⟩ = some c) :
    (((W.setCell ⟨g, 0, none⟩ x).setCell ⟨g, 1, none⟩ y).setCell ⟨g, 2, none⟩ z).cell? ⟨g, 0, none⟩ = some x ∧ (((W.setCell ⟨g, 0, none⟩ x).setCell ⟨g, 1, none⟩ y).setCell ⟨g, 2, none⟩ z).cell? ⟨g, 1, none⟩ = some y ∧ (((W.setCell ⟨g, 0, none⟩ x).setCell ⟨g, 1, none⟩ y).setCell ⟨g, 2, none⟩ z).cell? ⟨g, 2, none⟩ = some z :=
  ⟨by rw [sc_ne (by simp), sc_ne (by simp)]; exact sc_eq ha, by rw [sc_ne (by simp)]; exact sc_eq (by rw [sc_ne (by simp)]; exact hb), sc_eq (by rw [sc_ne (by simp), sc_ne (by simp)]; exact hc)⟩
theorem set3_bel {w W : World} (h : Below w.heap.size w W) (x y z : Value) : Below w.heap.size w (((W.setCell ⟨w.heap.size, 0, none⟩ x).setCell ⟨w.heap.size, 1, none⟩ y).setCell ⟨w.heap.size, 2, none⟩ z) :=
  ((h.setCell (p := ⟨w.heap.size, 0, none⟩) (Nat.le_refl _) x).setCell (p := ⟨w.heap.size, 1, none⟩) (Nat.le_refl _) y).setCell (p := ⟨w.heap.size, 2, none⟩) (Nat.le_refl _) z
theorem zbox {w w1 : World} {x y z : Value} {T : TypeId} (hb : Below (w.alloc (.cells #[x, y, z] T)).heap.size (w.alloc (.cells #[x, y, z] T)) w1) : w1.cell? ⟨w.heap.size, 0, none⟩ = some x ∧ w1.cell? ⟨w.heap.size, 1, none⟩ = some y ∧ w1.cell? ⟨w.heap.size, 2, none⟩ = some z ∧ w1.frozen? ⟨w.heap.size, 0, none⟩ = false ∧ w1.frozen? ⟨w.heap.size, 1, none⟩ = false ∧ w1.frozen? ⟨w.heap.size, 2, none⟩ = false := by
  obtain ⟨hc, hf⟩ := bcell hb
  have hlt : w.heap.size < (w.alloc (.cells #[x, y, z] T)).heap.size := by simp
  exact ⟨by rw [hc _ _ hlt]; simp, by rw [hc _ _ hlt]; simp, by rw [hc _ _ hlt]; simp, by rw [hf _ _ hlt]; simp, by rw [hf _ _ hlt]; simp, by rw [hf _ _ hlt]; simp⟩
/-- a step as a value -/
def Stp.val (x : Stp) : Value := .agg #[.string x.name, .bool x.at', .int .i64 x.idx]
/-- what a reader of a step answers -/
def PRes.val : PRes → Value
  | .err n e => .tuple #[.agg #[.string ByteArray.empty, .bool false, .int .i64 0], .int .i64 (n : Int), .int .i64 e]
  | .ok x n => .tuple #[.agg #[.string x.name, .bool x.at', .int .i64 x.idx], .int .i64 (n : Int), .int .i64 0]


set_option maxRecDepth 100000 in
set_option maxHeartbeats 2000000 in
theorem readIndex_any (s : ByteArray) (i : Nat) (w : World) (hs : s.size ≤ 140737488355328) (hi : i < s.size) (henv : Env w) :
    Calls Tryd.prog 18 #[.string s, .int .i64 (i : Int)] w fun e w' => e = .returned (Sp.rdIdx s i).val ∧ Below w.heap.size w w' := by
  have HENV : Hid (Env w) := henv
  have HRU : Hid (∀ W, Calls Tryd.prog 22 #[.string (s.extract (i + 1) s.size), .func (.func 23) #[] #[]] W fun e w' => e = .returned (.string (s.extract (i + 1) (Sp.span Sp.digit s (i + 1)))) ∧ W = w') := fun W => by
    have := run_dig (s.extract (i + 1) s.size) W (by unfold maxLen; rw [Sp.size_ext _ _ _ (Nat.le_refl _)]; omega)
    rw [Sp.run_ext Sp.digit s (i + 1) (by omega)] at this
    exact this
  obtain ⟨h1, h2, h3⟩ := Sp.span_bd Sp.digit s _ (i + 1) (Nat.le_refl _) (by omega)
  have HSZ : Hid ((s.extract (i + 1) (Sp.span Sp.digit s (i + 1))).size = Sp.span Sp.digit s (i + 1) - (i + 1)) := Sp.size_ext _ _ _ h2
  have HDG : Hid (Sp.digs (s.extract (i + 1) (Sp.span Sp.digit s (i + 1))).data.toList) := Sp.cutL_digs s (i + 1) _ h2 (fun k a b => h3 k a b)
  have HB0 : Hid (i + 1 < Sp.span Sp.digit s (i + 1) → Sp.byte (s.extract (i + 1) (Sp.span Sp.digit s (i + 1))) 0 = Sp.byte s (i + 1)) := fun h => Sp.byte_ext s (i + 1) _ 0 h2 h
  clear h3 henv
  unfold Sp.rdIdx Sp.cutL
  generalize Sp.span Sp.digit s (i + 1) = j at *
  simp only
  generalize s.extract (i + 1) j = d at HRU HSZ HDG HB0 ⊢
  have hj : (i : Int) + 1 + (d.size : Int) = (j : Int) := by have := HSZ.out; omega
  have hdl : d.size ≤ s.size := by have := HSZ.out; omega
  by_cases c1 : j = s.size
  · have c1' : ((j : Int) == (s.size : Int)) = true := by simp [c1]
    rw [if_pos c1]
    unfold PRes.val
    clear c1
    go_enter Tryd.func18, Tryd.ntmps18
    go_wp2_with (go_at_call 22; refine (HRU.out _).mono ?_; rintro e w' ⟨rfl, rfl⟩)
    exact bodyPost_ret (v := .tuple #[.agg #[.string ByteArray.empty, .bool false, .int .i64 0], .int .i64 (j : Int), .int .i64 4]) (by simp [results, Tryd.results18, go_sem] <;> rfl) rfl ⟨rfl, (Below.refl _ _).alloc (Nat.le_refl _) _⟩
  · have c1' : ((j : Int) == (s.size : Int)) = false := by simp; omega
    have hjs : j < s.size := by omega
    rw [if_neg c1]
    clear c1
    have hbj := byte_bd s j
    have ej := byte_at s j hjs
    by_cases c2 : j = i + 1
    · have hem : d.toList.isEmpty = true := toList_em (by have := HSZ.out; omega)
      rw [if_pos (.inl c2)]
      unfold PRes.val
      clear c2
      go_enter Tryd.func18, Tryd.ntmps18
      go_wp2_with (go_at_call 22; refine (HRU.out _).mono ?_; rintro e w' ⟨rfl, rfl⟩)
      exact bodyPost_ret (v := .tuple #[.agg #[.string ByteArray.empty, .bool false, .int .i64 0], .int .i64 (i : Int), .int .i64 3]) (by simp [results, Tryd.results18, go_sem] <;> rfl) rfl ⟨rfl, (Below.refl _ _).alloc (Nat.le_refl _) _⟩
    · have hdp : 0 < d.size := by have := HSZ.out; omega
      have hem : d.toList.isEmpty = false := toList_ne (by omega)
      have hb0 := byte_bd d 0
      have e0 := byte_at d 0 hdp
      have HB0' : Hid (Sp.byte d 0 = Sp.byte s (i + 1)) := HB0.out (by omega)
      by_cases c3 : 1 < d.size ∧ Sp.byte d 0 = 48
      · have h48 : (Sp.byte d 0 == 48) = true := by simp [c3.2]
        have hd1 := c3.1
        rw [if_pos (.inr (.inl ⟨by have := HSZ.out; omega, by rw [← HB0'.out]; exact c3.2⟩))]
        unfold PRes.val
        clear c3 c2
        go_enter Tryd.func18, Tryd.ntmps18
        go_wp2_with (go_at_call 22; refine (HRU.out _).mono ?_; rintro e w' ⟨rfl, rfl⟩)
        exact bodyPost_ret (v := .tuple #[.agg #[.string ByteArray.empty, .bool false, .int .i64 0], .int .i64 (i : Int), .int .i64 3]) (by simp [results, Tryd.results18, go_sem] <;> rfl) rfl ⟨rfl, (Below.refl _ _).alloc (Nat.le_refl _) _⟩
      · have HC3 : Hid (¬ (i + 2 < j ∧ Sp.byte s (i + 1) = 48)) := fun h => c3 ⟨by have := HSZ.out; omega, by rw [HB0'.out]; exact h.2⟩
        by_cases c4 : Sp.byte s j = 93
        · have h93 : (Sp.byte s j != 93) = false := by simp [c4]
          have HC4 : Hid (¬ (j = i + 1 ∨ (i + 2 < j ∧ Sp.byte s (i + 1) = 48) ∨ Sp.byte s j ≠ 93)) := by
            rintro (h | h | h)
            · exact c2 h
            · exact HC3.out h
            · exact h c4
          rw [if_neg HC4.out]
          clear c4
          have HAT : Hid (∀ W, Below w.heap.size w W → Calls Tryd.prog 24 #[.string d] W fun e w' => AtoiE d e ∧ Below W.heap.size W w') := fun W hW => Atoi_env d W (HENV.out.on hW) (by omega) (by omega) HDG.out
          have HDZ : Hid (1 < d.size → (Sp.byte d 0 == 48) = false) := fun h => by simp; intro e; exact c3 ⟨h, e⟩
          clear c3 c2
          by_cases hd1 : 1 < d.size
          · have h48 := HDZ.out hd1
            by_cases hc5 : 4096 ≤ Sp.num d.data.toList
            · rw [if_pos hc5]
              unfold PRes.val
              go_enter Tryd.func18, Tryd.ntmps18
              go_wp2_with (go_at_call 22; refine (HRU.out _).mono ?_; rintro e w' ⟨rfl, rfl⟩)
              refine (HAT.out _ ((Below.refl _ _).alloc (Nat.le_refl _) _)).mono ?_
              rintro e w1 ⟨hA, hb1⟩
              have HB1 : Hid (Below w.heap.size w w1) := below_to ((Below.refl _ _).alloc (Nat.le_refl _) _) hb1
              obtain ⟨z0, z1, z2, y0, y1, y2⟩ := zbox hb1
              clear hb1
              rcases hA with ⟨rfl, hn⟩ | ⟨v, N, rfl, hn⟩
              · generalize Sp.num d.data.toList = m at hn hc5 ⊢
                obtain ⟨k0, k1, k2⟩ := set3 (.string ⟨#[]⟩) (.bool false) (.int .i64 0) z0 z1 z2
                go_wp2_with fail
                exact bodyPost_ret (v := .tuple #[.agg #[.string ByteArray.empty, .bool false, .int .i64 0], .int .i64 (i : Int), .int .i64 1]) (by simp [results, Tryd.results18, go_sem, k0, k1, k2] <;> rfl) rfl ⟨rfl, set3_bel HB1.out _ _ _⟩
              · obtain ⟨k0, k1, k2⟩ := set3 (.string ⟨#[]⟩) (.bool false) (.int .i64 0) z0 z1 z2
                go_wp2_with fail
                exact bodyPost_ret (v := .tuple #[.agg #[.string ByteArray.empty, .bool false, .int .i64 0], .int .i64 (i : Int), .int .i64 1]) (by simp [results, Tryd.results18, go_sem, k0, k1, k2] <;> rfl) rfl ⟨rfl, set3_bel HB1.out _ _ _⟩
            · rw [if_neg hc5]
              unfold PRes.val
              go_enter Tryd.func18, Tryd.ntmps18
              go_wp2_with (go_at_call 22; refine (HRU.out _).mono ?_; rintro e w' ⟨rfl, rfl⟩)
              refine (HAT.out _ ((Below.refl _ _).alloc (Nat.le_refl _) _)).mono ?_
              rintro e w1 ⟨hA, hb1⟩
              have HB1 : Hid (Below w.heap.size w w1) := below_to ((Below.refl _ _).alloc (Nat.le_refl _) _) hb1
              obtain ⟨z0, z1, z2, y0, y1, y2⟩ := zbox hb1
              clear hb1
              rcases hA with ⟨rfl, hn⟩ | ⟨v, N, rfl, hn⟩
              · generalize hm : Sp.num d.data.toList = m at hn hc5 ⊢
                have HM : Hid (Sp.num d.data.toList = m) := hm
                clear hm
                obtain ⟨k0, k1, k2⟩ := set3 (.string ⟨#[]⟩) (.bool true) (.int .i64 (m : Int)) z0 z1 z2
                go_wp2_with fail
                exact bodyPost_ret (v := .tuple #[.agg #[.string ByteArray.empty, .bool true, .int .i64 (m : Int)], .int .i64 ((j : Int) + 1), .int .i64 0]) (by simp [results, Tryd.results18, go_sem, k0, k1, k2] <;> rfl) rfl ⟨by rw [HM.out]; rfl, set3_bel HB1.out _ _ _⟩
              · exact absurd hn hc5
          · have hd1' : d.size ≤ 1 := by omega
            by_cases hc5 : 4096 ≤ Sp.num d.data.toList
            · rw [if_pos hc5]
              unfold PRes.val
              go_enter Tryd.func18, Tryd.ntmps18
              go_wp2_with (go_at_call 22; refine (HRU.out _).mono ?_; rintro e w' ⟨rfl, rfl⟩)
              refine (HAT.out _ ((Below.refl _ _).alloc (Nat.le_refl _) _)).mono ?_
              rintro e w1 ⟨hA, hb1⟩
              have HB1 : Hid (Below w.heap.size w w1) := below_to ((Below.refl _ _).alloc (Nat.le_refl _) _) hb1
              obtain ⟨z0, z1, z2, y0, y1, y2⟩ := zbox hb1
              clear hb1
              rcases hA with ⟨rfl, hn⟩ | ⟨v, N, rfl, hn⟩
              · generalize Sp.num d.data.toList = m at hn hc5 ⊢
                obtain ⟨k0, k1, k2⟩ := set3 (.string ⟨#[]⟩) (.bool false) (.int .i64 0) z0 z1 z2
                go_wp2_with fail
                exact bodyPost_ret (v := .tuple #[.agg #[.string ByteArray.empty, .bool false, .int .i64 0], .int .i64 (i : Int), .int .i64 1]) (by simp [results, Tryd.results18, go_sem, k0, k1, k2] <;> rfl) rfl ⟨rfl, set3_bel HB1.out _ _ _⟩
              · obtain ⟨k0, k1, k2⟩ := set3 (.string ⟨#[]⟩) (.bool false) (.int .i64 0) z0 z1 z2
                go_wp2_with fail
                exact bodyPost_ret (v := .tuple #[.agg #[.string ByteArray.empty, .bool false, .int .i64 0], .int .i64 (i : Int), .int .i64 1]) (by simp [results, Tryd.results18, go_sem, k0, k1, k2] <;> rfl) rfl ⟨rfl, set3_bel HB1.out _ _ _⟩
            · rw [if_neg hc5]
              unfold PRes.val
              go_enter Tryd.func18, Tryd.ntmps18
              go_wp2_with (go_at_call 22; refine (HRU.out _).mono ?_; rintro e w' ⟨rfl, rfl⟩)
              refine (HAT.out _ ((Below.refl _ _).alloc (Nat.le_refl _) _)).mono ?_
              rintro e w1 ⟨hA, hb1⟩
              have HB1 : Hid (Below w.heap.size w w1) := below_to ((Below.refl _ _).alloc (Nat.le_refl _) _) hb1
              obtain ⟨z0, z1, z2, y0, y1, y2⟩ := zbox hb1
              clear hb1
              rcases hA with ⟨rfl, hn⟩ | ⟨v, N, rfl, hn⟩
              · generalize hm : Sp.num d.data.toList = m at hn hc5 ⊢
                have HM : Hid (Sp.num d.data.toList = m) := hm
                clear hm
                obtain ⟨k0, k1, k2⟩ := set3 (.string ⟨#[]⟩) (.bool true) (.int .i64 (m : Int)) z0 z1 z2
                go_wp2_with fail
                exact bodyPost_ret (v := .tuple #[.agg #[.string ByteArray.empty, .bool true, .int .i64 (m : Int)], .int .i64 ((j : Int) + 1), .int .i64 0]) (by simp [results, Tryd.results18, go_sem, k0, k1, k2] <;> rfl) rfl ⟨by rw [HM.out]; rfl, set3_bel HB1.out _ _ _⟩
              · exact absurd hn hc5
        · have h93 : (Sp.byte s j != 93) = true := by simp [c4]
          rw [if_pos (.inr (.inr c4))]
          unfold PRes.val
          clear c4
          by_cases hd1 : 1 < d.size
          · have h48 : (Sp.byte d 0 == 48) = false := by simp; intro e; exact c3 ⟨hd1, e⟩
            clear c3 c2
            go_enter Tryd.func18, Tryd.ntmps18
            go_wp2_with (go_at_call 22; refine (HRU.out _).mono ?_; rintro e w' ⟨rfl, rfl⟩)
            exact bodyPost_ret (v := .tuple #[.agg #[.string ByteArray.empty, .bool false, .int .i64 0], .int .i64 (i : Int), .int .i64 3]) (by simp [results, Tryd.results18, go_sem] <;> rfl) rfl ⟨rfl, (Below.refl _ _).alloc (Nat.le_refl _) _⟩
          · have hd1' : d.size ≤ 1 := by omega
            clear c3 c2
            go_enter Tryd.func18, Tryd.ntmps18
            go_wp2_with (go_at_call 22; refine (HRU.out _).mono ?_; rintro e w' ⟨rfl, rfl⟩)
            exact bodyPost_ret (v := .tuple #[.agg #[.string ByteArray.empty, .bool false, .int .i64 0], .int .i64 (i : Int), .int .i64 3]) (by simp [results, Tryd.results18, go_sem] <;> rfl) rfl ⟨rfl, (Below.refl _ _).alloc (Nat.le_refl _) _⟩
end Go.Proofs.YtghnipbcbbphbaaDoor
