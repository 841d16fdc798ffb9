/- The document's reading of an index and of a name: tenonref04.index and name. -/
import Derived.Test.YtghnipbcbbphbaaDoorPParse
namespace Go.Proofs.YtghnipbcbbphbaaDoor
open Go.RowKit

theorem rbox {w w1 : World} {x y z : Value} {T : TypeId} {o : Obj} (hb : Below (w.heap.size + 1) ((w.alloc (.cells #[x, y, z] T)).alloc o) w1) : w1.cell? ⟨w.heap.size, 0, none⟩ = some x ∧ w1.cell? ⟨w.heap.size, 1, none⟩ = some y ∧ w1.cell? ⟨w.heap.size, 2, none⟩ = some z ∧ w1.frozen? ⟨w.heap.size, 0, none⟩ = false ∧ w1.frozen? ⟨w.heap.size, 1, none⟩ = false ∧ w1.frozen? ⟨w.heap.size, 2, none⟩ = false := by
  have hlt : w.heap.size < w.heap.size + 1 := by omega
  exact ⟨by rw [hb.cell (p := ⟨w.heap.size, 0, none⟩) hlt]; simp, by rw [hb.cell (p := ⟨w.heap.size, 1, none⟩) hlt]; simp, by rw [hb.cell (p := ⟨w.heap.size, 2, none⟩) hlt]; simp, by rw [hb.frozen (p := ⟨w.heap.size, 0, none⟩) hlt]; simp, by rw [hb.frozen (p := ⟨w.heap.size, 1, none⟩) hlt]; simp, by rw [hb.frozen (p := ⟨w.heap.size, 2, none⟩) hlt]; simp⟩

set_option maxRecDepth 100000 in
set_option maxHeartbeats 2000000 in
theorem rIndex_any (s : ByteArray) (i : Nat) (w : World) (hs : s.size ≤ 140737488355328) (hi : i < s.size) :
    Calls Tryd.prog 15 #[.string s, .int .i64 (i : Int)] w fun e w' => e = .returned (Sp.rdIdx s i).val ∧ Below w.heap.size w w' := by
  have HRU : Hid (Calls Tryd.prog 20 #[.pointer (some ⟨w.heap.size + 1, 0, none⟩), .int .i64 2] ((w.alloc (.cells #[.string ⟨#[]⟩, .bool false, .int .i64 0] 39)).alloc (.cells #[.string s, .int .i64 ((i : Int) + 1), .int .i64 0, .int .i64 0, .int .i64 0] 54)) fun e w' => e = .returned (.string (s.extract (i + 1) (Sp.span Sp.digit s (i + 1)))) ∧ Rdr2 w' (w.heap.size + 1) s (Sp.span Sp.digit s (i + 1)) ∧ Below (w.heap.size + 1) ((w.alloc (.cells #[.string ⟨#[]⟩, .bool false, .int .i64 0] 39)).alloc (.cells #[.string s, .int .i64 ((i : Int) + 1), .int .i64 0, .int .i64 0, .int .i64 0] 54)) w') :=
    Run_fig s (i + 1) (w.heap.size + 1) _ (by unfold maxLen; omega) (by omega) ⟨by simp, by simp, by simp⟩
  obtain ⟨h1, h2, h3⟩ := Sp.span_bd Sp.digit s _ (i + 1) (Nat.le_refl _) (by omega)
  have HSZ : Hid ((s.extract (i + 1) (Sp.span Sp.digit s (i + 1))).size = Sp.span Sp.digit s (i + 1) - (i + 1)) := Sp.size_ext _ _ _ h2
  have HDG : Hid (Sp.digs (s.extract (i + 1) (Sp.span Sp.digit s (i + 1))).data.toList) := Sp.cutL_digs s (i + 1) _ h2 (fun k a b => h3 k a b)
  have HB0 : Hid (i + 1 < Sp.span Sp.digit s (i + 1) → Sp.byte (s.extract (i + 1) (Sp.span Sp.digit s (i + 1))) 0 = Sp.byte s (i + 1)) := fun h => Sp.byte_ext s (i + 1) _ 0 h2 h
  have HHD : Hid (i + 1 < Sp.span Sp.digit s (i + 1) → Sp.byte s (i + 1) ≠ 48 → (s.extract (i + 1) (Sp.span Sp.digit s (i + 1))).data.toList.head? ≠ some 48) := fun h hb => Sp.cutL_head s (i + 1) _ h2 h hb
  clear h3
  unfold Sp.rdIdx Sp.cutL
  generalize Sp.span Sp.digit s (i + 1) = j at *
  simp only
  generalize s.extract (i + 1) j = d at HRU HSZ HDG HB0 HHD ⊢
  have hdl : d.size ≤ s.size := by have := HSZ.out; omega
  by_cases c1 : j = s.size
  · have c1' : ((j : Int) == (s.size : Int)) = true := by simp [c1]
    have HJ : Hid (j = s.size) := c1
    rw [if_pos c1]
    unfold PRes.val
    clear c1
    go_enter Tryd.func15, Tryd.ntmps15
    go_wp2_with fail
    refine HRU.out.mono ?_
    rintro e w1 ⟨rfl, hr1, hb1⟩
    obtain ⟨r0, r1, _⟩ := hr1
    obtain ⟨z0, z1, z2, y0, y1, y2⟩ := rbox hb1
    have HB1 : Hid (Below w.heap.size w w1) := (((Below.refl _ _).alloc (Nat.le_refl _) _).alloc (by simp) _).trans (hb1.mono (by omega))
    clear hb1
    obtain ⟨k0, k1, k2⟩ := set3 (.string ⟨#[]⟩) (.bool false) (.int .i64 0) z0 z1 z2
    go_wp2_with fail
    exact bodyPost_ret (v := .tuple #[.agg #[.string ByteArray.empty, .bool false, .int .i64 0], .int .i64 (s.size : Int), .int .i64 4]) (by simp [results, Tryd.results15, go_sem, k0, k1, k2] <;> rfl) rfl ⟨by rw [HJ.out], set3_bel HB1.out _ _ _⟩
  · have c1' : ((j : Int) == (s.size : Int)) = false := by simp; omega
    have hjs : j < s.size := by omega
    rw [if_neg c1]
    clear c1
    have hbj := byte_bd s j
    have ej := byte_at s j hjs
    by_cases c2 : j = i + 1
    · have hem : d.toList.isEmpty = true := toList_em (by have := HSZ.out; omega)
      rw [if_pos (.inl c2)]
      unfold PRes.val
      clear c2
      go_enter Tryd.func15, Tryd.ntmps15
      go_wp2_with fail
      refine HRU.out.mono ?_
      rintro e w1 ⟨rfl, hr1, hb1⟩
      obtain ⟨r0, r1, _⟩ := hr1
      obtain ⟨z0, z1, z2, y0, y1, y2⟩ := rbox hb1
      have HB1 : Hid (Below w.heap.size w w1) := (((Below.refl _ _).alloc (Nat.le_refl _) _).alloc (by simp) _).trans (hb1.mono (by omega))
      clear hb1
      obtain ⟨k0, k1, k2⟩ := set3 (.string ⟨#[]⟩) (.bool false) (.int .i64 0) z0 z1 z2
      go_wp2_with fail
      exact bodyPost_ret (v := .tuple #[.agg #[.string ByteArray.empty, .bool false, .int .i64 0], .int .i64 (i : Int), .int .i64 3]) (by simp [results, Tryd.results15, go_sem, k0, k1, k2] <;> rfl) rfl ⟨rfl, set3_bel HB1.out _ _ _⟩
    · have hdp : 0 < d.size := by have := HSZ.out; omega
      have hem : d.toList.isEmpty = false := toList_ne (by omega)
      have hb0 := byte_bd d 0
      have e0 := byte_at d 0 hdp
      have HB0' : Hid (Sp.byte d 0 = Sp.byte s (i + 1)) := HB0.out (by omega)
      by_cases c3 : 1 < d.size ∧ Sp.byte d 0 = 48
      · have h48 : (Sp.byte d 0 == 48) = true := by simp [c3.2]
        have hd1 := c3.1
        rw [if_pos (.inr (.inl ⟨by have := HSZ.out; omega, by rw [← HB0'.out]; exact c3.2⟩))]
        unfold PRes.val
        clear c3 c2
        go_enter Tryd.func15, Tryd.ntmps15
        go_wp2_with fail
        refine HRU.out.mono ?_
        rintro e w1 ⟨rfl, hr1, hb1⟩
        obtain ⟨r0, r1, _⟩ := hr1
        obtain ⟨z0, z1, z2, y0, y1, y2⟩ := rbox hb1
        have HB1 : Hid (Below w.heap.size w w1) := (((Below.refl _ _).alloc (Nat.le_refl _) _).alloc (by simp) _).trans (hb1.mono (by omega))
        clear hb1
        obtain ⟨k0, k1, k2⟩ := set3 (.string ⟨#[]⟩) (.bool false) (.int .i64 0) z0 z1 z2
        go_wp2_with fail
        exact bodyPost_ret (v := .tuple #[.agg #[.string ByteArray.empty, .bool false, .int .i64 0], .int .i64 (i : Int), .int .i64 3]) (by simp [results, Tryd.results15, go_sem, k0, k1, k2] <;> rfl) rfl ⟨rfl, set3_bel HB1.out _ _ _⟩
      · have HC3 : Hid (¬ (i + 2 < j ∧ Sp.byte s (i + 1) = 48)) := fun h => c3 ⟨by have := HSZ.out; omega, by rw [HB0'.out]; exact h.2⟩
        have HDD : Hid (1 < d.size → d.data.toList.head? ≠ some 48) := fun h => HHD.out (by have := HSZ.out; omega) (fun e => HC3.out ⟨by have := HSZ.out; omega, e⟩)
        by_cases c4 : Sp.byte s j = 93
        · have h93 : (Sp.byte s j != 93) = false := by simp [c4]
          have HC4 : Hid (¬ (j = i + 1 ∨ (i + 2 < j ∧ Sp.byte s (i + 1) = 48) ∨ Sp.byte s j ≠ 93)) := by
            rintro (h | h | h)
            · exact c2 h
            · exact HC3.out h
            · exact h c4
          rw [if_neg HC4.out]
          clear c4
          have HNT : Hid (∀ W, Calls Tryd.prog 21 #[.string d] W fun e w' => NatE d e ∧ Below W.heap.size W w') := fun W => Natural_any d W (by unfold maxLen; omega) hdp HDG.out HDD.out
          by_cases h48 : Sp.byte d 0 = 48
          · have h48' : (Sp.byte d 0 == 48) = true := by simp [h48]
            have hd1' : d.size ≤ 1 := by
              rcases Nat.lt_or_ge 1 d.size with h' | h'
              · exact absurd ⟨h', h48⟩ c3
              · exact h'
            clear c3 c2 h48
            by_cases hc5 : 4096 ≤ Sp.num d.data.toList
            · rw [if_pos hc5]
              unfold PRes.val
              go_enter Tryd.func15, Tryd.ntmps15
              go_wp2_with fail
              refine HRU.out.mono ?_
              rintro e w1 ⟨rfl, hr1, hb1⟩
              have HR1 : Hid (Rdr2 w1 (w.heap.size + 1) s j) := hr1
              obtain ⟨r0, r1, _⟩ := hr1
              have HB1 : Hid (Below w.heap.size w w1) := (((Below.refl _ _).alloc (Nat.le_refl _) _).alloc (by simp) _).trans (hb1.mono (by omega))
              have HZ1 : Hid (Below (w.heap.size + 1) ((w.alloc (.cells #[.string ⟨#[]⟩, .bool false, .int .i64 0] 39)).alloc (.cells #[.string s, .int .i64 ((i : Int) + 1), .int .i64 0, .int .i64 0, .int .i64 0] 54)) w1) := hb1
              clear hb1
              go_wp2_with fail
              refine (HNT.out _).mono ?_
              rintro e w2 ⟨hN, hb2⟩
              have HB2 : Hid (Below w.heap.size w w2) := below_to HB1.out hb2
              obtain ⟨z0, z1, z2, y0, y1, y2⟩ := rbox (HZ1.out.trans (hb2.mono (by have := HZ1.out.size; simp at this; omega)))
              obtain ⟨q0, q1, _⟩ := HR1.out.on hb2
              clear hb2 r0 r1
              obtain ⟨n, ok, rfl, h4, h5⟩ := hN
              obtain ⟨k0, k1, k2⟩ := set3 (.string ⟨#[]⟩) (.bool false) (.int .i64 0) z0 z1 z2
              cases ok with
              | true =>
                have hn : 4096 ≤ n := by have := h4 rfl; omega
                clear h4 h5
                go_wp2_with fail
                exact bodyPost_ret (v := .tuple #[.agg #[.string ByteArray.empty, .bool false, .int .i64 0], .int .i64 (i : Int), .int .i64 1]) (by simp [results, Tryd.results15, go_sem, k0, k1, k2] <;> rfl) rfl ⟨rfl, set3_bel HB2.out _ _ _⟩
              | false =>
                clear h4 h5
                go_wp2_with fail
                exact bodyPost_ret (v := .tuple #[.agg #[.string ByteArray.empty, .bool false, .int .i64 0], .int .i64 (i : Int), .int .i64 1]) (by simp [results, Tryd.results15, go_sem, k0, k1, k2] <;> rfl) rfl ⟨rfl, set3_bel HB2.out _ _ _⟩
            · rw [if_neg hc5]
              unfold PRes.val
              go_enter Tryd.func15, Tryd.ntmps15
              go_wp2_with fail
              refine HRU.out.mono ?_
              rintro e w1 ⟨rfl, hr1, hb1⟩
              have HR1 : Hid (Rdr2 w1 (w.heap.size + 1) s j) := hr1
              obtain ⟨r0, r1, _⟩ := hr1
              have HB1 : Hid (Below w.heap.size w w1) := (((Below.refl _ _).alloc (Nat.le_refl _) _).alloc (by simp) _).trans (hb1.mono (by omega))
              have HZ1 : Hid (Below (w.heap.size + 1) ((w.alloc (.cells #[.string ⟨#[]⟩, .bool false, .int .i64 0] 39)).alloc (.cells #[.string s, .int .i64 ((i : Int) + 1), .int .i64 0, .int .i64 0, .int .i64 0] 54)) w1) := hb1
              clear hb1
              go_wp2_with fail
              refine (HNT.out _).mono ?_
              rintro e w2 ⟨hN, hb2⟩
              have HB2 : Hid (Below w.heap.size w w2) := below_to HB1.out hb2
              obtain ⟨z0, z1, z2, y0, y1, y2⟩ := rbox (HZ1.out.trans (hb2.mono (by have := HZ1.out.size; simp at this; omega)))
              obtain ⟨q0, q1, _⟩ := HR1.out.on hb2
              clear hb2 r0 r1
              obtain ⟨n, ok, rfl, h4, h5⟩ := hN
              cases ok with
              | true =>
                have HN : Hid (n = (Sp.num d.data.toList : Int)) := h4 rfl
                have hn : n < 4096 := by have := HN.out; omega
                have hn0 : 0 ≤ n := by have := HN.out; omega
                obtain ⟨k0, k1, k2⟩ := set3 (.string ⟨#[]⟩) (.bool true) (.int .i64 n) z0 z1 z2
                clear h4 h5
                go_wp2_with fail
                go_region
                go_wp2_with fail
                exact bodyPost_ret (v := .tuple #[.agg #[.string ByteArray.empty, .bool true, .int .i64 n], .int .i64 ((j : Int) + 1), .int .i64 0]) (by simp [results, Tryd.results15, go_sem, k0, k1, k2] <;> rfl) rfl ⟨by rw [HN.out]; rfl, (set3_bel HB2.out _ _ _).drew⟩
              | false => exact absurd (h5 rfl) hc5
          · have h48' : (Sp.byte d 0 == 48) = false := by simp [h48]
            clear c3 c2 h48
            by_cases hc5 : 4096 ≤ Sp.num d.data.toList
            · rw [if_pos hc5]
              unfold PRes.val
              go_enter Tryd.func15, Tryd.ntmps15
              go_wp2_with fail
              refine HRU.out.mono ?_
              rintro e w1 ⟨rfl, hr1, hb1⟩
              have HR1 : Hid (Rdr2 w1 (w.heap.size + 1) s j) := hr1
              obtain ⟨r0, r1, _⟩ := hr1
              have HB1 : Hid (Below w.heap.size w w1) := (((Below.refl _ _).alloc (Nat.le_refl _) _).alloc (by simp) _).trans (hb1.mono (by omega))
              have HZ1 : Hid (Below (w.heap.size + 1) ((w.alloc (.cells #[.string ⟨#[]⟩, .bool false, .int .i64 0] 39)).alloc (.cells #[.string s, .int .i64 ((i : Int) + 1), .int .i64 0, .int .i64 0, .int .i64 0] 54)) w1) := hb1
              clear hb1
              go_wp2_with fail
              refine (HNT.out _).mono ?_
              rintro e w2 ⟨hN, hb2⟩
              have HB2 : Hid (Below w.heap.size w w2) := below_to HB1.out hb2
              obtain ⟨z0, z1, z2, y0, y1, y2⟩ := rbox (HZ1.out.trans (hb2.mono (by have := HZ1.out.size; simp at this; omega)))
              obtain ⟨q0, q1, _⟩ := HR1.out.on hb2
              clear hb2 r0 r1
              obtain ⟨n, ok, rfl, h4, h5⟩ := hN
              obtain ⟨k0, k1, k2⟩ := set3 (.string ⟨#[]⟩) (.bool false) (.int .i64 0) z0 z1 z2
              cases ok with
              | true =>
                have hn : 4096 ≤ n := by have := h4 rfl; omega
                clear h4 h5
                go_wp2_with fail
                exact bodyPost_ret (v := .tuple #[.agg #[.string ByteArray.empty, .bool false, .int .i64 0], .int .i64 (i : Int), .int .i64 1]) (by simp [results, Tryd.results15, go_sem, k0, k1, k2] <;> rfl) rfl ⟨rfl, set3_bel HB2.out _ _ _⟩
              | false =>
                clear h4 h5
                go_wp2_with fail
                exact bodyPost_ret (v := .tuple #[.agg #[.string ByteArray.empty, .bool false, .int .i64 0], .int .i64 (i : Int), .int .i64 1]) (by simp [results, Tryd.results15, go_sem, k0, k1, k2] <;> rfl) rfl ⟨rfl, set3_bel HB2.out _ _ _⟩
            · rw [if_neg hc5]
              unfold PRes.val
              go_enter Tryd.func15, Tryd.ntmps15
              go_wp2_with fail
              refine HRU.out.mono ?_
              rintro e w1 ⟨rfl, hr1, hb1⟩
              have HR1 : Hid (Rdr2 w1 (w.heap.size + 1) s j) := hr1
              obtain ⟨r0, r1, _⟩ := hr1
              have HB1 : Hid (Below w.heap.size w w1) := (((Below.refl _ _).alloc (Nat.le_refl _) _).alloc (by simp) _).trans (hb1.mono (by omega))
              have HZ1 : Hid (Below (w.heap.size + 1) ((w.alloc (.cells #[.string ⟨#[]⟩, .bool false, .int .i64 0] 39)).alloc (.cells #[.string s, .int .i64 ((i : Int) + 1), .int .i64 0, .int .i64 0, .int .i64 0] 54)) w1) := hb1
              clear hb1
              go_wp2_with fail
              refine (HNT.out _).mono ?_
              rintro e w2 ⟨hN, hb2⟩
              have HB2 : Hid (Below w.heap.size w w2) := below_to HB1.out hb2
              obtain ⟨z0, z1, z2, y0, y1, y2⟩ := rbox (HZ1.out.trans (hb2.mono (by have := HZ1.out.size; simp at this; omega)))
              obtain ⟨q0, q1, _⟩ := HR1.out.on hb2
              clear hb2 r0 r1
              obtain ⟨n, ok, rfl, h4, h5⟩ := hN
              cases ok with
              | true =>
                have HN : Hid (n = (Sp.num d.data.toList : Int)) := h4 rfl
                have hn : n < 4096 := by have := HN.out; omega
                have hn0 : 0 ≤ n := by have := HN.out; omega
                obtain ⟨k0, k1, k2⟩ := set3 (.string ⟨#[]⟩) (.bool true) (.int .i64 n) z0 z1 z2
                clear h4 h5
                go_wp2_with fail
                go_region
                go_wp2_with fail
                exact bodyPost_ret (v := .tuple #[.agg #[.string ByteArray.empty, .bool true, .int .i64 n], .int .i64 ((j : Int) + 1), .int .i64 0]) (by simp [results, Tryd.results15, go_sem, k0, k1, k2] <;> rfl) rfl ⟨by rw [HN.out]; rfl, (set3_bel HB2.out _ _ _).drew⟩
              | false => exact absurd (h5 rfl) hc5
        · have h93 : (Sp.byte s j != 93) = true := by simp [c4]
          rw [if_pos (.inr (.inr c4))]
          unfold PRes.val
          clear c4
          by_cases h48 : Sp.byte d 0 = 48
          · have h48' : (Sp.byte d 0 == 48) = true := by simp [h48]
            have hd1' : d.size ≤ 1 := by
              rcases Nat.lt_or_ge 1 d.size with h' | h'
              · exact absurd ⟨h', h48⟩ c3
              · exact h'
            clear c3 c2 h48
            go_enter Tryd.func15, Tryd.ntmps15
            go_wp2_with fail
            refine HRU.out.mono ?_
            rintro e w1 ⟨rfl, hr1, hb1⟩
            obtain ⟨r0, r1, _⟩ := hr1
            obtain ⟨z0, z1, z2, y0, y1, y2⟩ := rbox hb1
            have HB1 : Hid (Below w.heap.size w w1) := (((Below.refl _ _).alloc (Nat.le_refl _) _).alloc (by simp) _).trans (hb1.mono (by omega))
            clear hb1
            obtain ⟨k0, k1, k2⟩ := set3 (.string ⟨#[]⟩) (.bool false) (.int .i64 0) z0 z1 z2
            go_wp2_with fail
            exact bodyPost_ret (v := .tuple #[.agg #[.string ByteArray.empty, .bool false, .int .i64 0], .int .i64 (i : Int), .int .i64 3]) (by simp [results, Tryd.results15, go_sem, k0, k1, k2] <;> rfl) rfl ⟨rfl, set3_bel HB1.out _ _ _⟩
          · have h48' : (Sp.byte d 0 == 48) = false := by simp [h48]
            clear c3 c2 h48
            go_enter Tryd.func15, Tryd.ntmps15
            go_wp2_with fail
            refine HRU.out.mono ?_
            rintro e w1 ⟨rfl, hr1, hb1⟩
            obtain ⟨r0, r1, _⟩ := hr1
            obtain ⟨z0, z1, z2, y0, y1, y2⟩ := rbox hb1
            have HB1 : Hid (Below w.heap.size w w1) := (((Below.refl _ _).alloc (Nat.le_refl _) _).alloc (by simp) _).trans (hb1.mono (by omega))
            clear hb1
            obtain ⟨k0, k1, k2⟩ := set3 (.string ⟨#[]⟩) (.bool false) (.int .i64 0) z0 z1 z2
            go_wp2_with fail
            exact bodyPost_ret (v := .tuple #[.agg #[.string ByteArray.empty, .bool false, .int .i64 0], .int .i64 (i : Int), .int .i64 3]) (by simp [results, Tryd.results15, go_sem, k0, k1, k2] <;> rfl) rfl ⟨rfl, set3_bel HB1.out _ _ _⟩
end Go.Proofs.YtghnipbcbbphbaaDoor
