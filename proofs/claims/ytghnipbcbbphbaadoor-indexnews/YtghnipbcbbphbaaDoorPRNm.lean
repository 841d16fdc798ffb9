/- The document's reading of a name: tenonref04.name. -/
import Derived.Test.YtghnipbcbbphbaaDoorPRIdx
namespace Go.Proofs.YtghnipbcbbphbaaDoor
open Go.RowKit

set_option maxRecDepth 100000 in
set_option maxHeartbeats 2000000 in
theorem rName_any (s : ByteArray) (i : Nat) (w : World) (hs : s.size ≤ 140737488355328) (hi : i ≤ s.size) :
    Calls Tryd.prog 16 #[.string s, .int .i64 (i : Int)] w fun e w' => e = .returned (Sp.rdName s i).val ∧ Below w.heap.size w w' := by
  have HRU : Hid (Calls Tryd.prog 20 #[.pointer (some ⟨w.heap.size + 1, 0, none⟩), .int .i64 0] ((w.alloc (.cells #[.string ⟨#[]⟩, .bool false, .int .i64 0] 39)).alloc (.cells #[.string s, .int .i64 (i : Int), .int .i64 0, .int .i64 0, .int .i64 0] 54)) fun e w' => e = .returned (.string (s.extract i (Sp.span Sp.nb s i))) ∧ Rdr2 w' (w.heap.size + 1) s (Sp.span Sp.nb s i) ∧ Below (w.heap.size + 1) ((w.alloc (.cells #[.string ⟨#[]⟩, .bool false, .int .i64 0] 39)).alloc (.cells #[.string s, .int .i64 (i : Int), .int .i64 0, .int .i64 0, .int .i64 0] 54)) w') :=
    Run_word s i (w.heap.size + 1) _ (by unfold maxLen; omega) (by omega) ⟨by simp, by simp, by simp⟩
  obtain ⟨h1, h2, _⟩ := Sp.span_bd Sp.nb s _ i (Nat.le_refl _) hi
  have HSZ : Hid ((s.extract i (Sp.span Sp.nb s i)).size = Sp.span Sp.nb s i - i) := Sp.size_ext _ _ _ h2
  unfold Sp.rdName
  generalize Sp.span Sp.nb s i = j at HRU h1 h2 HSZ ⊢
  simp only
  generalize s.extract i j = d at HRU HSZ ⊢
  have hdl : d.size ≤ s.size := by have := HSZ.out; omega
  have HIS : Hid (∀ W, Calls Tryd.prog 10 #[.string d] W fun e w' => e = .returned (.bool (Sp.isNm d)) ∧ W = w') := fun W => Name_any d W (by unfold maxLen; omega)
  by_cases c1 : i = s.size
  · have c1' : ((i : Int) == (s.size : Int)) = true := by simp [c1]
    have hem : d.toList.isEmpty = true := toList_em (by have := HSZ.out; omega)
    rw [if_pos c1]
    unfold PRes.val
    clear c1
    go_enter Tryd.func16, Tryd.ntmps16
    go_wp2_with fail
    refine HRU.out.mono ?_
    rintro e w1 ⟨rfl, hr1, hb1⟩
    obtain ⟨r0, r1, _⟩ := hr1
    obtain ⟨z0, z1, z2, y0, y1, y2⟩ := rbox hb1
    have HB1 : Hid (Below w.heap.size w w1) := (((Below.refl _ _).alloc (Nat.le_refl _) _).alloc (by simp) _).trans (hb1.mono (by omega))
    clear hb1
    obtain ⟨k0, k1, k2⟩ := set3 (.string ⟨#[]⟩) (.bool false) (.int .i64 0) z0 z1 z2
    go_wp2_with (go_at_call 10; refine (HIS.out _).mono ?_; rintro e w' ⟨rfl, rfl⟩)
    exact bodyPost_ret (v := .tuple #[.agg #[.string ByteArray.empty, .bool false, .int .i64 0], .int .i64 (i : Int), .int .i64 4]) (by simp [results, Tryd.results16, go_sem, k0, k1, k2] <;> rfl) rfl ⟨rfl, set3_bel HB1.out _ _ _⟩
  · have c1' : ((i : Int) == (s.size : Int)) = false := by simp; omega
    rw [if_neg c1]
    clear c1
    by_cases c2 : j = i
    · have hem : d.toList.isEmpty = true := toList_em (by have := HSZ.out; omega)
      rw [if_pos c2]
      unfold PRes.val
      clear c2
      go_enter Tryd.func16, Tryd.ntmps16
      go_wp2_with fail
      refine HRU.out.mono ?_
      rintro e w1 ⟨rfl, hr1, hb1⟩
      obtain ⟨r0, r1, _⟩ := hr1
      obtain ⟨z0, z1, z2, y0, y1, y2⟩ := rbox hb1
      have HB1 : Hid (Below w.heap.size w w1) := (((Below.refl _ _).alloc (Nat.le_refl _) _).alloc (by simp) _).trans (hb1.mono (by omega))
      clear hb1
      obtain ⟨k0, k1, k2⟩ := set3 (.string ⟨#[]⟩) (.bool false) (.int .i64 0) z0 z1 z2
      go_wp2_with (go_at_call 10; refine (HIS.out _).mono ?_; rintro e w' ⟨rfl, rfl⟩)
      exact bodyPost_ret (v := .tuple #[.agg #[.string ByteArray.empty, .bool false, .int .i64 0], .int .i64 (i : Int), .int .i64 3]) (by simp [results, Tryd.results16, go_sem, k0, k1, k2] <;> rfl) rfl ⟨rfl, set3_bel HB1.out _ _ _⟩
    · have hem : d.toList.isEmpty = false := toList_ne (by have := HSZ.out; omega)
      rw [if_neg c2]
      clear c2
      cases c3 : Sp.isNm d with
      | false =>
        rw [if_neg (by decide)]
        unfold PRes.val
        go_enter Tryd.func16, Tryd.ntmps16
        go_wp2_with fail
        refine HRU.out.mono ?_
        rintro e w1 ⟨rfl, hr1, hb1⟩
        obtain ⟨r0, r1, _⟩ := hr1
        obtain ⟨z0, z1, z2, y0, y1, y2⟩ := rbox hb1
        have HB1 : Hid (Below w.heap.size w w1) := (((Below.refl _ _).alloc (Nat.le_refl _) _).alloc (by simp) _).trans (hb1.mono (by omega))
        clear hb1
        obtain ⟨k0, k1, k2⟩ := set3 (.string ⟨#[]⟩) (.bool false) (.int .i64 0) z0 z1 z2
        go_wp2_with (go_at_call 10; refine (HIS.out _).mono ?_; rintro e w' ⟨rfl, rfl⟩)
        exact bodyPost_ret (v := .tuple #[.agg #[.string ByteArray.empty, .bool false, .int .i64 0], .int .i64 (i : Int), .int .i64 8]) (by simp [results, Tryd.results16, go_sem, k0, k1, k2] <;> rfl) rfl ⟨rfl, set3_bel HB1.out _ _ _⟩
      | true =>
        rw [if_pos rfl]
        unfold PRes.val
        go_enter Tryd.func16, Tryd.ntmps16
        go_wp2_with fail
        refine HRU.out.mono ?_
        rintro e w1 ⟨rfl, hr1, hb1⟩
        obtain ⟨r0, r1, _⟩ := hr1
        obtain ⟨z0, z1, z2, y0, y1, y2⟩ := rbox hb1
        have HB1 : Hid (Below w.heap.size w w1) := (((Below.refl _ _).alloc (Nat.le_refl _) _).alloc (by simp) _).trans (hb1.mono (by omega))
        clear hb1
        obtain ⟨k0, k1, k2⟩ := set3 (.string d) (.bool false) (.int .i64 0) z0 z1 z2
        go_wp2_with (go_at_call 10; refine (HIS.out _).mono ?_; rintro e w' ⟨rfl, rfl⟩)
        go_region
        go_wp2_with fail
        exact bodyPost_ret (v := .tuple #[.agg #[.string d, .bool false, .int .i64 0], .int .i64 (j : Int), .int .i64 0]) (by simp [results, Tryd.results16, go_sem, k0, k1, k2] <;> rfl) rfl ⟨rfl, (set3_bel HB1.out _ _ _).drew⟩
end Go.Proofs.YtghnipbcbbphbaaDoor
