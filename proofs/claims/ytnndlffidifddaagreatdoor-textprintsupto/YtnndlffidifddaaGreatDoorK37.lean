/- text.writer.value at every value that can be; text.write, Print and Lines. -/
import Derived.Test.YtnndlffidifddaaGreatDoorK33
import Derived.Test.YtnndlffidifddaaGreatDoorK4
import Derived.Test.YtnndlffidifddaaGreatDoorK36
namespace Go.Proofs.YtnndlffidifddaaGreatDoor
open Go.RowKit

theorem tval_any : ∀ N, ValC N
  | 0 => fun t h => by cases t; simp [Tm.sz] at h
  | N + 1 => fun t hN v w wb ln d xs n hv hok hd hbd h he hl => by
    have ih := tval_any N
    cases t with
    | mk k b i f tx by' rf l fs c vr =>
      obtain ⟨q1, q2, q3, q4, q5⟩ := hok.ok.bounds
      obtain ⟨hk1, hk10, -, -⟩ := hok.ok.parts
      obtain ⟨hn64, o8, o9⟩ := hok.parts
      simp only [Tm.V] at hv
      obtain ⟨v1, v2, v3, v4, v5, v6, v7, v8, v9, v10, -, -⟩ := hv
      simp only [Tm.Bdd] at hbd
      obtain ⟨bi, bf, br, bv, bl, bfs⟩ := hbd
      simp only [Tm.sz] at hN
      have hk : k = 1 ∨ k = 2 ∨ k = 3 ∨ k = 4 ∨ k = 5 ∨ k = 6 ∨ k = 7 ∨ k = 8 ∨ k = 9 ∨ k = 10 := by omega
      rcases hk with rfl | rfl | rfl | rfl | rfl | rfl | rfl | rfl | rfl | rfl
      · obtain rfl := v1 rfl
        rw [Tm.txt_1] at hl ⊢
        exact val_1 w wb ln d xs h (by simp at hl; omega)
      · obtain rfl := v2 rfl
        rw [Tm.txt_2] at hl ⊢
        exact val_2 w wb ln d xs h b (by cases b <;> simp at hl <;> omega)
      · obtain rfl := v3 rfl
        rw [Tm.txt_3] at hl ⊢
        exact val_3 w wb ln d xs h i bi.1 bi.2 he.1 (by omega)
      · obtain ⟨rfl, _⟩ := v4 rfl
        rw [Tm.txt_4] at hl ⊢
        exact val_4 w wb ln d xs h f bf he.2.2 (by omega)
      · obtain ⟨rfl, _⟩ := v5 rfl
        rw [Tm.txt_5] at hl ⊢
        exact val_5 w wb ln d xs h tx (q1 rfl) (by omega)
      · obtain ⟨a, cap, rfl, _, hx⟩ := v6 rfl
        rw [Tm.txt_6] at hl ⊢
        exact val_6 w wb ln d xs h by' a cap hx (by rw [Sp.hexs_len by' by'.size (Nat.le_refl _)] at hl; omega)
      · obtain rfl := v7 rfl
        rw [Tm.txt_7] at hl ⊢
        obtain ⟨u, rfl⟩ := Int.eq_ofNat_of_zero_le br.1
        rw [Int.toNat_natCast] at hl ⊢
        exact val_7 w wb ln d xs h u (by omega) he.1 (by omega)
      · obtain ⟨a, cap, rfl, _, hx⟩ := v8 rfl
        rw [Tm.txt_8] at hl ⊢
        exact val_8 N ih l (by omega) a cap w wb ln d xs n hx (o8 rfl) hd hn64 bl h he (q3 rfl) hl
      · obtain ⟨a, cap, rfl, _, hx⟩ := v9 rfl
        rw [Tm.txt_9] at hl ⊢
        have hm := TmF.nm (q4 (.inl rfl))
        exact val_9 N ih fs (by omega) a cap w wb ln d xs n hx (o9 (.inl rfl)) hd hn64 bfs hm.2 h he hm.1 hl
      · obtain ⟨g, a, cap, rfl, hg, c0, c1, c2, _, _, hx⟩ := v10 rfl
        rw [Tm.txt_10] at hl ⊢
        have hm := TmF.nm (q4 (.inr rfl))
        exact val_10 N ih fs (by omega) c vr g a cap w wb ln d xs n hg c0 c1 c2 (head_len (q5 rfl)) (ver_head (q5 rfl)) hx (o9 (.inr rfl)) hd hn64 bfs hm.2 h he hm.1 hl

/-- what the tables hold, where they lie below -/
def EnvB (B : Nat) (w : World) : Prop := EnvT B w
theorem EnvT.up {a b : Nat} {w : World} (h : EnvT a w) (hab : a ≤ b) : EnvT b w := ⟨fun w' hb => h.1 w' (hb.mono hab), Nat.lt_of_lt_of_le h.2.1 hab, h.2.2⟩

set_option maxRecDepth 100000 in
set_option maxHeartbeats 2000000 in
theorem write_any (t : Tm) (v : Value) (ln : Bool) (B : Nat) (w : World) (hB : B ≤ w.heap.size) (h : t.V w (Lo B) v) (hb : t.Bdd) (he : EnvT B w) :
    Calls Tryz.prog 16 #[v, .bool ln] w fun e w' => e = .returned (.tuple #[.string ⟨(t.told ln).toArray⟩, .int .i64 t.all.e]) ∧ Below w.heap.size w w' := by
  have HC : Hid (Calls Tryz.prog 31 #[v] w fun e w' => e = .returned (.tuple #[.int .i64 t.cAt, .int .i64 t.all.e]) ∧ Below w.heap.size w w') := Check_any t v B w hB h
  by_cases h0 : t.all.e = 0
  · have HT : Hid (t.told ln = t.txt ln 0) := by show _ = _; unfold Tm.told; rw [if_pos h0]
    have HV : Hid (∀ W, Below w.heap.size w W → Calls Tryz.prog 32 #[.pointer (some ⟨W.heap.size, 0, none⟩), v] (W.alloc (.cells #[.slice none 0 0, .bool ln, .int .i64 0] 79)) (WtE W.heap.size ln 0 (t.txt ln 0) (W.alloc (.cells #[.slice none 0 0, .bool ln, .int .i64 0] 79)))) := fun W hW => by
      have hz := hW.size
      have hb2 : Below B w (W.alloc (.cells #[.slice none 0 0, .bool ln, .int .i64 0] 79)) := (hW.mono hB).alloc (by omega) _
      have := tval_any t.sz t (Nat.le_refl _) v (W.alloc (.cells #[.slice none 0 0, .bool ln, .int .i64 0] 79)) W.heap.size ln 0 [] 1 (t.V_same (Same.of_below hb2 (Nat.le_refl _)) (Lo.le (by omega)) v h) ⟨0, 0, h0⟩ (by decide) hb ⟨none, 0, 0, heap_alloc_new W _, rfl, rfl, .inl ⟨rfl, rfl⟩⟩ ((he.on hb2).up (by omega)) (by have := Tm.txt_le h0 hb ln; simp; omega)
      simpa using this
    rw [h0] at HC ⊢
    clear h hb he h0
    rw [HT.out]
    generalize t.txt ln 0 = ys at *
    go_enter Tryz.func16, Tryz.ntmps16
    go_wp2_with fail
    refine HC.out.mono ?_
    rintro e w1 ⟨rfl, hb1⟩
    have HB1 : Hid (Below w.heap.size w w1) := hb1
    clear hb1
    go_wp2_with fail
    refine (HV.out w1 HB1.out).mono ?_
    rintro e w2 ⟨rfl, hw2, hk2⟩
    obtain ⟨a, m, cap, hbk, hn⟩ := hw2
    have c0 : w2.cell? ⟨w1.heap.size, 0, none⟩ = some (.slice a m cap) := by rw [Lib.cell_of_heap hbk]; rfl
    have hcv := hn.conv (Below.refl _ _)
    have HB2 : Hid (Below w.heap.size w w2) := ((HB1.out.alloc HB1.out.size _).trans (hk2.below.mono HB1.out.size))
    clear hbk hn hk2
    go_wp2_with fail
    go_ret2
    exact ⟨rfl, HB2.out⟩
  · have h0' := ne_bool h0
    have HT : Hid (t.told ln = []) := by show _ = _; unfold Tm.told; rw [if_neg h0]
    clear h hb he h0
    rw [HT.out]
    go_enter Tryz.func16, Tryz.ntmps16
    go_wp2_with fail
    refine HC.out.mono ?_
    rintro e w1 ⟨rfl, hb1⟩
    have HB1 : Hid (Below w.heap.size w w1) := hb1
    clear hb1
    go_wp2_with fail
    go_ret2
    exact ⟨rfl, HB1.out⟩

set_option maxRecDepth 100000 in
set_option maxHeartbeats 1000000 in
theorem tPrint_any (t : Tm) (v : Value) (B : Nat) (w : World) (hB : B ≤ w.heap.size) (h : t.V w (Lo B) v) (hb : t.Bdd) (he : EnvT B w) :
    Calls Tryz.prog 5 #[v] w fun e w' => e = .returned (.tuple #[.string ⟨(t.told false).toArray⟩, .int .i64 t.all.e]) ∧ Below w.heap.size w w' := by
  have HC : Hid (Calls Tryz.prog 16 #[v, .bool false] w fun e w' => e = .returned (.tuple #[.string ⟨(t.told false).toArray⟩, .int .i64 t.all.e]) ∧ Below w.heap.size w w') := write_any t v false B w hB h hb he
  clear h hb he
  go_enter Tryz.func5, Tryz.ntmps5
  go_wp2_with fail
  refine HC.out.mono ?_
  rintro e w1 ⟨rfl, hb1⟩
  have HB1 : Hid (Below w.heap.size w w1) := hb1
  clear hb1
  go_wp2_with fail
  go_ret2
  exact ⟨rfl, HB1.out⟩
set_option maxRecDepth 100000 in
set_option maxHeartbeats 1000000 in
theorem tLines_any (t : Tm) (v : Value) (B : Nat) (w : World) (hB : B ≤ w.heap.size) (h : t.V w (Lo B) v) (hb : t.Bdd) (he : EnvT B w) :
    Calls Tryz.prog 7 #[v] w fun e w' => e = .returned (.tuple #[.string ⟨(t.told true).toArray⟩, .int .i64 t.all.e]) ∧ Below w.heap.size w w' := by
  have HC : Hid (Calls Tryz.prog 16 #[v, .bool true] w fun e w' => e = .returned (.tuple #[.string ⟨(t.told true).toArray⟩, .int .i64 t.all.e]) ∧ Below w.heap.size w w') := write_any t v true B w hB h hb he
  clear h hb he
  go_enter Tryz.func7, Tryz.ntmps7
  go_wp2_with fail
  refine HC.out.mono ?_
  rintro e w1 ⟨rfl, hb1⟩
  have HB1 : Hid (Below w.heap.size w w1) := hb1
  clear hb1
  go_wp2_with fail
  go_ret2
  exact ⟨rfl, HB1.out⟩
end Go.Proofs.YtnndlffidifddaaGreatDoor

