/- tenonref02.put at every term that can be; tenonref02.Print. -/
import Derived.Test.YtnndlffidifddaaGreatDoorK35
import Derived.Test.YtnndlffidifddaaGreatDoorK23
namespace Go.Proofs.YtnndlffidifddaaGreatDoor
open Go.RowKit

theorem AppH.eq {base : Nat} {xs ys zs : List UInt8} {w : World} {e : Ending} {w' : World} (h : AppH base xs ys w e w') (he : ys = zs) : AppH base xs zs w e w' := he ▸ h
theorem tput_any : ∀ N, PutC N
  | 0 => fun t h => by cases t; simp [Tm.sz] at h
  | N + 1 => fun t hN cs w base a m cap xs ln d n hi hok hd h hb hl => by
    have ih := tput_any N
    have hbd := Tm.In_bdd t cs hi
    cases t with
    | mk k b i f tx by' rf l fs c vr =>
      obtain ⟨q1, q2, q3, q4, q5⟩ := hok.ok.bounds
      obtain ⟨hk1, hk10, -, -⟩ := hok.ok.parts
      obtain ⟨hn64, o8, o9⟩ := hok.parts
      simp only [Tm.In] at hi
      obtain ⟨ab, cb, al, cl, af, cf, rfl, -, hby, hil, hif⟩ := hi
      simp only [Tm.Bdd] at hbd
      obtain ⟨bi, bf, br, bv, bl, bfs⟩ := hbd
      simp only [Tm.sz] at hN
      have hm := h.1
      have hk : k = 1 ∨ k = 2 ∨ k = 3 ∨ k = 4 ∨ k = 5 ∨ k = 6 ∨ k = 7 ∨ k = 8 ∨ k = 9 ∨ k = 10 := by omega
      rcases hk with rfl | rfl | rfl | rfl | rfl | rfl | rfl | rfl | rfl | rfl
      · rw [Tm.txt_1] at hl ⊢
        exact put_leaf 1 b i f tx rf c vr ab by'.size cb al l.len cl af fs.len cf ln d ⟨#[110, 105, 108]⟩ xs a m cap base w rfl rfl rfl h hb (by show m + 3 ≤ _; omega) (fun W _ => one_1 b i f tx _ rf _ _ c vr W)
      · rw [Tm.txt_2] at hl ⊢
        have := put_leaf 2 b i f tx rf c vr ab by'.size cb al l.len cl af fs.len cf ln d (if b then ⟨#[116, 114, 117, 101]⟩ else ⟨#[102, 97, 108, 115, 101]⟩) xs a m cap base w rfl rfl rfl h hb (by cases b <;> first | (show m + 4 ≤ _; omega) | (show m + 5 ≤ _; omega)) (fun W _ => one_2 b i f tx _ rf _ _ c vr W)
        exact this.mono fun _ _ hh => hh.eq (by cases b <;> rfl)
      · rw [Tm.txt_3] at hl ⊢
        exact put_leaf 3 b i f tx rf c vr ab by'.size cb al l.len cl af fs.len cf ln d ⟨(Lib.itoa i).toArray⟩ xs a m cap base w rfl rfl rfl h hb (by show m + (Lib.itoa i).toArray.size ≤ _; rw [List.size_toArray]; omega) (fun W _ => one_3 b i f tx _ rf _ _ c vr W bi.1 bi.2)
      · rw [Tm.txt_4] at hl ⊢
        exact put_leaf 4 b i f tx rf c vr ab by'.size cb al l.len cl af fs.len cf ln d ⟨(Sp.floatT f).toArray⟩ xs a m cap base w rfl rfl rfl h hb (by show m + (Sp.floatT f).toArray.size ≤ _; rw [List.size_toArray]; omega) (fun W _ => one_4 b i f tx _ rf _ _ c vr W bf)
      · rw [Tm.txt_5] at hl ⊢
        exact put_leaf 5 b i f tx rf c vr ab by'.size cb al l.len cl af fs.len cf ln d ⟨(Sp.quote tx).toArray⟩ xs a m cap base w rfl rfl rfl h hb (by show m + (Sp.quote tx).toArray.size ≤ _; rw [List.size_toArray]; omega) (fun W _ => one_5 b i f tx _ rf _ _ c vr W (by have := q1 rfl; omega))
      · rw [Tm.txt_6] at hl ⊢
        exact put_leaf 6 b i f tx rf c vr ab by'.size cb al l.len cl af fs.len cf ln d ⟨(Sp.hexs by' by'.size).toArray⟩ xs a m cap base w rfl rfl rfl h hb (by show m + (Sp.hexs by' by'.size).toArray.size ≤ _; rw [List.size_toArray]; omega) (fun W hW => one_6 b i f tx by' ab cb rf _ _ c vr (Lo base) W (fun k hk => Nat.lt_of_lt_of_le (Nat.lt_of_lt_of_le hk hb) (Nat.le_trans (by simp) hW.size)) (hby.same (fun k hk => by rw [hW.block k (by have : k < base := hk; simp; omega)]; exact Below.heap_alloc _ _ _ (Nat.lt_of_lt_of_le hk hb)) (fun _ hk => hk)) (by have := q2 rfl; omega))
      · obtain ⟨u, rfl⟩ := Int.eq_ofNat_of_zero_le br.1
        rw [Tm.txt_7, Int.toNat_natCast] at hl ⊢
        exact put_leaf 7 b i f tx (u : Int) c vr ab by'.size cb al l.len cl af fs.len cf ln d ⟨(64 :: Lib.decDigits u).toArray⟩ xs a m cap base w rfl rfl rfl h hb (by show m + (64 :: Lib.decDigits u).toArray.size ≤ _; rw [List.size_toArray]; omega) (fun W _ => one_7 b i f tx _ _ _ c vr W u (by omega))
      · rw [Tm.txt_8] at hl ⊢
        exact put_8 N ih l (by omega) b i f tx ab by'.size cb rf al cl af fs.len cf c vr ln d n xs a m cap base w hil (o8 rfl) hd hn64 (q3 rfl) h hb hl
      · rw [Tm.txt_9] at hl ⊢
        have hmm := TmF.nm (q4 (.inl rfl))
        exact put_9 N ih fs (by omega) b i f tx ab by'.size cb rf al l.len cl af cf c vr ln d n xs a m cap base w hif (o9 (.inl rfl)) hd hn64 hmm.2 hmm.1 h hb hl
      · rw [Tm.txt_10] at hl ⊢
        have hmm := TmF.nm (q4 (.inr rfl))
        exact put_10 N ih fs (by omega) b i f tx ab by'.size cb rf al l.len cl af cf c vr ln d n xs a m cap base w hif (o9 (.inr rfl)) hd hn64 hmm.2 (head_len (q5 rfl)) (ver_head (q5 rfl)) hmm.1 h hb hl

def Tm.told (t : Tm) (ln : Bool) : List UInt8 := if t.all.e = 0 then t.txt ln 0 else []

set_option maxRecDepth 100000 in
set_option maxHeartbeats 2000000 in
theorem trPrint_any (t : Tm) (cs : Array Value) (ln : Bool) (B : Nat) (w : World) (hB : B ≤ w.heap.size) (h : t.In w (Lo B) cs) :
    Calls Tryz.prog 6 #[.agg cs, .bool ln] w fun e w' => e = .returned (.tuple #[.string ⟨(t.told ln).toArray⟩, .int .i64 t.all.e]) ∧ Below w.heap.size w w' := by
  have hbd := Tm.In_bdd t cs h
  have HC : Hid (∀ W, Below w.heap.size w W → Calls Tryz.prog 17 #[.agg cs] W fun e w' => e = .returned (.tuple #[.int .i64 t.cAt, .int .i64 t.all.e]) ∧ Below W.heap.size W w') := fun W hW => refCheck_any t cs (Lo B) W (t.In_same (Same.of_below hW hB) (fun _ hk => hk) cs h) (fun k hk => Nat.lt_of_lt_of_le (Nat.lt_of_lt_of_le hk hB) hW.size)
  have HP : Hid (t.all.e = 0 → ∀ W, Below w.heap.size w W → Calls Tryz.prog 18 #[.slice none 0 0, .agg cs, .bool ln, .int .i64 0] W (AppH W.heap.size [] (t.txt ln 0) W)) := fun h0 W hW =>
    tput_any t.sz t (Nat.le_refl _) cs W W.heap.size none 0 0 [] ln 0 1 (t.In_same (Same.of_below hW hB) (Lo.le (Nat.le_trans hB hW.size)) cs h) ⟨0, 0, h0⟩ (by decide) ⟨rfl, rfl, .inl ⟨rfl, rfl⟩⟩ (Nat.le_refl _) (by have := Tm.txt_le h0 hbd ln; simp; omega)
  obtain ⟨k, b, i, f, tx, ab, nb, cb, rf, al, nl, cl, af, nf, cf, c, vr, rfl⟩ : ∃ k b i f tx ab nb cb rf al nl cl af nf cf c vr, cs = tcells k b i f tx (.slice ab nb cb) rf (.slice al nl cl) (.slice af nf cf) c vr := by
    cases t; simp only [Tm.In] at h; obtain ⟨_, _, _, _, _, _, rfl, _⟩ := h; exact ⟨_, _, _, _, _, _, _, _, _, _, _, _, _, _, _, _, _, rfl⟩
  have HX : Hid (∀ W, Below (w.alloc (.cells (tcells k b i f tx (.slice ab nb cb) rf (.slice al nl cl) (.slice af nf cf) c vr) 29)).heap.size (w.alloc (.cells (tcells k b i f tx (.slice ab nb cb) rf (.slice al nl cl) (.slice af nf cf) c vr) 29)) W → W.heap[w.heap.size]? = some (.cells (tcells k b i f tx (.slice ab nb cb) rf (.slice al nl cl) (.slice af nf cf) c vr) 29 (0, 0)) ∧ Below w.heap.size w W) := fun W hW => ⟨by rw [hW.block w.heap.size (by simp)]; exact heap_alloc_new w _, below_to ((Below.refl _ _).alloc (Nat.le_refl _) _) hW⟩
  clear h hbd
  by_cases h0 : t.all.e = 0
  · have HT : Hid (t.told ln = t.txt ln 0) := by show _ = _; unfold Tm.told; rw [if_pos h0]
    have HP' := HP.out h0
    have HP' : Hid _ := HP'
    rw [h0] at HC ⊢
    rw [HT.out]
    clear h0 HP
    generalize t.txt ln 0 = ys at *
    unfold tcells at HC HP' HX ⊢
    go_enter Tryz.func6, Tryz.ntmps6
    go_wp2_with fail
    refine (HC.out _ (HX.out _ (Below.refl _ _)).2).mono ?_
    rintro e w1 ⟨rfl, hb1⟩
    have HB1 : Hid (Below w.heap.size w w1) := (HX.out _ hb1).2
    obtain ⟨r0, r1, r2, r3, r4, r5, r6, r7, r8, r9, r10⟩ := tbox (HX.out _ hb1).1
    clear hb1
    go_wp2_with fail
    refine (HP'.out _ HB1.out).mono ?_
    rintro e w2 ⟨a2, m2, p2, rfl, H2⟩
    have hcv := H2.out.1.conv (Below.refl _ _)
    rw [List.nil_append] at hcv
    have HB2 : Hid (Below w.heap.size w w2) := below_to HB1.out H2.out.2.below
    clear H2
    go_wp2_with fail
    go_ret2
    exact ⟨rfl, HB2.out⟩
  · have h0' := ne_bool h0
    have HT : Hid (t.told ln = []) := by show _ = _; unfold Tm.told; rw [if_neg h0]
    rw [HT.out]
    clear h0 HP
    unfold tcells at HC HX ⊢
    go_enter Tryz.func6, Tryz.ntmps6
    go_wp2_with fail
    refine (HC.out _ (HX.out _ (Below.refl _ _)).2).mono ?_
    rintro e w1 ⟨rfl, hb1⟩
    have HB1 : Hid (Below w.heap.size w w1) := (HX.out _ hb1).2
    clear hb1
    go_wp2_with fail
    go_ret2
    exact ⟨rfl, HB1.out⟩
end Go.Proofs.YtnndlffidifddaaGreatDoor

