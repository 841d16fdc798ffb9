/- tenonref01.Check at a term: what the plain walk through it says. -/
import Derived.Test.YtnndlffidifddaaGreatDoorK27
import Derived.Test.YtnndlffidifddaaGreatDoorK32
import Derived.Test.YtnndlffidifddaaGreatDoorK28
import Derived.Test.YtnndlffidifddaaGreatDoorK14
namespace Go.Proofs.YtnndlffidifddaaGreatDoor
open Go.RowKit

theorem part_all (N : Nat) : PartC N := by
  induction N with
  | zero => intro t ht; cases t; simp [Tm.sz] at ht
  | succ N ih => intro t hN cs B p d a n w h hB h1 h2 h3 h4; exact part_any N ih t hN cs B p d a n w h hB h1 h2 h3 h4

theorem part_top (t : Tm) (cs : Array Value) (B : Nat → Prop) (w : World) (h : t.In w B cs) (hB : Sub B w) : ∀ W, Below w.heap.size w W →
    Calls Tryz.prog 33 #[.agg #[.int .i64 0, .int .i64 0, .int .i64 0, .int .i64 0], .agg cs, .int .i64 1] W fun e w' => ∃ n d a, e = .returned (.agg #[.int .i64 n, .int .i64 d, .int .i64 a, .int .i64 t.all.e]) ∧ Below W.heap.size W w' ∧ Seen 0 t.all n d a :=
  fun W hW => part_all t.sz t (Nat.le_refl _) cs B 0 0 0 1 W (t.In_same (hB.same hW) (fun _ h => h) cs h) (hB.later hW) (by decide) (by decide) (by decide) (by decide)

set_option maxRecDepth 100000 in
set_option maxHeartbeats 400000 in
theorem refCheck_any (t : Tm) (cs : Array Value) (B : Nat → Prop) (w : World) (h : t.In w B cs) (hB : Sub B w) :
    Calls Tryz.prog 17 #[.agg cs] w fun e w' => e = .returned (.tuple #[.int .i64 t.cAt, .int .i64 t.all.e]) ∧ Below w.heap.size w w' := by
  have HP := part_top t cs B w h hB
  obtain ⟨k, b, i, f, tx, vb, rf, vl, vf, c, vr, rfl⟩ : ∃ k b i f tx vb rf vl vf c vr, cs = tcells k b i f tx vb rf vl vf c vr := by
    cases t; simp only [Tm.In] at h; obtain ⟨_, _, _, _, _, _, rfl, _⟩ := h; exact ⟨_, _, _, _, _, _, _, _, _, _, _, rfl⟩
  clear h
  unfold tcells at HP ⊢
  have HP : Hid _ := HP
  have HS : Hid (∀ n d a, Seen 0 t.all n d a → a = t.cAt) := fun n d a hs => by
    unfold Tm.cAt
    by_cases he : t.all.e ≠ 0
    · rw [if_pos he]; exact hs.2 he
    · rw [if_neg he]; exact (hs.1 (Decidable.not_not.1 he)).2.2
  go_enter Tryz.func17, Tryz.ntmps17
  go_wp2_with (go_at_call 33; refine (HP.out _ ?_).mono ?_; exact (Below.refl _ _).alloc (Nat.le_refl _) _; rintro e w1 ⟨n, d, a, rfl, hb1, hs⟩; obtain rfl := HS.out n d a hs)
  go_quiet (fail)
  go_wp2_with fail
  go_ret2
  have hz : w.heap.size ≤ w1.heap.size := by have := hb1.size; simp at this; omega
  exact ⟨rfl, ((((Below.refl _ _).alloc (Nat.le_refl _) _).trans (hb1.mono (by simp))).alloc hz _).trans (below_drewN' _ _ _)⟩
end Go.Proofs.YtnndlffidifddaaGreatDoor

/- tenonref02.put at every term that can be; tenonref02.Print. -/
namespace Go.Proofs.YtnndlffidifddaaGreatDoor
open Go.RowKit

theorem AppH.eq {base : Nat} {xs ys zs : List UInt8} {w : World} {e : Ending} {w' : World} (h : AppH base xs ys w e w') (he : ys = zs) : AppH base xs zs w e w' := he ▸ h
theorem tput_any : ∀ N, PutC N
  | 0 => fun t h => by cases t; simp [Tm.sz] at h
  | N + 1 => fun t hN cs w base a m cap xs ln d n hi hok hd h hb hl => by
    have ih := tput_any N
    have hbd := Tm.In_bdd t cs hi
    cases t with
    | mk k b i f tx by' rf l fs c vr =>
      obtain ⟨q1, q2, q3, q4, q5⟩ := hok.ok.bounds
      obtain ⟨hk1, hk10, -, -⟩ := hok.ok.parts
      obtain ⟨hn64, o8, o9⟩ := hok.parts
      simp only [Tm.In] at hi
      obtain ⟨ab, cb, al, cl, af, cf, rfl, -, hby, hil, hif⟩ := hi
      simp only [Tm.Bdd] at hbd
      obtain ⟨bi, bf, br, bv, bl, bfs⟩ := hbd
      simp only [Tm.sz] at hN
      have hm := h.1
      have hk : k = 1 ∨ k = 2 ∨ k = 3 ∨ k = 4 ∨ k = 5 ∨ k = 6 ∨ k = 7 ∨ k = 8 ∨ k = 9 ∨ k = 10 := by omega
      rcases hk with rfl | rfl | rfl | rfl | rfl | rfl | rfl | rfl | rfl | rfl
      · rw [Tm.txt_1] at hl ⊢
        exact put_leaf 1 b i f tx rf c vr ab by'.size cb al l.len cl af fs.len cf ln d ⟨#[110, 105, 108]⟩ xs a m cap base w rfl rfl rfl h hb (by show m + 3 ≤ _; omega) (fun W _ => one_1 b i f tx _ rf _ _ c vr W)
      · rw [Tm.txt_2] at hl ⊢
        have := put_leaf 2 b i f tx rf c vr ab by'.size cb al l.len cl af fs.len cf ln d (if b then ⟨#[116, 114, 117, 101]⟩ else ⟨#[102, 97, 108, 115, 101]⟩) xs a m cap base w rfl rfl rfl h hb (by cases b <;> first | (show m + 4 ≤ _; omega) | (show m + 5 ≤ _; omega)) (fun W _ => one_2 b i f tx _ rf _ _ c vr W)
        exact this.mono fun _ _ hh => hh.eq (by cases b <;> rfl)
      · rw [Tm.txt_3] at hl ⊢
        exact put_leaf 3 b i f tx rf c vr ab by'.size cb al l.len cl af fs.len cf ln d ⟨(Lib.itoa i).toArray⟩ xs a m cap base w rfl rfl rfl h hb (by show m + (Lib.itoa i).toArray.size ≤ _; rw [List.size_toArray]; omega) (fun W _ => one_3 b i f tx _ rf _ _ c vr W bi.1 bi.2)
      · rw [Tm.txt_4] at hl ⊢
        exact put_leaf 4 b i f tx rf c vr ab by'.size cb al l.len cl af fs.len cf ln d ⟨(Sp.floatT f).toArray⟩ xs a m cap base w rfl rfl rfl h hb (by show m + (Sp.floatT f).toArray.size ≤ _; rw [List.size_toArray]; omega) (fun W _ => one_4 b i f tx _ rf _ _ c vr W bf)
      · rw [Tm.txt_5] at hl ⊢
        exact put_leaf 5 b i f tx rf c vr ab by'.size cb al l.len cl af fs.len cf ln d ⟨(Sp.quote tx).toArray⟩ xs a m cap base w rfl rfl rfl h hb (by show m + (Sp.quote tx).toArray.size ≤ _; rw [List.size_toArray]; omega) (fun W _ => one_5 b i f tx _ rf _ _ c vr W (by have := q1 rfl; omega))
      · rw [Tm.txt_6] at hl ⊢
        exact put_leaf 6 b i f tx rf c vr ab by'.size cb al l.len cl af fs.len cf ln d ⟨(Sp.hexs by' by'.size).toArray⟩ xs a m cap base w rfl rfl rfl h hb (by show m + (Sp.hexs by' by'.size).toArray.size ≤ _; rw [List.size_toArray]; omega) (fun W hW => one_6 b i f tx by' ab cb rf _ _ c vr (Lo base) W (fun k hk => Nat.lt_of_lt_of_le (Nat.lt_of_lt_of_le hk hb) (Nat.le_trans (by simp) hW.size)) (hby.same (fun k hk => by rw [hW.block k (by have : k < base := hk; simp; omega)]; exact Below.heap_alloc _ _ _ (Nat.lt_of_lt_of_le hk hb)) (fun _ hk => hk)) (by have := q2 rfl; omega))
      · obtain ⟨u, rfl⟩ := Int.eq_ofNat_of_zero_le br.1
        rw [Tm.txt_7, Int.toNat_natCast] at hl ⊢
        exact put_leaf 7 b i f tx (u : Int) c vr ab by'.size cb al l.len cl af fs.len cf ln d ⟨(64 :: Lib.decDigits u).toArray⟩ xs a m cap base w rfl rfl rfl h hb (by show m + (64 :: Lib.decDigits u).toArray.size ≤ _; rw [List.size_toArray]; omega) (fun W _ => one_7 b i f tx _ _ _ c vr W u (by omega))
      · rw [Tm.txt_8] at hl ⊢
        exact put_8 N ih l (by omega) b i f tx ab by'.size cb rf al cl af fs.len cf c vr ln d n xs a m cap base w hil (o8 rfl) hd hn64 (q3 rfl) h hb hl
      · rw [Tm.txt_9] at hl ⊢
        have hmm := TmF.nm (q4 (.inl rfl))
        exact put_9 N ih fs (by omega) b i f tx ab by'.size cb rf al l.len cl af cf c vr ln d n xs a m cap base w hif (o9 (.inl rfl)) hd hn64 hmm.2 hmm.1 h hb hl
      · rw [Tm.txt_10] at hl ⊢
        have hmm := TmF.nm (q4 (.inr rfl))
        exact put_10 N ih fs (by omega) b i f tx ab by'.size cb rf al l.len cl af cf c vr ln d n xs a m cap base w hif (o9 (.inr rfl)) hd hn64 hmm.2 (head_len (q5 rfl)) (ver_head (q5 rfl)) hmm.1 h hb hl

def Tm.told (t : Tm) (ln : Bool) : List UInt8 := if t.all.e = 0 then t.txt ln 0 else []

set_option maxRecDepth 100000 in
set_option maxHeartbeats 2000000 in
theorem trPrint_any (t : Tm) (cs : Array Value) (ln : Bool) (B : Nat) (w : World) (hB : B ≤ w.heap.size) (h : t.In w (Lo B) cs) :
    Calls Tryz.prog 6 #[.agg cs, .bool ln] w fun e w' => e = .returned (.tuple #[.string ⟨(t.told ln).toArray⟩, .int .i64 t.all.e]) ∧ Below w.heap.size w w' := by
  have hbd := Tm.In_bdd t cs h
  have HC : Hid (∀ W, Below w.heap.size w W → Calls Tryz.prog 17 #[.agg cs] W fun e w' => e = .returned (.tuple #[.int .i64 t.cAt, .int .i64 t.all.e]) ∧ Below W.heap.size W w') := fun W hW => refCheck_any t cs (Lo B) W (t.In_same (Same.of_below hW hB) (fun _ hk => hk) cs h) (fun k hk => Nat.lt_of_lt_of_le (Nat.lt_of_lt_of_le hk hB) hW.size)
  have HP : Hid (t.all.e = 0 → ∀ W, Below w.heap.size w W → Calls Tryz.prog 18 #[.slice none 0 0, .agg cs, .bool ln, .int .i64 0] W (AppH W.heap.size [] (t.txt ln 0) W)) := fun h0 W hW =>
    tput_any t.sz t (Nat.le_refl _) cs W W.heap.size none 0 0 [] ln 0 1 (t.In_same (Same.of_below hW hB) (Lo.le (Nat.le_trans hB hW.size)) cs h) ⟨0, 0, h0⟩ (by decide) ⟨rfl, rfl, .inl ⟨rfl, rfl⟩⟩ (Nat.le_refl _) (by have := Tm.txt_le h0 hbd ln; simp; omega)
  obtain ⟨k, b, i, f, tx, ab, nb, cb, rf, al, nl, cl, af, nf, cf, c, vr, rfl⟩ : ∃ k b i f tx ab nb cb rf al nl cl af nf cf c vr, cs = tcells k b i f tx (.slice ab nb cb) rf (.slice al nl cl) (.slice af nf cf) c vr := by
    cases t; simp only [Tm.In] at h; obtain ⟨_, _, _, _, _, _, rfl, _⟩ := h; exact ⟨_, _, _, _, _, _, _, _, _, _, _, _, _, _, _, _, _, rfl⟩
  have HX : Hid (∀ W, Below (w.alloc (.cells (tcells k b i f tx (.slice ab nb cb) rf (.slice al nl cl) (.slice af nf cf) c vr) 29)).heap.size (w.alloc (.cells (tcells k b i f tx (.slice ab nb cb) rf (.slice al nl cl) (.slice af nf cf) c vr) 29)) W → W.heap[w.heap.size]? = some (.cells (tcells k b i f tx (.slice ab nb cb) rf (.slice al nl cl) (.slice af nf cf) c vr) 29 (0, 0)) ∧ Below w.heap.size w W) := fun W hW => ⟨by rw [hW.block w.heap.size (by simp)]; exact heap_alloc_new w _, below_to ((Below.refl _ _).alloc (Nat.le_refl _) _) hW⟩
  clear h hbd
  by_cases h0 : t.all.e = 0
  · have HT : Hid (t.told ln = t.txt ln 0) := by show _ = _; unfold Tm.told; rw [if_pos h0]
    have HP' := HP.out h0
    have HP' : Hid _ := HP'
    rw [h0] at HC ⊢
    rw [HT.out]
    clear h0 HP
    generalize t.txt ln 0 = ys at *
    unfold tcells at HC HP' HX ⊢
    go_enter Tryz.func6, Tryz.ntmps6
    go_wp2_with fail
    refine (HC.out _ (HX.out _ (Below.refl _ _)).2).mono ?_
    rintro e w1 ⟨rfl, hb1⟩
    have HB1 : Hid (Below w.heap.size w w1) := (HX.out _ hb1).2
    obtain ⟨r0, r1, r2, r3, r4, r5, r6, r7, r8, r9, r10⟩ := tbox (HX.out _ hb1).1
    clear hb1
    go_wp2_with fail
    refine (HP'.out _ HB1.out).mono ?_
    rintro e w2 ⟨a2, m2, p2, rfl, H2⟩
    have hcv := H2.out.1.conv (Below.refl _ _)
    rw [List.nil_append] at hcv
    have HB2 : Hid (Below w.heap.size w w2) := below_to HB1.out H2.out.2.below
    clear H2
    go_wp2_with fail
    go_ret2
    exact ⟨rfl, HB2.out⟩
  · have h0' := ne_bool h0
    have HT : Hid (t.told ln = []) := by show _ = _; unfold Tm.told; rw [if_neg h0]
    rw [HT.out]
    clear h0 HP
    unfold tcells at HC HX ⊢
    go_enter Tryz.func6, Tryz.ntmps6
    go_wp2_with fail
    refine (HC.out _ (HX.out _ (Below.refl _ _)).2).mono ?_
    rintro e w1 ⟨rfl, hb1⟩
    have HB1 : Hid (Below w.heap.size w w1) := (HX.out _ hb1).2
    clear hb1
    go_wp2_with fail
    go_ret2
    exact ⟨rfl, HB1.out⟩
end Go.Proofs.YtnndlffidifddaaGreatDoor

/- text.writer.value at every value that can be; text.write, Print and Lines. -/
namespace Go.Proofs.YtnndlffidifddaaGreatDoor
open Go.RowKit

theorem tval_any : ∀ N, ValC N
  | 0 => fun t h => by cases t; simp [Tm.sz] at h
  | N + 1 => fun t hN v w wb ln d xs n hv hok hd hbd h he hl => by
    have ih := tval_any N
    cases t with
    | mk k b i f tx by' rf l fs c vr =>
      obtain ⟨q1, q2, q3, q4, q5⟩ := hok.ok.bounds
      obtain ⟨hk1, hk10, -, -⟩ := hok.ok.parts
      obtain ⟨hn64, o8, o9⟩ := hok.parts
      simp only [Tm.V] at hv
      obtain ⟨v1, v2, v3, v4, v5, v6, v7, v8, v9, v10, -, -⟩ := hv
      simp only [Tm.Bdd] at hbd
      obtain ⟨bi, bf, br, bv, bl, bfs⟩ := hbd
      simp only [Tm.sz] at hN
      have hk : k = 1 ∨ k = 2 ∨ k = 3 ∨ k = 4 ∨ k = 5 ∨ k = 6 ∨ k = 7 ∨ k = 8 ∨ k = 9 ∨ k = 10 := by omega
      rcases hk with rfl | rfl | rfl | rfl | rfl | rfl | rfl | rfl | rfl | rfl
      · obtain rfl := v1 rfl
        rw [Tm.txt_1] at hl ⊢
        exact val_1 w wb ln d xs h (by simp at hl; omega)
      · obtain rfl := v2 rfl
        rw [Tm.txt_2] at hl ⊢
        exact val_2 w wb ln d xs h b (by cases b <;> simp at hl <;> omega)
      · obtain rfl := v3 rfl
        rw [Tm.txt_3] at hl ⊢
        exact val_3 w wb ln d xs h i bi.1 bi.2 he.1 (by omega)
      · obtain ⟨rfl, _⟩ := v4 rfl
        rw [Tm.txt_4] at hl ⊢
        exact val_4 w wb ln d xs h f bf he.2.2 (by omega)
      · obtain ⟨rfl, _⟩ := v5 rfl
        rw [Tm.txt_5] at hl ⊢
        exact val_5 w wb ln d xs h tx (q1 rfl) (by omega)
      · obtain ⟨a, cap, rfl, _, hx⟩ := v6 rfl
        rw [Tm.txt_6] at hl ⊢
        exact val_6 w wb ln d xs h by' a cap hx (by rw [Sp.hexs_len by' by'.size (Nat.le_refl _)] at hl; omega)
      · obtain rfl := v7 rfl
        rw [Tm.txt_7] at hl ⊢
        obtain ⟨u, rfl⟩ := Int.eq_ofNat_of_zero_le br.1
        rw [Int.toNat_natCast] at hl ⊢
        exact val_7 w wb ln d xs h u (by omega) he.1 (by omega)
      · obtain ⟨a, cap, rfl, _, hx⟩ := v8 rfl
        rw [Tm.txt_8] at hl ⊢
        exact val_8 N ih l (by omega) a cap w wb ln d xs n hx (o8 rfl) hd hn64 bl h he (q3 rfl) hl
      · obtain ⟨a, cap, rfl, _, hx⟩ := v9 rfl
        rw [Tm.txt_9] at hl ⊢
        have hm := TmF.nm (q4 (.inl rfl))
        exact val_9 N ih fs (by omega) a cap w wb ln d xs n hx (o9 (.inl rfl)) hd hn64 bfs hm.2 h he hm.1 hl
      · obtain ⟨g, a, cap, rfl, hg, c0, c1, c2, _, _, hx⟩ := v10 rfl
        rw [Tm.txt_10] at hl ⊢
        have hm := TmF.nm (q4 (.inr rfl))
        exact val_10 N ih fs (by omega) c vr g a cap w wb ln d xs n hg c0 c1 c2 (head_len (q5 rfl)) (ver_head (q5 rfl)) hx (o9 (.inr rfl)) hd hn64 bfs hm.2 h he hm.1 hl

/-- what the tables hold, where they lie below -/
def EnvB (B : Nat) (w : World) : Prop := EnvT B w
theorem EnvT.up {a b : Nat} {w : World} (h : EnvT a w) (hab : a ≤ b) : EnvT b w := ⟨fun w' hb => h.1 w' (hb.mono hab), Nat.lt_of_lt_of_le h.2.1 hab, h.2.2⟩

set_option maxRecDepth 100000 in
set_option maxHeartbeats 2000000 in
theorem write_any (t : Tm) (v : Value) (ln : Bool) (B : Nat) (w : World) (hB : B ≤ w.heap.size) (h : t.V w (Lo B) v) (hb : t.Bdd) (he : EnvT B w) :
    Calls Tryz.prog 16 #[v, .bool ln] w fun e w' => e = .returned (.tuple #[.string ⟨(t.told ln).toArray⟩, .int .i64 t.all.e]) ∧ Below w.heap.size w w' := by
  have HC : Hid (Calls Tryz.prog 31 #[v] w fun e w' => e = .returned (.tuple #[.int .i64 t.cAt, .int .i64 t.all.e]) ∧ Below w.heap.size w w') := Check_any t v B w hB h
  by_cases h0 : t.all.e = 0
  · have HT : Hid (t.told ln = t.txt ln 0) := by show _ = _; unfold Tm.told; rw [if_pos h0]
    have HV : Hid (∀ W, Below w.heap.size w W → Calls Tryz.prog 32 #[.pointer (some ⟨W.heap.size, 0, none⟩), v] (W.alloc (.cells #[.slice none 0 0, .bool ln, .int .i64 0] 79)) (WtE W.heap.size ln 0 (t.txt ln 0) (W.alloc (.cells #[.slice none 0 0, .bool ln, .int .i64 0] 79)))) := fun W hW => by
      have hz := hW.size
      have hb2 : Below B w (W.alloc (.cells #[.slice none 0 0, .bool ln, .int .i64 0] 79)) := (hW.mono hB).alloc (by omega) _
      have := tval_any t.sz t (Nat.le_refl _) v (W.alloc (.cells #[.slice none 0 0, .bool ln, .int .i64 0] 79)) W.heap.size ln 0 [] 1 (t.V_same (Same.of_below hb2 (Nat.le_refl _)) (Lo.le (by omega)) v h) ⟨0, 0, h0⟩ (by decide) hb ⟨none, 0, 0, heap_alloc_new W _, rfl, rfl, .inl ⟨rfl, rfl⟩⟩ ((he.on hb2).up (by omega)) (by have := Tm.txt_le h0 hb ln; simp; omega)
      simpa using this
    rw [h0] at HC ⊢
    clear h hb he h0
    rw [HT.out]
    generalize t.txt ln 0 = ys at *
    go_enter Tryz.func16, Tryz.ntmps16
    go_wp2_with fail
    refine HC.out.mono ?_
    rintro e w1 ⟨rfl, hb1⟩
    have HB1 : Hid (Below w.heap.size w w1) := hb1
    clear hb1
    go_wp2_with fail
    refine (HV.out w1 HB1.out).mono ?_
    rintro e w2 ⟨rfl, hw2, hk2⟩
    obtain ⟨a, m, cap, hbk, hn⟩ := hw2
    have c0 : w2.cell? ⟨w1.heap.size, 0, none⟩ = some (.slice a m cap) := by rw [Lib.cell_of_heap hbk]; rfl
    have hcv := hn.conv (Below.refl _ _)
    have HB2 : Hid (Below w.heap.size w w2) := ((HB1.out.alloc HB1.out.size _).trans (hk2.below.mono HB1.out.size))
    clear hbk hn hk2
    go_wp2_with fail
    go_ret2
    exact ⟨rfl, HB2.out⟩
  · have h0' := ne_bool h0
    have HT : Hid (t.told ln = []) := by show _ = _; unfold Tm.told; rw [if_neg h0]
    clear h hb he h0
    rw [HT.out]
    go_enter Tryz.func16, Tryz.ntmps16
    go_wp2_with fail
    refine HC.out.mono ?_
    rintro e w1 ⟨rfl, hb1⟩
    have HB1 : Hid (Below w.heap.size w w1) := hb1
    clear hb1
    go_wp2_with fail
    go_ret2
    exact ⟨rfl, HB1.out⟩

set_option maxRecDepth 100000 in
set_option maxHeartbeats 1000000 in
theorem tPrint_any (t : Tm) (v : Value) (B : Nat) (w : World) (hB : B ≤ w.heap.size) (h : t.V w (Lo B) v) (hb : t.Bdd) (he : EnvT B w) :
    Calls Tryz.prog 5 #[v] w fun e w' => e = .returned (.tuple #[.string ⟨(t.told false).toArray⟩, .int .i64 t.all.e]) ∧ Below w.heap.size w w' := by
  have HC : Hid (Calls Tryz.prog 16 #[v, .bool false] w fun e w' => e = .returned (.tuple #[.string ⟨(t.told false).toArray⟩, .int .i64 t.all.e]) ∧ Below w.heap.size w w') := write_any t v false B w hB h hb he
  clear h hb he
  go_enter Tryz.func5, Tryz.ntmps5
  go_wp2_with fail
  refine HC.out.mono ?_
  rintro e w1 ⟨rfl, hb1⟩
  have HB1 : Hid (Below w.heap.size w w1) := hb1
  clear hb1
  go_wp2_with fail
  go_ret2
  exact ⟨rfl, HB1.out⟩
set_option maxRecDepth 100000 in
set_option maxHeartbeats 1000000 in
theorem tLines_any (t : Tm) (v : Value) (B : Nat) (w : World) (hB : B ≤ w.heap.size) (h : t.V w (Lo B) v) (hb : t.Bdd) (he : EnvT B w) :
    Calls Tryz.prog 7 #[v] w fun e w' => e = .returned (.tuple #[.string ⟨(t.told true).toArray⟩, .int .i64 t.all.e]) ∧ Below w.heap.size w w' := by
  have HC : Hid (Calls Tryz.prog 16 #[v, .bool true] w fun e w' => e = .returned (.tuple #[.string ⟨(t.told true).toArray⟩, .int .i64 t.all.e]) ∧ Below w.heap.size w w') := write_any t v true B w hB h hb he
  clear h hb he
  go_enter Tryz.func7, Tryz.ntmps7
  go_wp2_with fail
  refine HC.out.mono ?_
  rintro e w1 ⟨rfl, hb1⟩
  have HB1 : Hid (Below w.heap.size w w1) := hb1
  clear hb1
  go_wp2_with fail
  go_ret2
  exact ⟨rfl, HB1.out⟩
end Go.Proofs.YtnndlffidifddaaGreatDoor

