/- value.termOf at a list. -/
import Derived.Test.YtkomcebknllaiaaK15
import Derived.Test.YtkomcebknllaiaaK9
namespace Go.Proofs.Ytkomcebknllaiaa
open Go.RowKit

theorem RW.eleven {w wr : World} {g n : Nat} {xs : List Value} (h : RW 29 w wr g n xs) (o : Nat) (ho : o + 11 ≤ n) :
    ((∃ u, wr.cell? ⟨g, o, none⟩ = some u) ∧ wr.frozen? ⟨g, o, none⟩ = false) ∧ ((∃ u, wr.cell? ⟨g, o + 1, none⟩ = some u) ∧ wr.frozen? ⟨g, o + 1, none⟩ = false) ∧ ((∃ u, wr.cell? ⟨g, o + 2, none⟩ = some u) ∧ wr.frozen? ⟨g, o + 2, none⟩ = false) ∧ ((∃ u, wr.cell? ⟨g, o + 3, none⟩ = some u) ∧ wr.frozen? ⟨g, o + 3, none⟩ = false) ∧ ((∃ u, wr.cell? ⟨g, o + 4, none⟩ = some u) ∧ wr.frozen? ⟨g, o + 4, none⟩ = false) ∧ ((∃ u, wr.cell? ⟨g, o + 5, none⟩ = some u) ∧ wr.frozen? ⟨g, o + 5, none⟩ = false) ∧ ((∃ u, wr.cell? ⟨g, o + 6, none⟩ = some u) ∧ wr.frozen? ⟨g, o + 6, none⟩ = false) ∧ ((∃ u, wr.cell? ⟨g, o + 7, none⟩ = some u) ∧ wr.frozen? ⟨g, o + 7, none⟩ = false) ∧ ((∃ u, wr.cell? ⟨g, o + 8, none⟩ = some u) ∧ wr.frozen? ⟨g, o + 8, none⟩ = false) ∧ ((∃ u, wr.cell? ⟨g, o + 9, none⟩ = some u) ∧ wr.frozen? ⟨g, o + 9, none⟩ = false) ∧ ((∃ u, wr.cell? ⟨g, o + 10, none⟩ = some u) ∧ wr.frozen? ⟨g, o + 10, none⟩ = false) :=
  ⟨h.own o (by omega), h.own (o + 1) (by omega), h.own (o + 2) (by omega), h.own (o + 3) (by omega), h.own (o + 4) (by omega), h.own (o + 5) (by omega), h.own (o + 6) (by omega), h.own (o + 7) (by omega), h.own (o + 8) (by omega), h.own (o + 9) (by omega), h.own (o + 10) (by omega)⟩
/-- a box of a term's cells can be written -/
theorem box_writes {W : World} {g : Nat} {cs : Array Value} {e : TypeId} (h : W.heap[g]? = some (.cells cs e (0, 0))) : ∀ j, W.frozen? ⟨g, j, none⟩ = false := fun j => frozen_of_row _ _ j _ _ h

set_option maxRecDepth 100000 in
set_option maxHeartbeats 4000000 in
theorem tof_8 (N : Nat) (HC : TOfC N) (a : Option Addr) (L : TmL) (cl : Nat) (w : World) (hN : L.sz ≤ N) (B : Nat → Prop) (hB : Sub B w) (hL : L.V w B a 0) (hlen : L.len ≤ 4096) (ho : L.Ok) (hbd : L.Bdd) :
    Calls Try.prog 39 #[.iface 71 (.slice a L.len cl)] w fun e w' => ∃ a' cap, e = .returned (.agg (tcells 8 false 0 0 ByteArray.empty (.slice none 0 0) 0 (.slice a' L.len cap) (.slice none 0 0) ByteArray.empty 0)) ∧ Below w.heap.size w w' ∧ L.clean.In w' (FrS w w') a' 0 := by
  obtain ⟨i0, hi, hz0, hz1, hz2⟩ := info_parts Try.infoT
  have HCH : Hid (TOfC N) := HC
  clear HC
  obtain ⟨M, hM⟩ : ∃ M, M = madeCells (Value.agg (tcells 0 false 0 0 ByteArray.empty (.slice none 0 0) 0 (.slice none 0 0) (.slice none 0 0) ByteArray.empty 0)).cells (((L.len : Nat) : Int).toNat * i0.size) := ⟨_, rfl⟩
  have hMs : M.size = L.len * 11 := by rw [hM, size_madeCells, hz1]; simp
  have hmake : ∀ W : World, (Instr.makeSlice 26 (.int .i64 (L.len : Int)) (.int .i64 (L.len : Int))).run Try.prog W = .ok (.slice (some ⟨W.heap.size, 0, none⟩) L.len L.len) (W.alloc (.cells M 29)) := fun W => by
    have h := run_make (P := Try.prog) W 26 29 i0 _ Try.undT hi hz0 .i64 .i64 (L.len : Int) (L.len : Int) (by omega) (by omega) (by rw [hz2]; omega) (by omega)
    rw [← hM] at h; simpa using h
  clear hM hi hz0 hz1 hz2
  have H0 : Hid (∀ o p, RW 29 w (((w.alloc o).alloc p).alloc (.cells M 29)) (w.heap.size + 1 + 1) (L.len * 11) [] ∧ TPre (((w.alloc o).alloc p).alloc (.cells M 29)) (OwnS (w.heap.size + 1 + 1) (((w.alloc o).alloc p).alloc (.cells M 29)) (w.heap.size + 1 + 1)) L.clean [] L.clean ∧ L.V w B a 0 ∧ L.Ok ∧ L.Bdd ∧ (((w.alloc o).alloc p).alloc (.cells M 29)).heap[w.heap.size]? = some o ∧ (((w.alloc o).alloc p).alloc (.cells M 29)).heap[w.heap.size + 1]? = some p) := fun o p => by
    have hb : Below w.heap.size w ((w.alloc o).alloc p) := ((Below.refl _ _).alloc (Nat.le_refl _) _).alloc (by simp) _
    have h := RW.made (w := w) (w0 := (w.alloc o).alloc p) hb M 29
    rw [hMs] at h
    refine ⟨by simpa using h, (TPre_nil _ _).2 rfl, hL, ho, hbd, ?_, ?_⟩
    · rw [Below.heap_alloc _ _ _ (by simp; omega), Below.heap_alloc _ _ _ (by simp)]; exact heap_alloc_new w o
    · rw [Below.heap_alloc _ _ _ (by simp)]; have := heap_alloc_new (w.alloc o) p; simpa using this
  clear hL ho hbd
  go_enter Try.func39, Try.ntmps39
  go_wp2_with (go_at_call 65; refine (kindOf_list _ _).mono ?_; rintro e w' ⟨rfl, rfl⟩)
  go_loopw [60] (fun x wr => ∃ (k : Nat) (l : TmL) (xs : List (Array Value)), x = .int .i64 k ∧ l.len + k = L.len ∧ l.sz ≤ N ∧ (xs.flatMap (·.toList)).length = k * 11 ∧ Hid (RW 29 w wr (w.heap.size + 1 + 1) (L.len * 11) (xs.flatMap (·.toList)) ∧ TPre wr (OwnS (w.heap.size + 1 + 1) wr (w.heap.size + 1 + 1)) L.clean xs l.clean ∧ l.V w B a k ∧ l.Ok ∧ l.Bdd ∧ wr.heap[w.heap.size]? = some (.cells #[.int .i64 0, .bool false, .int .i64 0, .float .f64 0, .string ByteArray.empty, .slice none 0 0, .int .u64 0, .slice none 0 0, .slice none 0 0, .string ByteArray.empty, .int .i64 0] 29 (0, 0)) ∧ wr.heap[w.heap.size + 1]? = some (.cells #[.int .i64 8, .bool false, .int .i64 0, .float .f64 0, .string ByteArray.empty, .slice none 0 0, .int .u64 0, .slice (some ⟨w.heap.size + 1 + 1, 0, none⟩) L.len L.len, .slice none 0 0, .string ByteArray.empty, .int .i64 0] 29 (0, 0)))) (fun x _ => L.len - (intOf x).toNat)
  case atStart => exact ⟨0, L, [], rfl, rfl, hN, rfl, H0.out _ _⟩
  case round =>
    obtain ⟨k, l, xs, rfl, hl, hlN, hxs, HR⟩ := hrel
    clear H0
    cases l with
    | nil =>
      have h1 : L.len ≤ k := by simp [TmL.len] at hl; omega
      obtain ⟨r0, r1, r2, r3, r4, r5, r6, r7, r8, r9, r10⟩ := tbox HR.out.2.2.2.2.2.1
      obtain ⟨t0, t1, t2, t3, t4, t5, t6, t7, t8, t9, t10⟩ := tbox HR.out.2.2.2.2.2.2
      have hf := box_writes HR.out.2.2.2.2.2.1
      have f0 := hf 0; have f1 := hf 1; have f2 := hf 2; have f3 := hf 3; have f4 := hf 4; have f5 := hf 5; have f6 := hf 6; have f7 := hf 7; have f8 := hf 8; have f9 := hf 9; have f10 := hf 10
      clear hl hf
      have HE : Hid (Below w.heap.size w (setN wr w.heap.size 0 [.int .i64 8, .bool false, .int .i64 0, .float .f64 0, .string ByteArray.empty, .slice none 0 0, .int .u64 0, .slice (some ⟨w.heap.size + 1 + 1, 0, none⟩) L.len L.len, .slice none 0 0, .string ByteArray.empty, .int .i64 0]) ∧ L.clean.In (setN wr w.heap.size 0 [.int .i64 8, .bool false, .int .i64 0, .float .f64 0, .string ByteArray.empty, .slice none 0 0, .int .u64 0, .slice (some ⟨w.heap.size + 1 + 1, 0, none⟩) L.len L.len, .slice none 0 0, .string ByteArray.empty, .int .i64 0]) (FrS w (setN wr w.heap.size 0 [.int .i64 8, .bool false, .int .i64 0, .float .f64 0, .string ByteArray.empty, .slice none 0 0, .int .u64 0, .slice (some ⟨w.heap.size + 1 + 1, 0, none⟩) L.len L.len, .slice none 0 0, .string ByteArray.empty, .int .i64 0])) (some ⟨w.heap.size + 1 + 1, 0, none⟩) 0) := by
        refine ⟨setN_below (Nat.le_refl _) _ _ _ _ HR.out.1.bel, ?_⟩
        have h := TPre.done (B' := fun k => w.heap.size + 1 + 1 ≤ k ∧ k < wr.heap.size ∧ Soft wr k) (Same.refl _ wr) (fun k hk => ⟨hk.1, hk.2.1, hk.2.2.2⟩) (w.heap.size + 1 + 1) ⟨Nat.le_refl _, HR.out.1.lt.2, HR.out.1.soft⟩ L.clean xs 0 HR.out.2.1 (fun i x hx => by rw [Nat.zero_mul, Nat.zero_add]; exact HR.out.1.got i x hx)
        exact L.clean.In_same (fun k hk => setN_other (by have := hk.1; omega) _ _ _) (fun k hk => ⟨by have := hk.1; omega, by rw [setN_size]; exact hk.2.1, hk.2.2.same (setN_other (by have := hk.1; omega) _ _ _)⟩) _ _ h
      go_wp2_with fail
      refine bodyPost_ret (v := .agg (tcells 8 false 0 0 ByteArray.empty (.slice none 0 0) 0 (.slice (some ⟨w.heap.size + 1 + 1, 0, none⟩) L.len L.len) (.slice none 0 0) ByteArray.empty 0)) (by simp [results, Try.results39, go_sem, tcells, r0, r1, r2, r3, r4, r5, r6, r7, r8, r9, r10]) rfl ⟨_, _, rfl, HE.out.1, HE.out.2⟩
    | cons t l =>
      obtain ⟨hrw, hpre, hsrc, hok, hbdd, hR, hT⟩ := HR.out
      simp only [TmL.V] at hsrc
      obtain ⟨g1, o1, v1, rfl, hg1, hc, ht, hl'⟩ := hsrc
      have hk1 : k < L.len := by simp only [TmL.len] at hl; omega
      have HL : Hid (l.len + (k + 1) = L.len) := by show _ = _; simp only [TmL.len] at hl; omega
      have htN : t.sz ≤ N ∧ l.sz ≤ N := by simp [TmL.sz] at hlN; omega
      have hs : Same B w wr := hB.same hrw.bel
      have HO := HCH.out.at htN.1 (t.V_same hs (fun _ h => h) v1 ht) (hB.later hrw.bel) hok.head.1 hbdd.1
      have HO : Hid _ := HO
      have e0 : wr.cell? ⟨g1, o1 + k, none⟩ = some v1 := by rw [hs.cell (p := ⟨g1, o1 + k, none⟩) hg1]; exact hc
      have HN : Hid (l.V w B (some ⟨g1, o1, none⟩) (k + 1) ∧ l.Ok ∧ l.Bdd) := ⟨hl', hok.head.2, hbdd.2⟩
      have HS : Hid (∀ w1, Below wr.heap.size wr w1 → ((∃ u, w1.cell? ⟨w.heap.size + 1 + 1, k * 11, none⟩ = some u) ∧ w1.frozen? ⟨w.heap.size + 1 + 1, k * 11, none⟩ = false) ∧ ((∃ u, w1.cell? ⟨w.heap.size + 1 + 1, k * 11 + 1, none⟩ = some u) ∧ w1.frozen? ⟨w.heap.size + 1 + 1, k * 11 + 1, none⟩ = false) ∧ ((∃ u, w1.cell? ⟨w.heap.size + 1 + 1, k * 11 + 2, none⟩ = some u) ∧ w1.frozen? ⟨w.heap.size + 1 + 1, k * 11 + 2, none⟩ = false) ∧ ((∃ u, w1.cell? ⟨w.heap.size + 1 + 1, k * 11 + 3, none⟩ = some u) ∧ w1.frozen? ⟨w.heap.size + 1 + 1, k * 11 + 3, none⟩ = false) ∧ ((∃ u, w1.cell? ⟨w.heap.size + 1 + 1, k * 11 + 4, none⟩ = some u) ∧ w1.frozen? ⟨w.heap.size + 1 + 1, k * 11 + 4, none⟩ = false) ∧ ((∃ u, w1.cell? ⟨w.heap.size + 1 + 1, k * 11 + 5, none⟩ = some u) ∧ w1.frozen? ⟨w.heap.size + 1 + 1, k * 11 + 5, none⟩ = false) ∧ ((∃ u, w1.cell? ⟨w.heap.size + 1 + 1, k * 11 + 6, none⟩ = some u) ∧ w1.frozen? ⟨w.heap.size + 1 + 1, k * 11 + 6, none⟩ = false) ∧ ((∃ u, w1.cell? ⟨w.heap.size + 1 + 1, k * 11 + 7, none⟩ = some u) ∧ w1.frozen? ⟨w.heap.size + 1 + 1, k * 11 + 7, none⟩ = false) ∧ ((∃ u, w1.cell? ⟨w.heap.size + 1 + 1, k * 11 + 8, none⟩ = some u) ∧ w1.frozen? ⟨w.heap.size + 1 + 1, k * 11 + 8, none⟩ = false) ∧ ((∃ u, w1.cell? ⟨w.heap.size + 1 + 1, k * 11 + 9, none⟩ = some u) ∧ w1.frozen? ⟨w.heap.size + 1 + 1, k * 11 + 9, none⟩ = false) ∧ ((∃ u, w1.cell? ⟨w.heap.size + 1 + 1, k * 11 + 10, none⟩ = some u) ∧ w1.frozen? ⟨w.heap.size + 1 + 1, k * 11 + 10, none⟩ = false)) := fun w1 h => (HR.out.1.call h).eleven (k * 11) (by omega)
      have HX : Hid (∀ W, Below wr.heap.size wr W → W.heap[w.heap.size]? = some (.cells #[.int .i64 0, .bool false, .int .i64 0, .float .f64 0, .string ByteArray.empty, .slice none 0 0, .int .u64 0, .slice none 0 0, .slice none 0 0, .string ByteArray.empty, .int .i64 0] 29 (0, 0)) ∧ W.heap[w.heap.size + 1]? = some (.cells #[.int .i64 8, .bool false, .int .i64 0, .float .f64 0, .string ByteArray.empty, .slice none 0 0, .int .u64 0, .slice (some ⟨w.heap.size + 1 + 1, 0, none⟩) L.len L.len, .slice none 0 0, .string ByteArray.empty, .int .i64 0] 29 (0, 0)) ∧ W.cell? ⟨w.heap.size + 1, 7, none⟩ = some (.slice (some ⟨w.heap.size + 1 + 1, 0, none⟩) L.len L.len)) := fun W h => by
        have h0 := hrw.lt
        have e1 := h.block (w.heap.size + 1) (by omega)
        exact ⟨by rw [h.block w.heap.size (by omega)]; exact hR, by rw [e1]; exact hT, (tbox (by rw [e1]; exact hT)).2.2.2.2.2.2.2.1⟩
      have HXs : Hid (∀ w1 vs, Below wr.heap.size wr w1 → (setN w1 (w.heap.size + 1 + 1) (k * 11) vs).heap[w.heap.size]? = some (.cells #[.int .i64 0, .bool false, .int .i64 0, .float .f64 0, .string ByteArray.empty, .slice none 0 0, .int .u64 0, .slice none 0 0, .slice none 0 0, .string ByteArray.empty, .int .i64 0] 29 (0, 0)) ∧ (setN w1 (w.heap.size + 1 + 1) (k * 11) vs).heap[w.heap.size + 1]? = some (.cells #[.int .i64 8, .bool false, .int .i64 0, .float .f64 0, .string ByteArray.empty, .slice none 0 0, .int .u64 0, .slice (some ⟨w.heap.size + 1 + 1, 0, none⟩) L.len L.len, .slice none 0 0, .string ByteArray.empty, .int .i64 0] 29 (0, 0)) ∧ (setN w1 (w.heap.size + 1 + 1) (k * 11) vs).cell? ⟨w.heap.size + 1, 7, none⟩ = some (.slice (some ⟨w.heap.size + 1 + 1, 0, none⟩) L.len L.len)) := fun w1 vs h => by
        have hh := HX.out w1 h
        have e1 := setN_other (g := w.heap.size + 1 + 1) (k := w.heap.size + 1) (by omega) vs w1 (k * 11)
        exact ⟨by rw [setN_other (by omega)]; exact hh.1, by rw [e1]; exact hh.2.1, (tbox (by rw [e1]; exact hh.2.1)).2.2.2.2.2.2.2.1⟩
      have HNew : Hid (∀ w2 cs, Below wr.heap.size wr w2 → t.clean.In w2 (FrS wr w2) cs → cs.size = 11 → RW 29 w (setN w2 (w.heap.size + 1 + 1) (k * 11) cs.toList) (w.heap.size + 1 + 1) (L.len * 11) ((xs ++ [cs]).flatMap (·.toList)) ∧ TPre (setN w2 (w.heap.size + 1 + 1) (k * 11) cs.toList) (OwnS (w.heap.size + 1 + 1) (setN w2 (w.heap.size + 1 + 1) (k * 11) cs.toList) (w.heap.size + 1 + 1)) L.clean (xs ++ [cs]) l.clean ∧ ((xs ++ [cs]).flatMap (·.toList)).length = (k + 1) * 11) := fun w2 cs hb hv hz => by
        have hz' : cs.toList.length = 11 := by rw [Array.length_toList]; exact hz
        have h1 := (HR.out.1.call hb).set cs.toList (by rw [hxs, hz']; omega)
        rw [hxs] at h1
        have e2 : (xs ++ [cs]).flatMap (·.toList) = xs.flatMap (·.toList) ++ cs.toList := by rw [List.flatMap_append]; simp
        rw [e2]
        exact ⟨h1, TPre.stepS (o := k * 11) HR.out.2.1 hb hv hz ⟨Nat.le_refl _, HR.out.1.lt.2⟩ _, by rw [List.length_append, hxs, hz']; omega⟩
      have c7 := (HX.out wr (Below.refl _ _)).2.2
      have hi0 : (0 : Int) ≤ (k : Int) := Int.natCast_nonneg _
      have hi1 : (k : Int) < (L.len : Int) := by omega
      unfold tcells at HO
      clear hl hlN hc ht hl' hok hs hrw hpre hbdd hR hT
      go_wp2_with fail
      go_region_held3 (fun W => W.cell? ⟨w.heap.size + 1, 7, none⟩ = some (.slice (some ⟨w.heap.size + 1 + 1, 0, none⟩) L.len L.len))
        (first | ((repeat rw [World.cell?_setCell_other _ _ _ _ (by simp)]); exact (HX.out w1 HB1.out).2.2) | exact (HX.out _ (Below.refl wr.heap.size wr)).2.2 | exact (HX.out _ (Below.refl wr.heap.size wr).drew).2.2)
        ((first
          | (go_at_call 39; refine (HO.out _ ?_).mono ?_; exact (Below.refl _ _).drew; rintro e w1 ⟨k1, b1, i1, f1, tx1, ab1, nb1, cb1, rf1, al1, nl1, cl1, af1, nf1, cf1, cc1, vr1, rfl, hb1, hv1⟩; have HB1 : Hid (Below wr.heap.size wr w1) := (Below.refl _ _).drew.trans hb1; have HV1 : Hid _ := hv1; obtain ⟨⟨⟨u0, hu0⟩, hf0⟩, ⟨⟨u1, hu1⟩, hf1⟩, ⟨⟨u2, hu2⟩, hf2⟩, ⟨⟨u3, hu3⟩, hf3⟩, ⟨⟨u4, hu4⟩, hf4⟩, ⟨⟨u5, hu5⟩, hf5⟩, ⟨⟨u6, hu6⟩, hf6⟩, ⟨⟨u7, hu7⟩, hf7⟩, ⟨⟨u8, hu8⟩, hf8⟩, ⟨⟨u9, hu9⟩, hf9⟩, ⟨⟨u10, hu10⟩, hf10⟩⟩ := HS.out w1 HB1.out; clear hb1 hv1)))
      have HNw := HNew.out w1 #[.int .i64 k1, .bool b1, .int .i64 i1, .float .f64 f1, .string tx1, .slice ab1 nb1 cb1, .int .u64 rf1, .slice al1 nl1 cl1, .slice af1 nf1 cf1, .string cc1, .int .i64 vr1] HB1.out (t.clean.In_same (Same.refl _ _) (fun k hk => hk) _ HV1.out) rfl
      have HNx := HXs.out w1 [.int .i64 k1, .bool b1, .int .i64 i1, .float .f64 f1, .string tx1, .slice ab1 nb1 cb1, .int .u64 rf1, .slice al1 nl1 cl1, .slice af1 nf1 cf1, .string cc1, .int .i64 vr1] HB1.out
      have HNw : Hid _ := HNw
      have HNx : Hid _ := HNx
      go_wp2_with fail
      go_roundw
      case rel => exact ⟨k + 1, l, _, by go_num, HL.out, htN.2, HNw.out.2.2, HNw.out.1, HNw.out.2.1, HN.out.1, HN.out.2.1, HN.out.2.2, HNx.out.1, HNx.out.2.1⟩
      case measure => simp [intOf]; omega
end Go.Proofs.Ytkomcebknllaiaa
