/- tenonref01.Clean at a list. -/
import Derived.Test.YtnndlffidifddaaGreatDoorK23
import Derived.Test.YtnndlffidifddaaGreatDoorK33
namespace Go.Proofs.YtnndlffidifddaaGreatDoor
open Go.RowKit

/-- the contract of Clean at terms of at most N parts -/
def ClC (N : Nat) : Prop := ∀ (t : Tm), t.sz ≤ N → ∀ (cs : Array Value) (B : Nat → Prop) (w : World), t.In w B cs → Sub B w → t.Ok →
  Calls Tryz.prog 9 #[.agg cs] w fun e w' => ∃ cs', e = .returned (.agg cs') ∧ Below w.heap.size w w' ∧ t.clean.In w' (Fr w w') cs'
theorem ClC.at {N : Nat} (HC : ClC N) {t : Tm} (hN : t.sz ≤ N) {cs : Array Value} {B : Nat → Prop} {w : World} (h : t.In w B cs) (hB : Sub B w) (ho : t.Ok) :
    ∀ W, Below w.heap.size w W → Calls Tryz.prog 9 #[.agg cs] W fun e w' => ∃ k b i f tx ab nb cb rf al nl cl af nf cf c vr, e = .returned (.agg (tcells k b i f tx (.slice ab nb cb) rf (.slice al nl cl) (.slice af nf cf) c vr)) ∧ Below W.heap.size W w' ∧ t.clean.In w' (Fr W w') (tcells k b i f tx (.slice ab nb cb) rf (.slice al nl cl) (.slice af nf cf) c vr) := by
  intro W hW
  refine (HC t hN cs B W (t.In_same (hB.same hW) (fun _ h => h) cs h) (hB.later hW) ho).mono ?_
  rintro e w' ⟨cs, rfl, hb, hv⟩
  obtain ⟨k1, b1, i1, f1, tx1, ab1, nb1, cb1, rf1, al1, nl1, cl1, af1, nf1, cf1, cc1, vr1, rfl⟩ := Tm.In_tc' hv
  exact ⟨k1, b1, i1, f1, tx1, ab1, nb1, cb1, rf1, al1, nl1, cl1, af1, nf1, cf1, cc1, vr1, rfl, hb, hv⟩
theorem boxes3 {w : World} {o p q : Obj} {w1 : World} (h : Below (((w.alloc o).alloc p).alloc q).heap.size (((w.alloc o).alloc p).alloc q) w1) : w1.heap[w.heap.size]? = some o ∧ w1.heap[w.heap.size + 1]? = some p ∧ w1.heap[w.heap.size + 2]? = some q ∧ Below w.heap.size w w1 ∧ w.heap.size + 3 ≤ w1.heap.size := by
  have hb : Below ((w.alloc o).alloc p).heap.size ((w.alloc o).alloc p) (((w.alloc o).alloc p).alloc q) := (Below.refl _ _).alloc (Nat.le_refl _) _
  obtain ⟨h1, h2, h3, h4⟩ := boxes_at hb
  refine ⟨?_, ?_, ?_, below_to h3 h, by have := h.size; simpa using this⟩
  · rw [h.block w.heap.size (by simp <;> omega)]; exact h1
  · rw [h.block (w.heap.size + 1) (by simp <;> omega)]; exact h2
  · rw [h.block (w.heap.size + 2) (by simp)]; have := heap_alloc_new ((w.alloc o).alloc p) q; simpa using this

/-- what Clean's loop carries: the terms behind v, the three boxes -/
structure CL (P : Array Value) (L : TmL) (w wr : World) (v : Value) (g j : Nat) (xs : List (Array Value)) (l : TmL) : Prop where
  own : wr.ownsRow (w.heap.size + 3) 29 11 v j (xs.flatMap (·.toList))
  blk : v.ownBlock = none ∨ v.ownBlock = some g
  pre : TPre wr (Own (w.heap.size + 3) wr g) L.clean xs l.clean
  lt : g < wr.heap.size
  bel : Below w.heap.size w wr
  bP : wr.heap[w.heap.size]? = some (.cells P 29 (0, 0))
  bR : wr.heap[w.heap.size + 1]? = some (.cells #[.int .i64 0, .bool false, .int .i64 0, .float .f64 0, .string ByteArray.empty, .slice none 0 0, .int .u64 0, .slice none 0 0, .slice none 0 0, .string ByteArray.empty, .int .i64 0] 29 (0, 0))
  bT : wr.heap[w.heap.size + 2]? = some (.cells #[.int .i64 8, .bool false, .int .i64 0, .float .f64 0, .string ByteArray.empty, .slice none 0 0, .int .u64 0, v, .slice none 0 0, .string ByteArray.empty, .int .i64 0] 29 (0, 0))
  sz : w.heap.size + 3 ≤ wr.heap.size

theorem CL.kept {P : Array Value} {L : TmL} {w wr : World} {v : Value} {g j : Nat} {xs : List (Array Value)} {l : TmL} (h : CL P L w wr v g j xs l) {w1 w3 : World} {o : Obj} (hb : Below wr.heap.size wr w1) (hg : (w1.alloc o).grownBy w3 v.ownBlock) :
    w3.heap[w.heap.size + 1]? = some (.cells #[.int .i64 0, .bool false, .int .i64 0, .float .f64 0, .string ByteArray.empty, .slice none 0 0, .int .u64 0, .slice none 0 0, .slice none 0 0, .string ByteArray.empty, .int .i64 0] 29 (0, 0)) ∧ w3.heap[w.heap.size + 2]? = some (.cells #[.int .i64 8, .bool false, .int .i64 0, .float .f64 0, .string ByteArray.empty, .slice none 0 0, .int .u64 0, v, .slice none 0 0, .string ByteArray.empty, .int .i64 0] 29 (0, 0)) ∧ Below w.heap.size w w3 ∧ w1.heap.size + 1 ≤ w3.heap.size ∧ w3.heap[w.heap.size]? = some (.cells P 29 (0, 0)) := by
  have hz1 := hb.size
  have hz := h.sz
  have hz3 := hg.size
  simp at hz3
  have hne : ∀ k, k < w.heap.size + 3 → some k ≠ v.ownBlock := fun k hk e => by
    rcases h.own.2 with ⟨rfl, _⟩ | ⟨g0, cap, cur, rfl, hb0, _⟩
    · simp [Value.ownBlock] at e
    · simp only [Value.ownBlock, Option.some.injEq] at e; omega
  have hk : ∀ k, k < w.heap.size + 3 → w3.heap[k]? = wr.heap[k]? := fun k hk => by
    rw [hg.block k (by simp; omega) (hne k hk), Below.heap_alloc _ _ _ (by omega)]; exact hb.block k (by omega)
  refine ⟨by rw [hk _ (by omega)]; exact h.bR, by rw [hk _ (by omega)]; exact h.bT, ?_, by omega, by rw [hk _ (by omega)]; exact h.bP⟩
  have hb1 : Below w.heap.size w (w1.alloc o) := (h.bel.trans (hb.mono h.bel.size)).alloc (by omega) _
  exact hb1.grown hg (by simp; omega) (fun k e => by
    rcases h.own.2 with ⟨rfl, _⟩ | ⟨g0, cap, cur, rfl, hb0, _⟩
    · simp [Value.ownBlock] at e
    · simp only [Value.ownBlock, Option.some.injEq] at e; omega)

theorem CL.step {P : Array Value} {L : TmL} {w wr : World} {v : Value} {g j : Nat} {xs : List (Array Value)} {t : Tm} {l : TmL} (h : CL P L w wr v g j xs (.cons t l)) {w1 w3 : World} {o : Obj} {cs : Array Value} {g' cap' : Nat} (hb : Below wr.heap.size wr w1) (hx : t.clean.In w1 (Fr wr w1) cs) (hz : cs.size = 11)
    (ho : w3.ownsRow (w.heap.size + 3) 29 11 (.slice (some ⟨g', 0, none⟩) (j + 1) cap') (j + 1) (xs.flatMap (·.toList) ++ cs.toList)) (hg : (w1.alloc o).grownBy w3 v.ownBlock) (hor : v.ownBlock = some g' ∨ g' = w1.heap.size + 1) (hlt : g' < w3.heap.size) :
    CL P L w (w3.setCell ⟨w.heap.size + 2, 7, none⟩ (.slice (some ⟨g', 0, none⟩) (j + 1) cap')) (.slice (some ⟨g', 0, none⟩) (j + 1) cap') g' (j + 1) (xs ++ [cs]) l := by
  obtain ⟨hR, hT, hbw, hsz, hP⟩ := h.kept hb hg
  have hz1 := hb.size
  have hsz0 := h.sz
  have hgl := h.lt
  have hown' : (w3.setCell ⟨w.heap.size + 2, 7, none⟩ (.slice (some ⟨g', 0, none⟩) (j + 1) cap')).ownsRow (w.heap.size + 3) 29 11 (.slice (some ⟨g', 0, none⟩) (j + 1) cap') (j + 1) ((xs ++ [cs]).flatMap (·.toList)) := by
    refine ⟨by have := ho.1; rw [List.flatMap_append]; simpa using this, .inr ?_⟩
    rcases ho.2 with ⟨e, _⟩ | ⟨g0, cap, cur, e, hb0, hc, h1, h2, h3, h4⟩
    · simp at e
    · refine ⟨g0, cap, cur, e, hb0, ?_, h1, h2, h3, by rw [h4, List.flatMap_append]; simp⟩
      rw [heap_setCell_other _ _ _ _ (by show g0 ≠ w.heap.size + 2; omega)]; exact hc
  have hblk : ∀ k, w.heap.size + 3 ≤ k → k < w1.heap.size → k ≠ g → (w3.setCell ⟨w.heap.size + 2, 7, none⟩ (.slice (some ⟨g', 0, none⟩) (j + 1) cap')).heap[k]? = w1.heap[k]? := fun k h1 h2 h3 => by
    rw [heap_setCell_other _ _ _ _ (by show k ≠ w.heap.size + 2; omega), hg.block k (by simp; omega) (fun e => by
      rcases h.blk with e' | e'
      · rw [e'] at e; simp at e
      · rw [e'] at e; simp only [Option.some.injEq] at e; exact h3 e), Below.heap_alloc _ _ _ h2]
  have hg' : ∀ k, k < w1.heap.size → k ≠ g → k ≠ g' := fun k h1 h2 e => by
    rcases hor with e' | e'
    · rcases h.blk with e2 | e2
      · rw [e2] at e'; simp at e'
      · rw [e2] at e'; simp only [Option.some.injEq] at e'; omega
    · omega
  have hszc : (w3.setCell ⟨w.heap.size + 2, 7, none⟩ (.slice (some ⟨g', 0, none⟩) (j + 1) cap')).heap.size = w3.heap.size := by simp
  refine ⟨hown', .inr rfl, ?_, by rw [hszc]; exact hlt, hbw.setCell (p := ⟨w.heap.size + 2, 7, none⟩) (Nat.le_add_right _ _) _, ?_, ?_, heap_setCell_same w3 (w.heap.size + 2) 7 _ _ _ hT, by rw [hszc]; omega⟩
  · refine TPre.snoc _ _ t.clean _ cs (TPre.same (S := Own (w.heap.size + 3) wr g) (fun k hk => ?_) (fun k hk => ⟨hk.1, by rw [hszc]; have := hk.2.1; omega, hg' k (by have := hk.2.1; omega) hk.2.2⟩) _ _ _ h.pre) (t.clean.In_same (B := Fr wr w1) (fun k hk => ?_) (fun k hk => ⟨by have := hk.1; omega, by rw [hszc]; have := hk.2; omega, hg' k hk.2 (by have := hk.1; omega)⟩) cs hx) hz
    · rw [hblk k hk.1 (by have := hk.2.1; omega) hk.2.2]; exact hb.block k hk.2.1
    · exact hblk k (by have := hk.1; omega) hk.2 (by have := hk.1; omega)
  · rw [heap_setCell_other _ _ _ _ (by show w.heap.size ≠ w.heap.size + 2; omega)]; exact hP
  · rw [heap_setCell_other _ _ _ _ (by show w.heap.size + 1 ≠ w.heap.size + 2; omega)]; exact hR


set_option maxRecDepth 100000 in
set_option maxHeartbeats 4000000 in
theorem cl_8 (N : Nat) (HC : ClC N) (b : Bool) (i : Int) (f : Nat) (tx : ByteArray) (vb : Value) (rf : Int) (al : Option Addr) (L : TmL) (cl : Nat) (vf : Value) (c : ByteArray) (vr : Int) (w : World) (hN : L.sz ≤ N) (B : Nat → Prop) (hB : Sub B w) (hL : L.In w B al 0) (hlen : L.len ≤ 4096) (ho : L.Ok) :
    Calls Tryz.prog 9 #[.agg #[.int .i64 8, .bool b, .int .i64 i, .float .f64 f, .string tx, vb, .int .u64 rf, .slice al L.len cl, vf, .string c, .int .i64 vr]] w fun e w' => ∃ a' cap, e = .returned (.agg (tcells 8 false 0 0 ByteArray.empty (.slice none 0 0) 0 (.slice a' L.len cap) (.slice none 0 0) ByteArray.empty 0)) ∧ Below w.heap.size w w' ∧ L.clean.In w' (Fr w w') a' 0 := by
  obtain ⟨i0, hi, hz0, hz1, hz2⟩ := info_parts Tryz.infoT
  have HCH : Hid (ClC N) := HC
  clear HC
  have H0 : Hid (CL #[.int .i64 8, .bool b, .int .i64 i, .float .f64 f, .string tx, vb, .int .u64 rf, .slice al L.len cl, vf, .string c, .int .i64 vr] L w (((w.alloc (.cells #[.int .i64 8, .bool b, .int .i64 i, .float .f64 f, .string tx, vb, .int .u64 rf, .slice al L.len cl, vf, .string c, .int .i64 vr] 29)).alloc (.cells #[.int .i64 0, .bool false, .int .i64 0, .float .f64 0, .string ByteArray.empty, .slice none 0 0, .int .u64 0, .slice none 0 0, .slice none 0 0, .string ByteArray.empty, .int .i64 0] 29)).alloc (.cells #[.int .i64 8, .bool false, .int .i64 0, .float .f64 0, .string ByteArray.empty, .slice none 0 0, .int .u64 0, .slice none 0 0, .slice none 0 0, .string ByteArray.empty, .int .i64 0] 29)) (.slice none 0 0) w.heap.size 0 [] L ∧ L.In w B al 0 ∧ L.Ok) := by
    have hb := boxes3 (w := w) (Below.refl (((w.alloc (.cells #[.int .i64 8, .bool b, .int .i64 i, .float .f64 f, .string tx, vb, .int .u64 rf, .slice al L.len cl, vf, .string c, .int .i64 vr] 29)).alloc (.cells #[.int .i64 0, .bool false, .int .i64 0, .float .f64 0, .string ByteArray.empty, .slice none 0 0, .int .u64 0, .slice none 0 0, .slice none 0 0, .string ByteArray.empty, .int .i64 0] 29)).alloc (.cells #[.int .i64 8, .bool false, .int .i64 0, .float .f64 0, .string ByteArray.empty, .slice none 0 0, .int .u64 0, .slice none 0 0, .slice none 0 0, .string ByteArray.empty, .int .i64 0] 29)).heap.size (((w.alloc (.cells #[.int .i64 8, .bool b, .int .i64 i, .float .f64 f, .string tx, vb, .int .u64 rf, .slice al L.len cl, vf, .string c, .int .i64 vr] 29)).alloc (.cells #[.int .i64 0, .bool false, .int .i64 0, .float .f64 0, .string ByteArray.empty, .slice none 0 0, .int .u64 0, .slice none 0 0, .slice none 0 0, .string ByteArray.empty, .int .i64 0] 29)).alloc (.cells #[.int .i64 8, .bool false, .int .i64 0, .float .f64 0, .string ByteArray.empty, .slice none 0 0, .int .u64 0, .slice none 0 0, .slice none 0 0, .string ByteArray.empty, .int .i64 0] 29)))
    exact ⟨⟨⟨rfl, .inl ⟨rfl, rfl⟩⟩, .inl rfl, (TPre_nil _ _).2 rfl, by simp; omega, hb.2.2.2.1, hb.1, hb.2.1, hb.2.2.1, hb.2.2.2.2⟩, hL, ho⟩
  clear hL ho
  go_enter Tryz.func9, Tryz.ntmps9
  go_wp2_with fail
  go_loopw [4] (fun x wr => ∃ (j g : Nat) (v : Value) (l : TmL) (xs : List (Array Value)), x = .int .i64 j ∧ l.len + j = L.len ∧ l.sz ≤ N ∧ Hid (CL #[.int .i64 8, .bool b, .int .i64 i, .float .f64 f, .string tx, vb, .int .u64 rf, .slice al L.len cl, vf, .string c, .int .i64 vr] L w wr v g j xs l ∧ l.In w B al j ∧ l.Ok)) (fun x _ => L.len - (intOf x).toNat)
  case atStart => exact ⟨0, w.heap.size, .slice none 0 0, L, [], rfl, rfl, hN, H0.out⟩
  case round =>
    obtain ⟨j, g, v, l, xs, rfl, hl, hlN, HR⟩ := hrel
    clear H0
    obtain ⟨q0, q1, q2, q3, q4, q5, q6, q7, q8, q9, q10⟩ := tbox HR.out.1.bP
    have hi0 : (0 : Int) ≤ (j : Int) := Int.natCast_nonneg _
    cases l with
    | nil =>
      have h1 : ¬ ((j : Int) < (L.len : Int)) := by simp [TmL.len] at hl; omega
      have hj : j = L.len := by simp [TmL.len] at hl; omega
      obtain ⟨r0, r1, r2, r3, r4, r5, r6, r7, r8, r9, r10⟩ := tbox HR.out.1.bR
      obtain ⟨t0, t1, t2, t3, t4, t5, t6, t7, t8, t9, t10⟩ := tbox HR.out.1.bT
      have hf := box_writes HR.out.1.bR
      have f0 := hf 0; have f1 := hf 1; have f2 := hf 2; have f3 := hf 3; have f4 := hf 4; have f5 := hf 5; have f6 := hf 6; have f7 := hf 7; have f8 := hf 8; have f9 := hf 9; have f10 := hf 10
      obtain ⟨a', cap, rfl, HF⟩ : ∃ a' cap, v = .slice a' L.len cap ∧ Hid (L.clean.In wr (fun k => w.heap.size + 3 ≤ k ∧ k < wr.heap.size) a' 0) := by
        rcases HR.out.1.own.2 with ⟨e, e0⟩ | ⟨g0, cap, cur, e, hb0, _⟩
        · refine ⟨none, 0, by rw [e, ← hj, e0], ?_⟩
          have : L = .nil := by cases L with
            | nil => rfl
            | cons t l => simp [TmL.len] at hj; omega
          subst this; exact trivial
        · refine ⟨some ⟨g0, 0, none⟩, cap, by rw [e, ← hj], ?_⟩
          have hown := HR.out.1.own
          subst e
          refine TPre.done (B := Own (w.heap.size + 3) wr g) (Same.refl _ wr) (fun k hk => ⟨hk.1, hk.2.1⟩) g0 ⟨hb0, hown.lt g0 rfl |>.2⟩ L.clean xs 0 HR.out.1.pre (fun i x hx => ?_)
          have := hown.cells (g := g0) rfl i x hx
          rw [addr_add] at this; simpa using this
      have HE : Hid (Below w.heap.size w (setN wr (w.heap.size + 1) 0 [.int .i64 8, .bool false, .int .i64 0, .float .f64 0, .string ByteArray.empty, .slice none 0 0, .int .u64 0, .slice a' L.len cap, .slice none 0 0, .string ByteArray.empty, .int .i64 0]) ∧ L.clean.In (setN wr (w.heap.size + 1) 0 [.int .i64 8, .bool false, .int .i64 0, .float .f64 0, .string ByteArray.empty, .slice none 0 0, .int .u64 0, .slice a' L.len cap, .slice none 0 0, .string ByteArray.empty, .int .i64 0]) (Fr w (setN wr (w.heap.size + 1) 0 [.int .i64 8, .bool false, .int .i64 0, .float .f64 0, .string ByteArray.empty, .slice none 0 0, .int .u64 0, .slice a' L.len cap, .slice none 0 0, .string ByteArray.empty, .int .i64 0])) a' 0) := by
        refine ⟨setN_below (Nat.le_succ _) _ _ _ _ HR.out.1.bel, L.clean.In_same (fun k hk => setN_other (by have := hk.1; omega) _ _ _) (fun k hk => ⟨by have := hk.1; omega, by rw [setN_size]; exact hk.2⟩) _ _ HF.out⟩
      clear hl hf hj q0 q1 q2 q3 q4 q5 q6 q8 q9 q10
      go_wp2_with fail
      refine bodyPost_ret (v := .agg (tcells 8 false 0 0 ByteArray.empty (.slice none 0 0) 0 (.slice a' L.len cap) (.slice none 0 0) ByteArray.empty 0)) (by simp [results, Tryz.results9, go_sem, tcells, r0, r1, r2, r3, r4, r5, r6, r7, r8, r9, r10] <;> rfl) rfl ⟨_, ⟨_, rfl⟩, HE.out.1, HE.out.2⟩
    | cons t l =>
      obtain ⟨hq, hsrc, hok⟩ := HR.out
      simp only [TmL.In] at hsrc
      obtain ⟨g1, o1, cs, rfl, hg1, hc, ht, hl'⟩ := hsrc
      have hk1 : j < L.len := by simp only [TmL.len] at hl; omega
      have HL : Hid (l.len + (j + 1) = L.len) := by show _ = _; simp only [TmL.len] at hl; omega
      have htN : t.sz ≤ N ∧ l.sz ≤ N := by simp [TmL.sz] at hlN; omega
      have hs : Same B w wr := hB.same hq.bel
      have HO := HCH.out.at htN.1 (t.In_same hs (fun _ h => h) cs ht) (hB.later hq.bel) hok.head.1
      have HN : Hid (l.In w B (some ⟨g1, o1, none⟩) (j + 1) ∧ l.Ok) := ⟨hl', hok.head.2⟩
      cases t with
      | mk k' b' i' f' tx' by' rf' l' fs' c' vr' =>
        have ht' := ht
        simp only [Tm.In] at ht'
        obtain ⟨ab', cb', al', cl', af', cf', rfl, _⟩ := ht'
        have HC7 : Hid (∀ W, Below wr.heap.size wr W → W.cell? ⟨w.heap.size + 2, 7, none⟩ = some v ∧ W.cell? ⟨w.heap.size, 7, none⟩ = some (.slice (some ⟨g1, o1, none⟩) L.len cl) ∧ W.cell? ⟨g1, o1 + j * 11, none⟩ = some (.int .i64 k') ∧ W.cell? ⟨g1, o1 + j * 11 + 1, none⟩ = some (.bool b') ∧ W.cell? ⟨g1, o1 + j * 11 + 2, none⟩ = some (.int .i64 i') ∧ W.cell? ⟨g1, o1 + j * 11 + 3, none⟩ = some (.float .f64 f') ∧ W.cell? ⟨g1, o1 + j * 11 + 4, none⟩ = some (.string tx') ∧ W.cell? ⟨g1, o1 + j * 11 + 5, none⟩ = some (.slice ab' by'.size cb') ∧ W.cell? ⟨g1, o1 + j * 11 + 6, none⟩ = some (.int .u64 rf') ∧ W.cell? ⟨g1, o1 + j * 11 + 7, none⟩ = some (.slice al' l'.len cl') ∧ W.cell? ⟨g1, o1 + j * 11 + 8, none⟩ = some (.slice af' fs'.len cf') ∧ W.cell? ⟨g1, o1 + j * 11 + 9, none⟩ = some (.string c') ∧ W.cell? ⟨g1, o1 + j * 11 + 10, none⟩ = some (.int .i64 vr')) := fun W hW => by
          have hz := hq.sz
          have hw := hq.bel.size
          have hgl := hB _ hg1
          refine ⟨(tbox (by rw [hW.block _ (by omega)]; exact hq.bT)).2.2.2.2.2.2.2.1, (tbox (by rw [hW.block _ (by omega)]; exact hq.bP)).2.2.2.2.2.2.2.1, eleven (w := W) (g := g1) (o := o1 + j * 11) (fun x hx => ?_)⟩
          rw [hW.cell (p := ⟨g1, o1 + j * 11 + x, none⟩) (by show g1 < _; omega), hs.cell (p := ⟨g1, o1 + j * 11 + x, none⟩) hg1]; exact hc x hx
        obtain ⟨c7, _, e0, e1, e2, e3, e4, e5, e6, e7, e8, e9, e10⟩ := HC7.out wr (Below.refl _ _)
        have hi1 : (j : Int) < (L.len : Int) := by omega
        have hszr := hq.sz
        unfold tcells at HO
        have HO : Hid _ := HO
        clear hl hlN hc ht hl' hok hs hq q0 q1 q2 q3 q4 q5 q6 q8 q9 q10
        go_wp2_with fail
        go_region_law ((first
          | (go_simp; go_at_call 9; refine (HO.out _ ?_).mono ?_; exact (Below.refl _ _).drew; rintro e w1 ⟨k1, b1, i1, f1, tx1, ab1, nb1, cb1, rf1, al1, nl1, cl1, af1, nf1, cf1, cc1, vr1, rfl, hb1, hv1⟩; have HB1 : Hid (Below wr.heap.size wr w1) := (Below.refl _ _).drew.trans hb1; have HV1 : Hid _ := hv1; have hz1' := HB1.out.size; obtain ⟨c7', q7', _⟩ := HC7.out w1 HB1.out; have c7a := fun o => (HC7.out (w1.alloc o) (HB1.out.alloc HB1.out.size o)).1; clear hb1 hv1; dsimp only)
          | (refine step_append_lies _ (by rfl) _ _ 26 (by rfl) (w.heap.size + 3) 29 i0 _ 11 152 Tryz.undT hi hz0 hz1 hz2 rfl (by omega) v j (xs.flatMap (·.toList)) (by rfl) ((owns_below HB1.out HR.out.1.own).alloc _) ⟨w1.heap.size, 0, none⟩ 1 1 (tcells k1 b1 i1 f1 tx1 (.slice ab1 nb1 cb1) rf1 (.slice al1 nl1 cl1) (.slice af1 nf1 cf1) cc1 vr1).toList (by rfl) (by rfl) (block_cells (heap_alloc_new w1 _)) (tcells_one k1 b1 i1 f1 tx1 ab1 nb1 cb1 rf1 al1 nl1 cl1 af1 nf1 cf1 cc1 vr1) (by omega) (by unfold maxLen; omega) (by omega) (by simp; omega) (w1.heap.size + 1) (by simp) ?_; intro g' cap' w3 hown' hgrow hor hlt3; obtain ⟨hR3, hT3, hb3, hs3, hP3⟩ := HR.out.1.kept HB1.out hgrow; have c73 := (tbox hT3).2.2.2.2.2.2.2.1; have f73 := box_writes hT3 7; have HST := HR.out.1.step HB1.out HV1.out rfl hown' hgrow hor hlt3; have HST : Hid _ := HST; clear hR3 hT3 hP3)))
        all_goals
          go_wp2_with fail
          go_roundw
          case rel => exact ⟨j + 1, g', _, l, _, by go_num, HL.out, htN.2, HST.out, HN.out.1, HN.out.2⟩
          case measure => simp [intOf]; omega
end Go.Proofs.YtnndlffidifddaaGreatDoor

