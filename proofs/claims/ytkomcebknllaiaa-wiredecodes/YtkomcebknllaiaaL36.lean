/- tenonmake.plain at whatever list. -/
import Derived.Test.YtkomcebknllaiaaL35
import Derived.Deep.RegionLaw
import Derived.Deep.AppendLies
import Derived.Deep.RegionHeld3
import Derived.Test.YtkomcebknllaiaaL32
namespace Go.Proofs.Ytkomcebknllaiaa
open Go.RowKit

/-- what plain's loop carries: the terms behind v, the two boxes -/
structure GQL (d : Int) (L : TmL) (w wr : World) (v : Value) (g j : Nat) (xs : List (Array Value)) (l : TmL) : Prop where
  own : wr.ownsRow (w.heap.size + 2) 29 11 v j (xs.flatMap (·.toList))
  blk : v.ownBlock = none ∨ v.ownBlock = some g
  pre : TPre wr (Own (w.heap.size + 2) wr g) (L.pl d) xs (l.pl d)
  lt : g < wr.heap.size
  bel : Below w.heap.size w wr
  bR : wr.heap[w.heap.size]? = some (.cells #[.int .i64 0, .bool false, .int .i64 0, .float .f64 0, .string ByteArray.empty, .slice none 0 0, .int .u64 0, .slice none 0 0, .slice none 0 0, .string ByteArray.empty, .int .i64 0] 29 (0, 0))
  bT : wr.heap[w.heap.size + 1]? = some (.cells #[.int .i64 8, .bool false, .int .i64 0, .float .f64 0, .string ByteArray.empty, .slice none 0 0, .int .u64 0, v, .slice none 0 0, .string ByteArray.empty, .int .i64 0] 29 (0, 0))
  sz : w.heap.size + 2 ≤ wr.heap.size

theorem GQL.kept {d : Int} {L : TmL} {w wr : World} {v : Value} {g j : Nat} {xs : List (Array Value)} {l : TmL} (h : GQL d L w wr v g j xs l) {w1 w3 : World} {o : Obj} (hb : Below wr.heap.size wr w1) (hg : (w1.alloc o).grownBy w3 v.ownBlock) :
    w3.heap[w.heap.size]? = some (.cells #[.int .i64 0, .bool false, .int .i64 0, .float .f64 0, .string ByteArray.empty, .slice none 0 0, .int .u64 0, .slice none 0 0, .slice none 0 0, .string ByteArray.empty, .int .i64 0] 29 (0, 0)) ∧ w3.heap[w.heap.size + 1]? = some (.cells #[.int .i64 8, .bool false, .int .i64 0, .float .f64 0, .string ByteArray.empty, .slice none 0 0, .int .u64 0, v, .slice none 0 0, .string ByteArray.empty, .int .i64 0] 29 (0, 0)) ∧ Below w.heap.size w w3 ∧ w1.heap.size + 1 ≤ w3.heap.size := by
  have hz1 := hb.size
  have hz := h.sz
  have hz3 := hg.size
  simp at hz3
  have hne : ∀ k, k < w.heap.size + 2 → some k ≠ v.ownBlock := fun k hk e => by
    rcases h.own.2 with ⟨rfl, _⟩ | ⟨g0, cap, cur, rfl, hb0, _⟩
    · simp [Value.ownBlock] at e
    · simp only [Value.ownBlock, Option.some.injEq] at e; omega
  have hk : ∀ k, k < w.heap.size + 2 → w3.heap[k]? = wr.heap[k]? := fun k hk => by
    rw [hg.block k (by simp; omega) (hne k hk), Below.heap_alloc _ _ _ (by omega)]; exact hb.block k (by omega)
  refine ⟨by rw [hk _ (by omega)]; exact h.bR, by rw [hk _ (by omega)]; exact h.bT, ?_, by omega⟩
  have hb1 : Below w.heap.size w (w1.alloc o) := (h.bel.trans (hb.mono h.bel.size)).alloc (by omega) _
  exact hb1.grown hg (by simp; omega) (fun k e => by
    rcases h.own.2 with ⟨rfl, _⟩ | ⟨g0, cap, cur, rfl, hb0, _⟩
    · simp [Value.ownBlock] at e
    · simp only [Value.ownBlock, Option.some.injEq] at e; omega)

theorem GQL.step {d : Int} {L : TmL} {w wr : World} {v : Value} {g j : Nat} {xs : List (Array Value)} {t : Tm} {l : TmL} (h : GQL d L w wr v g j xs (.cons t l)) {w1 w3 : World} {o : Obj} {cs : Array Value} {g' cap' : Nat} (hb : Below wr.heap.size wr w1) (hx : (t.pl d).In w1 (Fr wr w1) cs) (hz : cs.size = 11)
    (ho : w3.ownsRow (w.heap.size + 2) 29 11 (.slice (some ⟨g', 0, none⟩) (j + 1) cap') (j + 1) (xs.flatMap (·.toList) ++ cs.toList)) (hg : (w1.alloc o).grownBy w3 v.ownBlock) (hor : v.ownBlock = some g' ∨ g' = w1.heap.size + 1) (hlt : g' < w3.heap.size) :
    GQL d L w (w3.setCell ⟨w.heap.size + 1, 7, none⟩ (.slice (some ⟨g', 0, none⟩) (j + 1) cap')) (.slice (some ⟨g', 0, none⟩) (j + 1) cap') g' (j + 1) (xs ++ [cs]) l := by
  obtain ⟨hR, hT, hbw, hsz⟩ := h.kept hb hg
  have hz1 := hb.size
  have hsz0 := h.sz
  have hgl := h.lt
  have hown' : (w3.setCell ⟨w.heap.size + 1, 7, none⟩ (.slice (some ⟨g', 0, none⟩) (j + 1) cap')).ownsRow (w.heap.size + 2) 29 11 (.slice (some ⟨g', 0, none⟩) (j + 1) cap') (j + 1) ((xs ++ [cs]).flatMap (·.toList)) := by
    refine ⟨by have := ho.1; rw [List.flatMap_append]; simpa using this, .inr ?_⟩
    rcases ho.2 with ⟨e, _⟩ | ⟨g0, cap, cur, e, hb0, hc, h1, h2, h3, h4⟩
    · simp at e
    · refine ⟨g0, cap, cur, e, hb0, ?_, h1, h2, h3, by rw [h4, List.flatMap_append]; simp⟩
      rw [heap_setCell_other _ _ _ _ (by show g0 ≠ w.heap.size + 1; omega)]; exact hc
  have hblk : ∀ k, w.heap.size + 2 ≤ k → k < w1.heap.size → k ≠ g → (w3.setCell ⟨w.heap.size + 1, 7, none⟩ (.slice (some ⟨g', 0, none⟩) (j + 1) cap')).heap[k]? = w1.heap[k]? := fun k h1 h2 h3 => by
    rw [heap_setCell_other _ _ _ _ (by show k ≠ w.heap.size + 1; omega), hg.block k (by simp; omega) (fun e => by
      rcases h.blk with e' | e'
      · rw [e'] at e; simp at e
      · rw [e'] at e; simp only [Option.some.injEq] at e; exact h3 e), Below.heap_alloc _ _ _ h2]
  have hg' : ∀ k, k < w1.heap.size → k ≠ g → k ≠ g' := fun k h1 h2 e => by
    rcases hor with e' | e'
    · rcases h.blk with e2 | e2
      · rw [e2] at e'; simp at e'
      · rw [e2] at e'; simp only [Option.some.injEq] at e'; omega
    · omega
  have hszc : (w3.setCell ⟨w.heap.size + 1, 7, none⟩ (.slice (some ⟨g', 0, none⟩) (j + 1) cap')).heap.size = w3.heap.size := by simp
  refine ⟨hown', .inr rfl, ?_, by rw [hszc]; exact hlt, hbw.setCell (p := ⟨w.heap.size + 1, 7, none⟩) (Nat.le_succ _) _, ?_, heap_setCell_same w3 (w.heap.size + 1) 7 _ _ _ hT, by rw [hszc]; omega⟩
  · refine TPre.snoc _ _ (t.pl d) _ cs (TPre.same (S := Own (w.heap.size + 2) wr g) (fun k hk => ?_) (fun k hk => ⟨hk.1, by rw [hszc]; have := hk.2.1; omega, hg' k (by have := hk.2.1; omega) hk.2.2⟩) _ _ _ h.pre) ((t.pl d).In_same (B := Fr wr w1) (fun k hk => ?_) (fun k hk => ⟨by have := hk.1; omega, by rw [hszc]; have := hk.2; omega, hg' k hk.2 (by have := hk.1; omega)⟩) cs hx) hz
    · rw [hblk k hk.1 (by have := hk.2.1; omega) hk.2.2]; exact hb.block k hk.2.1
    · exact hblk k (by have := hk.1; omega) hk.2 (by have := hk.1; omega)
  · rw [heap_setCell_other _ _ _ _ (by show w.heap.size ≠ w.heap.size + 1; omega)]; exact hR

set_option maxRecDepth 100000 in
set_option maxHeartbeats 2000000 in
theorem gpl_8 (N : Nat) (HC : GPlC N) (a : Option Addr) (L : TmL) (cl : Nat) (w : World) (deep d : Int) (hdd : d = deep + 1) (hN : L.sz ≤ N) (B : Nat → Prop) (hB : Sub B w) (hL : L.V w B a 0) (hlen : L.len * 152 ≤ 140737488355328) (hbd : L.Sm) (h0 : 0 ≤ deep) (h1 : deep ≤ 400) :
    Calls Try.prog 52 #[.iface 71 (.slice a L.len cl), .int .i64 deep] w fun e w' => ∃ a' cap, e = .returned (.agg (tcells 8 false 0 0 ByteArray.empty (.slice none 0 0) 0 (.slice a' L.len cap) (.slice none 0 0) ByteArray.empty 0)) ∧ Below w.heap.size w w' ∧ (L.pl d).In w' (Fr w w') a' 0 := by
  subst hdd
  obtain ⟨i0, hi, hz0, hz1, hz2⟩ := info_parts Try.infoT
  have HCH : Hid (GPlC N) := HC
  clear HC
  have H0 : Hid (GQL (deep + 1) L w ((w.alloc (.cells #[.int .i64 0, .bool false, .int .i64 0, .float .f64 0, .string ByteArray.empty, .slice none 0 0, .int .u64 0, .slice none 0 0, .slice none 0 0, .string ByteArray.empty, .int .i64 0] 29)).alloc (.cells #[.int .i64 8, .bool false, .int .i64 0, .float .f64 0, .string ByteArray.empty, .slice none 0 0, .int .u64 0, .slice none 0 0, .slice none 0 0, .string ByteArray.empty, .int .i64 0] 29)) (.slice none 0 0) w.heap.size 0 [] L ∧ L.V w B a 0 ∧ L.Sm) := by
    have hb := boxes_at (w := w) (o := .cells #[.int .i64 0, .bool false, .int .i64 0, .float .f64 0, .string ByteArray.empty, .slice none 0 0, .int .u64 0, .slice none 0 0, .slice none 0 0, .string ByteArray.empty, .int .i64 0] 29) (p := .cells #[.int .i64 8, .bool false, .int .i64 0, .float .f64 0, .string ByteArray.empty, .slice none 0 0, .int .u64 0, .slice none 0 0, .slice none 0 0, .string ByteArray.empty, .int .i64 0] 29) (Below.refl _ _)
    exact ⟨⟨⟨rfl, .inl ⟨rfl, rfl⟩⟩, .inl rfl, (TPre_nil _ _).2 rfl, by simp; omega, hb.2.2.1, hb.1, hb.2.1, hb.2.2.2⟩, hL, hbd⟩
  have hwd : IntKind.i64.wrap (deep + 1) = deep + 1 := wrap_small (by omega) (by omega)
  clear hL hbd
  go_enter Try.func52, Try.ntmps52
  go_wp2_with fail
  go_loopw [14] (fun x wr => ∃ (j g : Nat) (v : Value) (l : TmL) (xs : List (Array Value)), x = .int .i64 j ∧ l.len + j = L.len ∧ l.sz ≤ N ∧ Hid (GQL (deep + 1) L w wr v g j xs l ∧ l.V w B a j ∧ l.Sm)) (fun x _ => L.len - (intOf x).toNat)
  case atStart => exact ⟨0, w.heap.size, .slice none 0 0, L, [], rfl, rfl, hN, H0.out⟩
  case round =>
    obtain ⟨j, g, v, l, xs, rfl, hl, hlN, HR⟩ := hrel
    clear H0
    cases l with
    | nil =>
      have h1 : L.len ≤ j := by simp [TmL.len] at hl; omega
      have hj : j = L.len := by simp [TmL.len] at hl; omega
      obtain ⟨r0, r1, r2, r3, r4, r5, r6, r7, r8, r9, r10⟩ := tbox HR.out.1.bR
      obtain ⟨t0, t1, t2, t3, t4, t5, t6, t7, t8, t9, t10⟩ := tbox HR.out.1.bT
      have hf := box_writes HR.out.1.bR
      have f0 := hf 0; have f1 := hf 1; have f2 := hf 2; have f3 := hf 3; have f4 := hf 4; have f5 := hf 5; have f6 := hf 6; have f7 := hf 7; have f8 := hf 8; have f9 := hf 9; have f10 := hf 10
      obtain ⟨a', cap, rfl, HF⟩ : ∃ a' cap, v = .slice a' L.len cap ∧ Hid ((L.pl (deep + 1)).In wr (fun k => w.heap.size + 2 ≤ k ∧ k < wr.heap.size) a' 0) := by
        rcases HR.out.1.own.2 with ⟨e, e0⟩ | ⟨g0, cap, cur, e, hb0, _⟩
        · refine ⟨none, 0, by rw [e, ← hj, e0], ?_⟩
          have : L = .nil := by cases L with
            | nil => rfl
            | cons t l => simp [TmL.len] at hj; omega
          subst this; exact trivial
        · refine ⟨some ⟨g0, 0, none⟩, cap, by rw [e, ← hj], ?_⟩
          have hown := HR.out.1.own
          subst e
          refine TPre.done (B := Own (w.heap.size + 2) wr g) (Same.refl _ wr) (fun k hk => ⟨hk.1, hk.2.1⟩) g0 ⟨hb0, hown.lt g0 rfl |>.2⟩ (L.pl (deep + 1)) xs 0 HR.out.1.pre (fun i x hx => ?_)
          have := hown.cells (g := g0) rfl i x hx
          rw [addr_add] at this; simpa using this
      have HE : Hid (Below w.heap.size w (setN wr w.heap.size 0 [.int .i64 8, .bool false, .int .i64 0, .float .f64 0, .string ByteArray.empty, .slice none 0 0, .int .u64 0, .slice a' L.len cap, .slice none 0 0, .string ByteArray.empty, .int .i64 0]) ∧ (L.pl (deep + 1)).In (setN wr w.heap.size 0 [.int .i64 8, .bool false, .int .i64 0, .float .f64 0, .string ByteArray.empty, .slice none 0 0, .int .u64 0, .slice a' L.len cap, .slice none 0 0, .string ByteArray.empty, .int .i64 0]) (Fr w (setN wr w.heap.size 0 [.int .i64 8, .bool false, .int .i64 0, .float .f64 0, .string ByteArray.empty, .slice none 0 0, .int .u64 0, .slice a' L.len cap, .slice none 0 0, .string ByteArray.empty, .int .i64 0])) a' 0) := by
        refine ⟨setN_below (Nat.le_refl _) _ _ _ _ HR.out.1.bel, (L.pl (deep + 1)).In_same (fun k hk => setN_other (by have := hk.1; omega) _ _ _) (fun k hk => ⟨by have := hk.1; omega, by rw [setN_size]; exact hk.2⟩) _ _ HF.out⟩
      clear hl hf hj
      go_wp2_with fail
      refine bodyPost_ret (v := .agg (tcells 8 false 0 0 ByteArray.empty (.slice none 0 0) 0 (.slice a' L.len cap) (.slice none 0 0) ByteArray.empty 0)) (by simp [results, Try.results52, go_sem, tcells, r0, r1, r2, r3, r4, r5, r6, r7, r8, r9, r10]) rfl ⟨_, _, rfl, HE.out.1, HE.out.2⟩
    | cons t l =>
      obtain ⟨hq, hsrc, hbdd⟩ := HR.out
      simp only [TmL.V] at hsrc
      obtain ⟨g1, o1, v1, rfl, hg1, hc, ht, hl'⟩ := hsrc
      have hk1 : j < L.len := by simp only [TmL.len] at hl; omega
      have HL : Hid (l.len + (j + 1) = L.len) := by show _ = _; simp only [TmL.len] at hl; omega
      have htN : t.sz ≤ N ∧ l.sz ≤ N := by simp [TmL.sz] at hlN; omega
      have hs : Same B w wr := hB.same hq.bel
      have HO := HCH.out.at (deep := deep + 1) htN.1 (t.V_same hs (fun _ h => h) v1 ht) (hB.later hq.bel) hbdd.1 (by omega) (by omega)
      have HO : Hid _ := HO
      have e0 : wr.cell? ⟨g1, o1 + j, none⟩ = some v1 := by rw [hs.cell (p := ⟨g1, o1 + j, none⟩) hg1]; exact hc
      have HN : Hid (l.V w B (some ⟨g1, o1, none⟩) (j + 1) ∧ l.Sm) := ⟨hl', hbdd.2⟩
      have c7 : wr.cell? ⟨w.heap.size + 1, 7, none⟩ = some v := (tbox hq.bT).2.2.2.2.2.2.2.1
      have HC7 : Hid (∀ W, Below wr.heap.size wr W → W.cell? ⟨w.heap.size + 1, 7, none⟩ = some v ∧ W.cell? ⟨g1, o1 + j, none⟩ = some v1) := fun W hW => ⟨by rw [hW.cell (p := ⟨w.heap.size + 1, 7, none⟩) (by have := hq.sz; show w.heap.size + 1 < _; omega)]; exact c7, by rw [hW.cell (p := ⟨g1, o1 + j, none⟩) (hB.later hq.bel _ hg1)]; exact e0⟩
      have hi0 : (0 : Int) ≤ (j : Int) := Int.natCast_nonneg _
      have hi1 : (j : Int) < (L.len : Int) := by omega
      have hszr := hq.sz
      unfold tcells at HO
      clear hl hlN hc ht hl' hs hq hbdd
      go_wp2_with fail
      go_region_law ((first
          | (go_simp; go_at_call 52; refine (HO.out _ ?_).mono ?_; exact (Below.refl _ _).drew; rintro e w1 ⟨k1, b1, i1, f1, tx1, ab1, nb1, cb1, rf1, al1, nl1, cl1, af1, nf1, cf1, cc1, vr1, rfl, hb1, hv1⟩; have HB1 : Hid (Below wr.heap.size wr w1) := (Below.refl _ _).drew.trans hb1; have HV1 : Hid _ := hv1; have hz1' := HB1.out.size; obtain ⟨c7', e0'⟩ := HC7.out w1 HB1.out; have c7a := fun o => (HC7.out (w1.alloc o) (HB1.out.alloc HB1.out.size o)).1; clear hb1 hv1; dsimp only)
          | (refine step_append_lies _ (by rfl) _ _ 26 (by rfl) (w.heap.size + 2) 29 i0 _ 11 152 Try.undT hi hz0 hz1 hz2 rfl (by omega) v j (xs.flatMap (·.toList)) (by rfl) ((owns_below HB1.out HR.out.1.own).alloc _) ⟨w1.heap.size, 0, none⟩ 1 1 (tcells k1 b1 i1 f1 tx1 (.slice ab1 nb1 cb1) rf1 (.slice al1 nl1 cl1) (.slice af1 nf1 cf1) cc1 vr1).toList (by rfl) (by rfl) (block_cells (heap_alloc_new w1 _)) (tcells_one k1 b1 i1 f1 tx1 ab1 nb1 cb1 rf1 al1 nl1 cl1 af1 nf1 cf1 cc1 vr1) (by omega) (by unfold maxLen; omega) (by omega) (by simp; omega) (w1.heap.size + 1) (by simp) ?_; intro g' cap' w3 hown' hgrow hor hlt3; obtain ⟨hR3, hT3, hb3, hs3⟩ := HR.out.1.kept HB1.out hgrow; have c73 := (tbox hT3).2.2.2.2.2.2.2.1; have f73 := box_writes hT3 7; have HST := HR.out.1.step HB1.out HV1.out rfl hown' hgrow hor hlt3; have HST : Hid _ := HST; clear hR3 hT3)))
      all_goals
        go_wp2_with fail
        go_roundw
        case rel => exact ⟨j + 1, g', _, l, _, by go_num, HL.out, htN.2, HST.out, HN.out.1, HN.out.2⟩
        case measure => simp [intOf]; omega
end Go.Proofs.Ytkomcebknllaiaa

/- tenonmake.entries at whatever dict. -/
namespace Go.Proofs.Ytkomcebknllaiaa
open Go.RowKit

/-- what the loop of entries carries -/
structure GEL (d : Int) (L : TmF) (w wr : World) (j g cap : Nat) (xs : List (ByteArray × Array Value)) (l : TmF) : Prop where
  own : wr.ownsRow w.heap.size 84 12 (.slice (some ⟨g, 0, none⟩) j cap) j (ecells xs)
  pre : EPre wr (Own w.heap.size wr g) (L.pl d) xs (l.pl d)
  lt : w.heap.size ≤ g ∧ g < wr.heap.size
  bel : Below w.heap.size w wr
theorem GEL.step {d : Int} {L : TmF} {w wr : World} {j g cap : Nat} {xs : List (ByteArray × Array Value)} {n : ByteArray} {t : Tm} {l : TmF} (h : GEL d L w wr j g cap xs (.cons n t l)) (hn : n.size ≤ 140737488355328) {w1 w3 : World} {o : Obj} {cs : Array Value} {g' cap' : Nat} (hb : Below wr.heap.size wr w1) (hx : (t.pl d).In w1 (Fr wr w1) cs) (hz : cs.size = 11)
    (ho : w3.ownsRow w.heap.size 84 12 (.slice (some ⟨g', 0, none⟩) (j + 1) cap') (j + 1) (ecells xs ++ (.string n :: cs.toList))) (hg : (w1.alloc o).grownBy w3 (some g)) (hor : some g = some g' ∨ g' = w1.heap.size + 1) (hlt : g' < w3.heap.size) :
    GEL d L w w3 (j + 1) g' cap' (xs ++ [(n, cs)]) l := by
  have hz1 := hb.size
  have hz3 := hg.size
  simp at hz3
  have hgl := h.lt
  have hlt' := ho.lt g' rfl
  have h31 : ∀ k, k < w1.heap.size → k ≠ g → w3.heap[k]? = w1.heap[k]? := fun k hk hne => by
    rw [hg.block k (by simp; omega) (by simpa using hne)]; exact Below.heap_alloc _ _ _ hk
  have hg' : ∀ k, k < w1.heap.size → k ≠ g → k ≠ g' := fun k hk hne e => by
    rcases hor with e' | e'
    · injection e' with e'; omega
    · omega
  refine ⟨by have e2 : ecells (xs ++ [(n, cs)]) = ecells xs ++ (.string n :: cs.toList) := by (unfold ecells; rw [List.flatMap_append]; simp)
             rw [e2]; exact ho, ?_, ⟨hlt'.1, hlt⟩, ?_⟩
  · refine EPre.snoc _ _ n (t.pl d) _ cs (EPre.same (S := Own w.heap.size wr g) (fun k hk => ?_) (fun k hk => ⟨hk.1, by have := hk.2.1; omega, hg' k (by have := hk.2.1; omega) hk.2.2⟩) _ _ _ h.pre) hn ((t.pl d).In_same (B := Fr wr w1) (fun k hk => ?_) (fun k hk => ⟨by have := hk.1; omega, by have := hk.2; omega, hg' k hk.2 (by have := hk.1; omega)⟩) cs hx) hz
    · rw [h31 k (by have := hk.2.1; omega) hk.2.2]; exact hb.block k hk.2.1
    · exact h31 k hk.2 (by have := hk.1; omega)
  · have hb1 : Below w.heap.size w (w1.alloc o) := (h.bel.trans (hb.mono h.bel.size)).alloc (by have := h.bel.size; omega) _
    exact hb1.grown hg (by have := h.bel.size; simp; omega) (fun k e => by injection e with e; omega)
theorem GEL.done {d : Int} {L : TmF} {w wr : World} {j g cap : Nat} {xs : List (ByteArray × Array Value)} (h : GEL d L w wr j g cap xs .nil) : (L.pl d).In wr (Fr w wr) (some ⟨g, 0, none⟩) 0 :=
  EPre.done (fun k hk => ⟨hk.1, hk.2.1⟩) g h.lt (L.pl d) xs 0 h.pre (fun i x hx => by
    have := h.own.cells (g := g) rfl i x hx
    rw [addr_add] at this; simpa using this)
set_option maxRecDepth 100000 in
set_option maxHeartbeats 2000000 in
theorem gplEntries_any (N : Nat) (HC : GPlC N) (al : Option Addr) (L : TmF) (cl : Nat) (w : World) (deep d : Int) (hdd : d = deep + 1) (hN : L.sz ≤ N) (B : Nat → Prop) (hB : Sub B w) (hL : L.V w B al 0) (hlen : L.len * 168 ≤ 140737488355328) (hbd : L.Sm) (h0 : 0 ≤ deep) (h1 : deep ≤ 400) :
    Calls Try.prog 96 #[.slice al L.len cl, .int .i64 deep] w fun e w' => ∃ a cap, e = .returned (.slice a L.len cap) ∧ Below w.heap.size w w' ∧ (L.pl d).In w' (Fr w w') a 0 := by
  subst hdd
  obtain ⟨i0, hi, hz0, hz1, hz2⟩ := info_parts Try.infoEn
  have HCH : Hid (GPlC N) := HC
  clear HC
  have H0 : Hid (GEL (deep + 1) L w (w.alloc (.cells #[] 84)) 0 w.heap.size 0 [] L ∧ L.V w B al 0 ∧ L.Sm) :=
    ⟨⟨⟨rfl, .inr ⟨w.heap.size, 0, #[], rfl, Nat.le_refl _, heap_alloc_new w (.cells #[] 84), Nat.le_refl _, by simp [maxLen], rfl, rfl⟩⟩, (EPre_nil _ _).2 rfl, by simp, (Below.refl _ _).alloc (Nat.le_refl _) _⟩, hL, hbd⟩
  have hwd : IntKind.i64.wrap (deep + 1) = deep + 1 := wrap_small (by omega) (by omega)
  clear hL hbd
  go_enter Try.func96, Try.ntmps96
  go_wp2_with fail
  go_loopw [5, 6] (fun v x wr => ∃ (j g cap : Nat) (l : TmF) (xs : List (ByteArray × Array Value)), v = .slice (some ⟨g, 0, none⟩) j cap ∧ x = .int .i64 j ∧ l.len + j = L.len ∧ l.sz ≤ N ∧ Hid (GEL (deep + 1) L w wr j g cap xs l ∧ l.V w B al j ∧ l.Sm)) (fun _ x _ => L.len - (intOf x).toNat)
  case atStart => exact ⟨0, w.heap.size, 0, L, [], rfl, rfl, rfl, hN, H0.out⟩
  case round =>
    obtain ⟨j, g, cap, l, xs, rfl, rfl, hl, hlN, HR⟩ := hrel
    clear H0
    cases l with
    | nil =>
      have h1 : L.len ≤ j := by simp [TmF.len] at hl; omega
      have hj : j = L.len := by simp [TmF.len] at hl; omega
      clear hl
      go_wp2_with fail
      go_ret
      subst hj
      exact ⟨_, _, rfl, HR.out.1.bel, HR.out.1.done⟩
    | cons nm t l =>
      obtain ⟨hq, hsrc, hbdd⟩ := HR.out
      simp only [TmF.V] at hsrc
      obtain ⟨g1, o1, v1, rfl, hg1, hnc, hvc, _, ht, hl'⟩ := hsrc
      have hk1 : j < L.len := by simp only [TmF.len] at hl; omega
      have HL : Hid (l.len + (j + 1) = L.len) := by show _ = _; simp only [TmF.len] at hl; omega
      have htN : t.sz ≤ N ∧ l.sz ≤ N := by simp [TmF.sz] at hlN; omega
      have hs : Same B w wr := hB.same hq.bel
      have HO := HCH.out.at (deep := deep + 1) htN.1 (t.V_same hs (fun _ h => h) v1 ht) (hB.later hq.bel) hbdd.2.1 (by omega) (by omega)
      have HO : Hid _ := HO
      have HN : Hid (l.V w B (some ⟨g1, o1, none⟩) (j + 1) ∧ l.Sm) := ⟨hl', hbdd.2.2⟩
      have hn32 : nm.size ≤ 140737488355328 := hbdd.1
      have HX : Hid (∀ W, Below w.heap.size w W → W.cell? ⟨g1, o1 + j * 2, none⟩ = some (.string nm) ∧ W.cell? ⟨g1, o1 + j * 2 + 1, none⟩ = some v1) := fun W hW => ⟨by rw [hW.cell (p := ⟨g1, o1 + j * 2, none⟩) (hB _ hg1)]; exact hnc, by rw [hW.cell (p := ⟨g1, o1 + j * 2 + 1, none⟩) (hB _ hg1)]; exact hvc⟩
      have HBr : Hid (Below w.heap.size w wr) := hq.bel
      have hszr := hq.bel.size
      have hi0 : (0 : Int) ≤ (j : Int) := Int.natCast_nonneg _
      have hi1 : (j : Int) < (L.len : Int) := by omega
      unfold tcells at HO
      clear hl hlN hnc hvc ht hl' hs hq hbdd
      go_wp2_with fail
      go_region_held3 (fun W => W.cell? ⟨g1, o1 + j * 2, none⟩ = some (.string nm) ∧ W.cell? ⟨g1, o1 + j * 2 + 1, none⟩ = some v1)
        (first | with_reducible exact HX.out _ HN3.out.bel | with_reducible exact HX.out w1 HB1w.out | with_reducible exact HX.out _ (HB1w.out.alloc HB1w.out.size _) | with_reducible exact HX.out _ HBr.out | with_reducible exact HX.out _ HBr.out.drew)
        ((first
          | (go_at_call 52; refine (HO.out _ ?_).mono ?_; exact (Below.refl _ _).drew; rintro e w1 ⟨k1, b1, i1, f1, tx1, ab1, nb1, cb1, rf1, al1, nl1, cl1, af1, nf1, cf1, cc1, vr1, rfl, hb1, hv1⟩; have HB1 : Hid (Below wr.heap.size wr w1) := (Below.refl _ _).drew.trans hb1; have HB1w : Hid (Below w.heap.size w w1) := HBr.out.trans (HB1.out.mono hszr); have HV1 : Hid _ := hv1; have hz1' := HB1.out.size; clear hb1 hv1)
          | (refine step_append_lies _ (by rfl) _ _ 27 (by rfl) w.heap.size 84 i0 _ 12 168 Try.undEs hi hz0 hz1 hz2 rfl (by omega) _ j (ecells xs) (by rfl) ((owns_below HB1.out HR.out.1.own).alloc _) ⟨w1.heap.size, 0, none⟩ 1 1 (.string nm :: (tcells k1 b1 i1 f1 tx1 (.slice ab1 nb1 cb1) rf1 (.slice al1 nl1 cl1) (.slice af1 nf1 cf1) cc1 vr1).toList) (by rfl) (by rfl) (block_cells (heap_alloc_new w1 _)) (ecell_one nm k1 b1 i1 f1 tx1 ab1 nb1 cb1 rf1 al1 nl1 cl1 af1 nf1 cf1 cc1 vr1) (by omega) (by unfold maxLen; omega) (by omega) (by simp; omega) (w1.heap.size + 1) (by simp) ?_; intro g' cap' w3 hown' hgrow hor hlt3; have HN3 : Hid (GEL (deep + 1) L w w3 (j + 1) g' cap' (xs ++ [(nm, (tcells k1 b1 i1 f1 tx1 (.slice ab1 nb1 cb1) rf1 (.slice al1 nl1 cl1) (.slice af1 nf1 cf1) cc1 vr1))]) l) := HR.out.1.step hn32 HB1.out HV1.out rfl hown' hgrow (by simpa [Value.ownBlock] using hor) hlt3)))
      go_wp2_with fail
      go_roundw
      case rel => exact ⟨j + 1, g', cap', l, _, rfl, by go_num, HL.out, htN.2, HN3.out, HN.out.1, HN.out.2⟩
      case measure => simp [intOf]; omega
end Go.Proofs.Ytkomcebknllaiaa

/- tenonmake.plain at whatever value. -/
namespace Go.Proofs.Ytkomcebknllaiaa
open Go.RowKit

set_option maxRecDepth 100000 in
set_option maxHeartbeats 1000000 in
theorem pl_11 (w : World) (deep : Int) (hd : deep ≤ 400) : Calls Try.prog 52 #[.iface 75 (.pointer none), .int .i64 deep] w fun e w' => e = .returned (.agg (tcells 11 false 0 0 ByteArray.empty (.slice none 0 0) 0 (.slice none 0 0) (.slice none 0 0) ByteArray.empty 0)) ∧ Below w.heap.size w w' := by
  have hd' : decide (400 < deep) = false := by simp; omega
  go_enter Try.func52, Try.ntmps52
  go_wp2_with fail
  refine bodyPost_ret (v := .agg (tcells 11 false 0 0 ByteArray.empty (.slice none 0 0) 0 (.slice none 0 0) (.slice none 0 0) ByteArray.empty 0)) (by simp [results, Try.results52, go_sem, tcells] <;> rfl) rfl ⟨rfl, ?_⟩
  exact (Below.refl _ _).alloc (Nat.le_refl _) _
set_option maxRecDepth 100000 in
set_option maxHeartbeats 1000000 in
theorem pl_alien (T : TypeId) (x : Value) (hT : Alien T) (w : World) (deep : Int) (hd : deep ≤ 400) : Calls Try.prog 52 #[.iface T x, .int .i64 deep] w fun e w' => e = .returned (.agg (tcells 0 false 0 0 ByteArray.empty (.slice none 0 0) 0 (.slice none 0 0) (.slice none 0 0) ByteArray.empty 0)) ∧ Below w.heap.size w w' := by
  have hd' : decide (400 < deep) = false := by simp; omega
  obtain ⟨n1, n2, n3, n4, n5, n6, n7, n8, n9⟩ := hT
  go_enter Try.func52, Try.ntmps52
  go_wp2_with fail
  refine bodyPost_ret (v := .agg (tcells 0 false 0 0 ByteArray.empty (.slice none 0 0) 0 (.slice none 0 0) (.slice none 0 0) ByteArray.empty 0)) (by simp [results, Try.results52, go_sem, tcells] <;> rfl) rfl ⟨rfl, ?_⟩
  exact (Below.refl _ _).alloc (Nat.le_refl _) _
set_option maxRecDepth 100000 in
set_option maxHeartbeats 1000000 in
theorem pl_deep (v : Value) (w : World) (deep : Int) (hd : 400 < deep) : Calls Try.prog 52 #[v, .int .i64 deep] w fun e w' => e = .returned (.agg (tcells 0 false 0 0 ByteArray.empty (.slice none 0 0) 0 (.slice none 0 0) (.slice none 0 0) ByteArray.empty 0)) ∧ Below w.heap.size w w' := by
  have hd' : decide (400 < deep) = true := by simp; omega
  go_enter Try.func52, Try.ntmps52
  go_wp2_with fail
  refine bodyPost_ret (v := .agg (tcells 0 false 0 0 ByteArray.empty (.slice none 0 0) 0 (.slice none 0 0) (.slice none 0 0) ByteArray.empty 0)) (by simp [results, Try.results52, go_sem, tcells] <;> rfl) rfl ⟨rfl, ?_⟩
  exact (Below.refl _ _).alloc (Nat.le_refl _) _

theorem k_al {k : Int} (h : k < 1 ∨ 11 < k) : ¬ (1 ≤ k ∧ k ≤ 11) ∧ ¬ (k = 9 ∨ k = 10) := by omega
theorem Bd.any {k i : Int} {f : Nat} {tx : ByteArray} {nb : Nat} {rf : Int} {nl nf : Nat} {c : ByteArray} {vr : Int} (hk : 0 ≤ k ∧ k ≤ 11) (hi : -9223372036854775808 ≤ i ∧ i ≤ 9223372036854775807) (hf : f < 18446744073709551616) (hr : 0 ≤ rf ∧ rf ≤ 18446744073709551615) (hv : -9223372036854775808 ≤ vr ∧ vr ≤ 9223372036854775807) (ht : tx.size ≤ 140737488355328) (hc : c.size ≤ 140737488355328) (hb : nb ≤ 140737488355328) (hl : nl * 152 ≤ 140737488355328) (hn : nf * 168 ≤ 140737488355328) : Bd k i f tx nb rf nl nf c vr :=
  ⟨by omega, by omega, hi.1, hi.2, hf, hr.1, hr.2, hv.1, hv.2, ht, hc, hb, hl, hn⟩

set_option maxHeartbeats 1000000 in
theorem gplain_any (N : Nat) : GPlC N := by
  induction N with
  | zero => intro t ht; cases t; simp [Tm.sz] at ht
  | succ N ih =>
    intro t hN v B w deep hv hB hsm hd0 hd1
    have z : ByteArray.empty.size ≤ 140737488355328 := by rw [empty_size]; omega
    have q0 : (-9223372036854775808 : Int) ≤ 0 ∧ (0 : Int) ≤ 9223372036854775807 := by decide
    have r0 : (0 : Int) ≤ 0 ∧ (0 : Int) ≤ 18446744073709551615 := by decide
    have hzero : ∀ w' : World, (Tm.mk 0 false 0 0 ByteArray.empty ByteArray.empty 0 .nil .nil ByteArray.empty 0).In w' (Fr w w') (tcells 0 false 0 0 ByteArray.empty (.slice none 0 0) 0 (.slice none 0 0) (.slice none 0 0) ByteArray.empty 0) := fun w' => by
      simp only [Tm.In]
      exact ⟨none, 0, none, 0, none, 0, rfl, Bd.any (by decide) q0 (by decide) r0 q0 z z (by rw [empty_size]; decide) (by decide) (by decide), fun j hj => absurd hj (Nat.not_lt_zero _), trivial, trivial⟩
    by_cases hd : 400 < deep
    · refine (pl_deep v w deep hd).mono ?_
      rintro e w' ⟨rfl, hb⟩
      refine ⟨_, rfl, hb, ?_⟩
      have : t.pl deep = zeroT := by cases t; simp only [Tm.pl]; rw [if_pos hd]
      rw [this]; exact hzero w'
    cases t with
    | mk k b i f tx by' rf l fs c vr =>
      have hlN : l.sz ≤ N ∧ fs.sz ≤ N := by simp [Tm.sz] at hN; omega
      have hdn := hd
      have hd : deep ≤ 400 := Int.not_lt.1 hdn
      simp only [Tm.Sm] at hsm
      obtain ⟨⟨bi, bf, br, bv⟩, ⟨st, sb, sc⟩, ⟨sl, sf⟩, bl, bfs⟩ := hsm
      simp only [Tm.V] at hv
      obtain ⟨h1, h2, h3, h4, h5, h6, h7, h8, h9, h10, h11, h12⟩ := hv
      have hpl : (Tm.mk k b i f tx by' rf l fs c vr).pl deep = .mk (if 1 ≤ k ∧ k ≤ 11 then k else 0) (if k = 2 then b else false) (if k = 3 then i else 0) (if k = 4 then f else 0) (if k = 5 then tx else ByteArray.empty) (if k = 6 then by' else ByteArray.empty) (if k = 7 then rf else 0) (if k = 8 then l.pl (deep + 1) else .nil) (if k = 9 ∨ k = 10 then fs.pl (deep + 1) else .nil) (if k = 10 then c else ByteArray.empty) (if k = 10 then vr else 0) := by simp only [Tm.pl]; rw [if_neg hdn]
      rw [hpl]
      have HF : ∀ (al : Option Addr) (cl : Nat), fs.V w B al 0 → ∀ W, Below w.heap.size w W → Calls Try.prog 96 #[.slice al fs.len cl, .int .i64 deep] W fun e w' => ∃ a cap, e = .returned (.slice a fs.len cap) ∧ Below W.heap.size W w' ∧ (fs.pl (deep + 1)).In w' (Fr W w') a 0 := fun al cl hfs W hW =>
        gplEntries_any N ih al fs cl W deep (deep + 1) rfl hlN.2 B (hB.later hW) (fs.V_same (hB.same hW) (fun _ h => h) al 0 hfs) sf bfs hd0 hd
      by_cases k1 : k = 1
      · subst k1; rw [h1 rfl]; refine (pl_1 w deep hd).mono ?_
        rintro e w' ⟨rfl, hb⟩
        refine ⟨_, rfl, hb, ?_⟩
        simp
        simp only [Tm.In]
        exact ⟨none, 0, none, 0, none, 0, rfl, Bd.any (by decide) q0 (by decide) r0 q0 z z (by rw [empty_size]; decide) (by decide) (by decide), fun j hj => absurd hj (Nat.not_lt_zero _), trivial, trivial⟩
      by_cases k2 : k = 2
      · subst k2; rw [h2 rfl]; refine (pl_2 b w deep hd).mono ?_
        rintro e w' ⟨rfl, hb⟩
        refine ⟨_, rfl, hb, ?_⟩
        simp
        simp only [Tm.In]
        exact ⟨none, 0, none, 0, none, 0, rfl, Bd.any (by decide) q0 (by decide) r0 q0 z z (by rw [empty_size]; decide) (by decide) (by decide), fun j hj => absurd hj (Nat.not_lt_zero _), trivial, trivial⟩
      by_cases k3 : k = 3
      · subst k3; rw [h3 rfl]; refine (pl_3 i w deep hd).mono ?_
        rintro e w' ⟨rfl, hb⟩
        refine ⟨_, rfl, hb, ?_⟩
        simp
        simp only [Tm.In]
        exact ⟨none, 0, none, 0, none, 0, rfl, Bd.any (by decide) bi (by decide) r0 q0 z z (by rw [empty_size]; decide) (by decide) (by decide), fun j hj => absurd hj (Nat.not_lt_zero _), trivial, trivial⟩
      by_cases k4 : k = 4
      · subst k4; rw [(h4 rfl).1]; refine (pl_4 f w deep hd).mono ?_
        rintro e w' ⟨rfl, hb⟩
        refine ⟨_, rfl, hb, ?_⟩
        simp
        simp only [Tm.In]
        exact ⟨none, 0, none, 0, none, 0, rfl, Bd.any (by decide) q0 bf r0 q0 z z (by rw [empty_size]; decide) (by decide) (by decide), fun j hj => absurd hj (Nat.not_lt_zero _), trivial, trivial⟩
      by_cases k5 : k = 5
      · subst k5; rw [(h5 rfl).1]; refine (pl_5 tx w deep hd).mono ?_
        rintro e w' ⟨rfl, hb⟩
        refine ⟨_, rfl, hb, ?_⟩
        simp
        simp only [Tm.In]
        exact ⟨none, 0, none, 0, none, 0, rfl, Bd.any (by decide) q0 (by decide) r0 q0 st z (by rw [empty_size]; decide) (by decide) (by decide), fun j hj => absurd hj (Nat.not_lt_zero _), trivial, trivial⟩
      by_cases k7 : k = 7
      · subst k7; rw [h7 rfl]; refine (pl_7 rf w deep hd).mono ?_
        rintro e w' ⟨rfl, hb⟩
        refine ⟨_, rfl, hb, ?_⟩
        simp
        simp only [Tm.In]
        exact ⟨none, 0, none, 0, none, 0, rfl, Bd.any (by decide) q0 (by decide) br q0 z z (by rw [empty_size]; decide) (by decide) (by decide), fun j hj => absurd hj (Nat.not_lt_zero _), trivial, trivial⟩
      by_cases k11 : k = 11
      · subst k11; rw [h11 rfl]; refine (pl_11 w deep hd).mono ?_
        rintro e w' ⟨rfl, hb⟩
        refine ⟨_, rfl, hb, ?_⟩
        simp
        simp only [Tm.In]
        exact ⟨none, 0, none, 0, none, 0, rfl, Bd.any (by decide) q0 (by decide) r0 q0 z z (by rw [empty_size]; decide) (by decide) (by decide), fun j hj => absurd hj (Nat.not_lt_zero _), trivial, trivial⟩
      by_cases k6 : k = 6
      · subst k6
        obtain ⟨a, cap, rfl, _, hby⟩ := h6 rfl
        refine (pl_6 a by' cap B w deep hd hB hby sb).mono ?_
        rintro e w' ⟨a', cap', rfl, hb, hl⟩
        refine ⟨_, rfl, hb, ?_⟩
        simp
        simp only [Tm.In]
        exact ⟨a', cap', none, 0, none, 0, rfl, Bd.any (by decide) q0 (by decide) r0 q0 z z sb (by decide) (by decide), hl, trivial, trivial⟩
      by_cases k8 : k = 8
      · subst k8
        obtain ⟨a, cap, rfl, _, hl⟩ := h8 rfl
        refine (gpl_8 N ih a l cap w deep (deep + 1) rfl hlN.1 B hB hl sl bl hd0 hd).mono ?_
        rintro e w' ⟨a', cap', rfl, hb, hl'⟩
        refine ⟨_, rfl, hb, ?_⟩
        simp
        simp only [Tm.In]
        exact ⟨none, 0, a', cap', none, 0, by simp [TmL.pl_len, TmF.len], Bd.any (by decide) q0 (by decide) r0 q0 z z (by rw [empty_size]; decide) (by rw [TmL.pl_len]; exact sl) (by decide), fun j hj => absurd hj (Nat.not_lt_zero _), hl', trivial⟩
      by_cases k9 : k = 9
      · subst k9
        obtain ⟨a, cap, rfl, _, hl⟩ := h9 rfl
        refine (pl_9 a fs (fs.pl (deep + 1)) cap w deep hd (HF a cap hl)).mono ?_
        rintro e w' ⟨a', cap', rfl, hb, hl'⟩
        refine ⟨_, rfl, hb, ?_⟩
        simp
        simp only [Tm.In]
        exact ⟨none, 0, none, 0, a', cap', by simp [TmF.pl_len, TmL.len], Bd.any (by decide) q0 (by decide) r0 q0 z z (by rw [empty_size]; decide) (by decide) (by rw [TmF.pl_len]; exact sf), fun j hj => absurd hj (Nat.not_lt_zero _), trivial, hl'⟩
      by_cases k10 : k = 10
      · subst k10
        obtain ⟨g, a, cap, rfl, hg, c0, c1, c2, _, _, hl⟩ := h10 rfl
        refine (pl_10 g c vr a fs (fs.pl (deep + 1)) cap w deep hd (hB g hg) c0 c1 c2 (HF a cap hl)).mono ?_
        rintro e w' ⟨a', cap', rfl, hb, hl'⟩
        refine ⟨_, rfl, hb, ?_⟩
        simp
        simp only [Tm.In]
        exact ⟨none, 0, none, 0, a', cap', by simp [TmF.pl_len, TmL.len], Bd.any (by decide) q0 (by decide) r0 bv z sc (by rw [empty_size]; decide) (by decide) (by rw [TmF.pl_len]; exact sf), fun j hj => absurd hj (Nat.not_lt_zero _), trivial, hl'⟩
      have hk : k < 1 ∨ 11 < k := k_alien k1 k2 k3 k4 k5 k6 k7 k8 k9 k10 k11
      obtain ⟨T, x, rfl, hT⟩ := h12 hk
      refine (pl_alien T x hT w deep hd).mono ?_
      rintro e w' ⟨rfl, hb⟩
      refine ⟨_, rfl, hb, ?_⟩
      rw [if_neg (k_al hk).1, if_neg k2, if_neg k3, if_neg k4, if_neg k5, if_neg k6, if_neg k7, if_neg k8, if_neg (k_al hk).2, if_neg k10, if_neg k10]
      exact hzero w'
end Go.Proofs.Ytkomcebknllaiaa

/- tenonmake.Same at two copies of whatever term: it tells whether there is no alien in it. -/
namespace Go.Proofs.Ytkomcebknllaiaa
open Go.RowKit

mutual
/-- there is no alien within -/
def Tm.tame : Tm → Bool
  | .mk k _ _ _ _ _ _ l fs _ _ => if k = 8 then l.tame else if k = 9 ∨ k = 10 then fs.tame else decide (1 ≤ k ∧ k ≤ 11)
def TmL.tame : TmL → Bool
  | .nil => true
  | .cons t l => t.tame && l.tame
def TmF.tame : TmF → Bool
  | .nil => true
  | .cons _ t l => t.tame && l.tame
end
def GSmC (N : Nat) : Prop := ∀ (s : Tm), s.sz ≤ N → ∀ (cs ct : Array Value) (S : Nat → Prop) (w : World), s.In w S cs → s.In w S ct → Sub S w →
  Calls Try.prog 22 #[.agg cs, .agg ct] w fun e w' => e = .returned (.bool s.tame) ∧ Below w.heap.size w w'
theorem GSmC.at {N : Nat} (HC : GSmC N) {s : Tm} (hN : s.sz ≤ N) {r : Bool} (hr : s.tame = r) {cs ct : Array Value} {S : Nat → Prop} {w : World} (hs : s.In w S cs) (ht : s.In w S ct) (hS : Sub S w) :
    ∀ W, Below w.heap.size w W → Calls Try.prog 22 #[.agg cs, .agg ct] W fun e w' => e = .returned (.bool r) ∧ Below W.heap.size W w' := by
  subst hr; exact fun W hW => HC s hN cs ct S W (s.In_same (hS.same hW) (fun _ h => h) cs hs) (s.In_same (hS.same hW) (fun _ h => h) ct ht) (hS.later hW)

set_option maxRecDepth 100000 in
set_option maxHeartbeats 2000000 in
theorem glists_any (N : Nat) (HC : GSmC N) (A : TmL) (hN : A.sz ≤ N) (a b : Option Addr) (ca cb : Nat) (S : Nat → Prop) (w : World) (ha : A.In w S a 0) (hb : A.In w S b 0) (hS : Sub S w) (la : A.len * 152 ≤ 140737488355328) :
    Calls Try.prog 48 #[.slice a A.len ca, .slice b A.len cb] w fun e w' => e = .returned (.bool A.tame) ∧ Below w.heap.size w w' := by
  have HCH : Hid (GSmC N) := HC
  have H0 : Hid (A.In w S a 0 ∧ A.In w S b 0) := ⟨ha, hb⟩
  clear HC ha hb
  go_enter Try.func48, Try.ntmps48
  go_wp2_with fail
  go_loopw [5] (fun x wr => ∃ (k : Nat) (l : TmL), x = .int .i64 k ∧ l.len + k = A.len ∧ l.sz ≤ N ∧ Hid (l.In w S a k ∧ l.In w S b k) ∧ Hid (A.tame = l.tame) ∧ Hid (Below w.heap.size w wr)) (fun x _ => A.len - (intOf x).toNat)
  case atStart => exact ⟨0, A, rfl, rfl, hN, H0.out, rfl, Below.refl _ _⟩
  case round =>
    obtain ⟨k, l, rfl, hl, hlN, HI, HT, HW⟩ := hrel
    clear H0
    cases l with
    | nil =>
      have h1 : A.len ≤ k := by simp [TmL.len] at hl; omega
      clear hl
      go_wp2_with fail
      go_ret
      exact ⟨ret_bool (HT.out.symm), HW.out⟩
    | cons t l =>
      cases hT : t.tame with
      | true =>
        obtain ⟨hv1, hv2⟩ := HI.out
        simp only [TmL.In] at hv1 hv2
        obtain ⟨g1, o1, cs1, rfl, hg1, c1, ht, hl'⟩ := hv1
        obtain ⟨g2, o2, cs2, rfl, hg2, c2, hu, hr'⟩ := hv2
        have hk1 : k < A.len := by simp only [TmL.len] at hl; omega
        have hi0 : (0 : Int) ≤ (k : Int) := Int.natCast_nonneg _
        have hi1 : (k : Int) < (A.len : Int) := by omega
        have HL : Hid (l.len + (k + 1) = A.len) := by show _ = _; simp only [TmL.len] at hl; omega
        have htN : t.sz ≤ N ∧ l.sz ≤ N := by simp [TmL.sz] at hlN; omega
        have hs : Same S w wr := hS.same HW.out
        have HTT : Hid (A.tame = l.tame) := by show _ = _; rw [HT.out, TmL.tame, hT, Bool.true_and]
        have HO : Hid (∀ W, Below wr.heap.size wr W → Calls Try.prog 22 #[.agg cs1, .agg cs2] W fun e w' => e = .returned (.bool true) ∧ Below W.heap.size W w') :=
          HCH.out.at htN.1 hT (t.In_same hs (fun _ h => h) cs1 ht) (t.In_same hs (fun _ h => h) cs2 hu) (hS.later HW.out)
        obtain ⟨k1, b1, i1, f1, tx1, vb1, rf1, vl1, vf1, cl1, vr1, rfl⟩ := Tm.In_tc ht
        obtain ⟨k2, b2, i2, f2, tx2, vb2, rf2, vl2, vf2, cl2, vr2, rfl⟩ := Tm.In_tc hu
        obtain ⟨e0, e1, e2, e3, e4, e5, e6, e7, e8, e9, e10⟩ := eleven (w := wr) (g := g1) (o := o1 + k * 11) (fun x hx => by rw [hs.cell (p := ⟨g1, o1 + k * 11 + x, none⟩) hg1]; exact c1 x hx)
        obtain ⟨d0, d1, d2, d3, d4, d5, d6, d7, d8, d9, d10⟩ := eleven (w := wr) (g := g2) (o := o2 + k * 11) (fun x hx => by rw [hs.cell (p := ⟨g2, o2 + k * 11 + x, none⟩) hg2]; exact c2 x hx)
        have HN : Hid (l.In w S (some ⟨g1, o1, none⟩) (k + 1) ∧ l.In w S (some ⟨g2, o2, none⟩) (k + 1)) := ⟨hl', hr'⟩
        unfold tcells at HO
        clear hT hl hlN HI hl' hr' ht hu hs c1 c2
        go_wp2_with fail
        go_region_with ((go_at_call 22; refine (HO.out _ ?_).mono ?_; exact (Below.refl _ _).drew; rintro e w4 ⟨rfl, hb4⟩; have HB4 : Hid (Below w.heap.size w w4) := HW.out.trans (((Below.refl _ _).drew.trans hb4).mono HW.out.size); clear hb4))
        all_goals
          go_wp2_with fail
          go_roundw
          case rel => exact ⟨k + 1, l, by go_num, HL.out, htN.2, HN.out, HTT.out, HB4.out⟩
          case measure => simp [intOf]; omega
      | false =>
        obtain ⟨hv1, hv2⟩ := HI.out
        simp only [TmL.In] at hv1 hv2
        obtain ⟨g1, o1, cs1, rfl, hg1, c1, ht, hl'⟩ := hv1
        obtain ⟨g2, o2, cs2, rfl, hg2, c2, hu, hr'⟩ := hv2
        have hk1 : k < A.len := by simp only [TmL.len] at hl; omega
        have hi0 : (0 : Int) ≤ (k : Int) := Int.natCast_nonneg _
        have hi1 : (k : Int) < (A.len : Int) := by omega
        have HL : Hid (l.len + (k + 1) = A.len) := by show _ = _; simp only [TmL.len] at hl; omega
        have htN : t.sz ≤ N ∧ l.sz ≤ N := by simp [TmL.sz] at hlN; omega
        have hs : Same S w wr := hS.same HW.out
        have HTT : Hid (A.tame = false) := by show _ = _; rw [HT.out, TmL.tame, hT, Bool.false_and]
        have HO : Hid (∀ W, Below wr.heap.size wr W → Calls Try.prog 22 #[.agg cs1, .agg cs2] W fun e w' => e = .returned (.bool false) ∧ Below W.heap.size W w') :=
          HCH.out.at htN.1 hT (t.In_same hs (fun _ h => h) cs1 ht) (t.In_same hs (fun _ h => h) cs2 hu) (hS.later HW.out)
        obtain ⟨k1, b1, i1, f1, tx1, vb1, rf1, vl1, vf1, cl1, vr1, rfl⟩ := Tm.In_tc ht
        obtain ⟨k2, b2, i2, f2, tx2, vb2, rf2, vl2, vf2, cl2, vr2, rfl⟩ := Tm.In_tc hu
        obtain ⟨e0, e1, e2, e3, e4, e5, e6, e7, e8, e9, e10⟩ := eleven (w := wr) (g := g1) (o := o1 + k * 11) (fun x hx => by rw [hs.cell (p := ⟨g1, o1 + k * 11 + x, none⟩) hg1]; exact c1 x hx)
        obtain ⟨d0, d1, d2, d3, d4, d5, d6, d7, d8, d9, d10⟩ := eleven (w := wr) (g := g2) (o := o2 + k * 11) (fun x hx => by rw [hs.cell (p := ⟨g2, o2 + k * 11 + x, none⟩) hg2]; exact c2 x hx)
        have HN : Hid (l.In w S (some ⟨g1, o1, none⟩) (k + 1) ∧ l.In w S (some ⟨g2, o2, none⟩) (k + 1)) := ⟨hl', hr'⟩
        unfold tcells at HO
        clear hT hl hlN HI hl' hr' ht hu hs c1 c2
        go_wp2_with fail
        go_region_with ((go_at_call 22; refine (HO.out _ ?_).mono ?_; exact (Below.refl _ _).drew; rintro e w4 ⟨rfl, hb4⟩; have HB4 : Hid (Below w.heap.size w w4) := HW.out.trans (((Below.refl _ _).drew.trans hb4).mono HW.out.size); clear hb4))
        all_goals
          go_wp2_with fail
          go_ret
          exact ⟨ret_bool HTT.out.symm, HB4.out⟩
end Go.Proofs.Ytkomcebknllaiaa
