/- tenonmake.plain at a list. -/
import Derived.Test.YtjlhmgopmdcopaaGreatKI16
import Derived.Deep.RegionLaw
import Derived.Deep.AppendLies
import Derived.Deep.RegionHeld3
namespace Go.Proofs.YtjlhmgopmdcopaaGreat
open Go.RowKit

/-- what plain's loop carries: the terms behind v, the two boxes -/
structure QL (L : TmL) (w wr : World) (v : Value) (g j : Nat) (xs : List (Array Value)) (l : TmL) : Prop where
  own : wr.ownsRow (w.heap.size + 2) 29 11 v j (xs.flatMap (·.toList))
  blk : v.ownBlock = none ∨ v.ownBlock = some g
  pre : TPre wr (Own (w.heap.size + 2) wr g) L.clean xs l.clean
  lt : g < wr.heap.size
  bel : Below w.heap.size w wr
  bR : wr.heap[w.heap.size]? = some (.cells #[.int .i64 0, .bool false, .int .i64 0, .float .f64 0, .string ByteArray.empty, .slice none 0 0, .int .u64 0, .slice none 0 0, .slice none 0 0, .string ByteArray.empty, .int .i64 0] 29 (0, 0))
  bT : wr.heap[w.heap.size + 1]? = some (.cells #[.int .i64 8, .bool false, .int .i64 0, .float .f64 0, .string ByteArray.empty, .slice none 0 0, .int .u64 0, v, .slice none 0 0, .string ByteArray.empty, .int .i64 0] 29 (0, 0))
  sz : w.heap.size + 2 ≤ wr.heap.size

theorem QL.kept {L : TmL} {w wr : World} {v : Value} {g j : Nat} {xs : List (Array Value)} {l : TmL} (h : QL L w wr v g j xs l) {w1 w3 : World} {o : Obj} (hb : Below wr.heap.size wr w1) (hg : (w1.alloc o).grownBy w3 v.ownBlock) :
    w3.heap[w.heap.size]? = some (.cells #[.int .i64 0, .bool false, .int .i64 0, .float .f64 0, .string ByteArray.empty, .slice none 0 0, .int .u64 0, .slice none 0 0, .slice none 0 0, .string ByteArray.empty, .int .i64 0] 29 (0, 0)) ∧ w3.heap[w.heap.size + 1]? = some (.cells #[.int .i64 8, .bool false, .int .i64 0, .float .f64 0, .string ByteArray.empty, .slice none 0 0, .int .u64 0, v, .slice none 0 0, .string ByteArray.empty, .int .i64 0] 29 (0, 0)) ∧ Below w.heap.size w w3 ∧ w1.heap.size + 1 ≤ w3.heap.size := by
  have hz1 := hb.size
  have hz := h.sz
  have hz3 := hg.size
  simp at hz3
  have hne : ∀ k, k < w.heap.size + 2 → some k ≠ v.ownBlock := fun k hk e => by
    rcases h.own.2 with ⟨rfl, _⟩ | ⟨g0, cap, cur, rfl, hb0, _⟩
    · simp [Value.ownBlock] at e
    · simp only [Value.ownBlock, Option.some.injEq] at e; omega
  have hk : ∀ k, k < w.heap.size + 2 → w3.heap[k]? = wr.heap[k]? := fun k hk => by
    rw [hg.block k (by simp; omega) (hne k hk), Below.heap_alloc _ _ _ (by omega)]; exact hb.block k (by omega)
  refine ⟨by rw [hk _ (by omega)]; exact h.bR, by rw [hk _ (by omega)]; exact h.bT, ?_, by omega⟩
  have hb1 : Below w.heap.size w (w1.alloc o) := (h.bel.trans (hb.mono h.bel.size)).alloc (by omega) _
  exact hb1.grown hg (by simp; omega) (fun k e => by
    rcases h.own.2 with ⟨rfl, _⟩ | ⟨g0, cap, cur, rfl, hb0, _⟩
    · simp [Value.ownBlock] at e
    · simp only [Value.ownBlock, Option.some.injEq] at e; omega)

theorem QL.step {L : TmL} {w wr : World} {v : Value} {g j : Nat} {xs : List (Array Value)} {t : Tm} {l : TmL} (h : QL L w wr v g j xs (.cons t l)) {w1 w3 : World} {o : Obj} {cs : Array Value} {g' cap' : Nat} (hb : Below wr.heap.size wr w1) (hx : t.clean.In w1 (Fr wr w1) cs) (hz : cs.size = 11)
    (ho : w3.ownsRow (w.heap.size + 2) 29 11 (.slice (some ⟨g', 0, none⟩) (j + 1) cap') (j + 1) (xs.flatMap (·.toList) ++ cs.toList)) (hg : (w1.alloc o).grownBy w3 v.ownBlock) (hor : v.ownBlock = some g' ∨ g' = w1.heap.size + 1) (hlt : g' < w3.heap.size) :
    QL L w (w3.setCell ⟨w.heap.size + 1, 7, none⟩ (.slice (some ⟨g', 0, none⟩) (j + 1) cap')) (.slice (some ⟨g', 0, none⟩) (j + 1) cap') g' (j + 1) (xs ++ [cs]) l := by
  obtain ⟨hR, hT, hbw, hsz⟩ := h.kept hb hg
  have hz1 := hb.size
  have hsz0 := h.sz
  have hgl := h.lt
  have hown' : (w3.setCell ⟨w.heap.size + 1, 7, none⟩ (.slice (some ⟨g', 0, none⟩) (j + 1) cap')).ownsRow (w.heap.size + 2) 29 11 (.slice (some ⟨g', 0, none⟩) (j + 1) cap') (j + 1) ((xs ++ [cs]).flatMap (·.toList)) := by
    refine ⟨by have := ho.1; rw [List.flatMap_append]; simpa using this, .inr ?_⟩
    rcases ho.2 with ⟨e, _⟩ | ⟨g0, cap, cur, e, hb0, hc, h1, h2, h3, h4⟩
    · simp at e
    · refine ⟨g0, cap, cur, e, hb0, ?_, h1, h2, h3, by rw [h4, List.flatMap_append]; simp⟩
      rw [heap_setCell_other _ _ _ _ (by show g0 ≠ w.heap.size + 1; omega)]; exact hc
  have hblk : ∀ k, w.heap.size + 2 ≤ k → k < w1.heap.size → k ≠ g → (w3.setCell ⟨w.heap.size + 1, 7, none⟩ (.slice (some ⟨g', 0, none⟩) (j + 1) cap')).heap[k]? = w1.heap[k]? := fun k h1 h2 h3 => by
    rw [heap_setCell_other _ _ _ _ (by show k ≠ w.heap.size + 1; omega), hg.block k (by simp; omega) (fun e => by
      rcases h.blk with e' | e'
      · rw [e'] at e; simp at e
      · rw [e'] at e; simp only [Option.some.injEq] at e; exact h3 e), Below.heap_alloc _ _ _ h2]
  have hg' : ∀ k, k < w1.heap.size → k ≠ g → k ≠ g' := fun k h1 h2 e => by
    rcases hor with e' | e'
    · rcases h.blk with e2 | e2
      · rw [e2] at e'; simp at e'
      · rw [e2] at e'; simp only [Option.some.injEq] at e'; omega
    · omega
  have hszc : (w3.setCell ⟨w.heap.size + 1, 7, none⟩ (.slice (some ⟨g', 0, none⟩) (j + 1) cap')).heap.size = w3.heap.size := by simp
  refine ⟨hown', .inr rfl, ?_, by rw [hszc]; exact hlt, hbw.setCell (p := ⟨w.heap.size + 1, 7, none⟩) (Nat.le_succ _) _, ?_, heap_setCell_same w3 (w.heap.size + 1) 7 _ _ _ hT, by rw [hszc]; omega⟩
  · refine TPre.snoc _ _ t.clean _ cs (TPre.same (S := Own (w.heap.size + 2) wr g) (fun k hk => ?_) (fun k hk => ⟨hk.1, by rw [hszc]; have := hk.2.1; omega, hg' k (by have := hk.2.1; omega) hk.2.2⟩) _ _ _ h.pre) (t.clean.In_same (B := Fr wr w1) (fun k hk => ?_) (fun k hk => ⟨by have := hk.1; omega, by rw [hszc]; have := hk.2; omega, hg' k hk.2 (by have := hk.1; omega)⟩) cs hx) hz
    · rw [hblk k hk.1 (by have := hk.2.1; omega) hk.2.2]; exact hb.block k hk.2.1
    · exact hblk k (by have := hk.1; omega) hk.2 (by have := hk.1; omega)
  · rw [heap_setCell_other _ _ _ _ (by show w.heap.size ≠ w.heap.size + 1; omega)]; exact hR

set_option maxRecDepth 100000 in
set_option maxHeartbeats 2000000 in
theorem pl_8 (N : Nat) (HC : PlC N) (a : Option Addr) (L : TmL) (cl : Nat) (w : World) (deep n : Int) (hN : L.sz ≤ N) (B : Nat → Prop) (hB : Sub B w) (hL : L.V w B a 0) (hlen : L.len ≤ 4096) (ho : L.OkAt (n + 1)) (hbd : L.Bdd) (h0 : 0 ≤ deep) (h1 : deep ≤ n) (hn : n ≤ 64) :
    Calls Tryz.prog 38 #[.iface 81 (.slice a L.len cl), .int .i64 deep] w fun e w' => ∃ a' cap, e = .returned (.agg (tcells 8 false 0 0 ByteArray.empty (.slice none 0 0) 0 (.slice a' L.len cap) (.slice none 0 0) ByteArray.empty 0)) ∧ Below w.heap.size w w' ∧ L.clean.In w' (Fr w w') a' 0 := by
  obtain ⟨i0, hi, hz0, hz1, hz2⟩ := info_parts Tryz.infoT
  have HCH : Hid (PlC N) := HC
  clear HC
  have H0 : Hid (QL L w ((w.alloc (.cells #[.int .i64 0, .bool false, .int .i64 0, .float .f64 0, .string ByteArray.empty, .slice none 0 0, .int .u64 0, .slice none 0 0, .slice none 0 0, .string ByteArray.empty, .int .i64 0] 29)).alloc (.cells #[.int .i64 8, .bool false, .int .i64 0, .float .f64 0, .string ByteArray.empty, .slice none 0 0, .int .u64 0, .slice none 0 0, .slice none 0 0, .string ByteArray.empty, .int .i64 0] 29)) (.slice none 0 0) w.heap.size 0 [] L ∧ L.V w B a 0 ∧ L.OkAt (n + 1) ∧ L.Bdd) := by
    have hb := boxes_at (w := w) (o := .cells #[.int .i64 0, .bool false, .int .i64 0, .float .f64 0, .string ByteArray.empty, .slice none 0 0, .int .u64 0, .slice none 0 0, .slice none 0 0, .string ByteArray.empty, .int .i64 0] 29) (p := .cells #[.int .i64 8, .bool false, .int .i64 0, .float .f64 0, .string ByteArray.empty, .slice none 0 0, .int .u64 0, .slice none 0 0, .slice none 0 0, .string ByteArray.empty, .int .i64 0] 29) (Below.refl _ _)
    exact ⟨⟨⟨rfl, .inl ⟨rfl, rfl⟩⟩, .inl rfl, (TPre_nil _ _).2 rfl, by simp; omega, hb.2.2.1, hb.1, hb.2.1, hb.2.2.2⟩, hL, ho, hbd⟩
  have hwd : IntKind.i64.wrap (deep + 1) = deep + 1 := wrap_small (by omega) (by omega)
  clear hL ho hbd
  go_enter Tryz.func38, Tryz.ntmps38
  go_wp2_with fail
  go_loopw [14] (fun x wr => ∃ (j g : Nat) (v : Value) (l : TmL) (xs : List (Array Value)), x = .int .i64 j ∧ l.len + j = L.len ∧ l.sz ≤ N ∧ Hid (QL L w wr v g j xs l ∧ l.V w B a j ∧ l.OkAt (n + 1) ∧ l.Bdd)) (fun x _ => L.len - (intOf x).toNat)
  case atStart => exact ⟨0, w.heap.size, .slice none 0 0, L, [], rfl, rfl, hN, H0.out⟩
  case round =>
    obtain ⟨j, g, v, l, xs, rfl, hl, hlN, HR⟩ := hrel
    clear H0
    cases l with
    | nil =>
      have h1 : L.len ≤ j := by simp [TmL.len] at hl; omega
      have hj : j = L.len := by simp [TmL.len] at hl; omega
      obtain ⟨r0, r1, r2, r3, r4, r5, r6, r7, r8, r9, r10⟩ := tbox HR.out.1.bR
      obtain ⟨t0, t1, t2, t3, t4, t5, t6, t7, t8, t9, t10⟩ := tbox HR.out.1.bT
      have hf := box_writes HR.out.1.bR
      have f0 := hf 0; have f1 := hf 1; have f2 := hf 2; have f3 := hf 3; have f4 := hf 4; have f5 := hf 5; have f6 := hf 6; have f7 := hf 7; have f8 := hf 8; have f9 := hf 9; have f10 := hf 10
      obtain ⟨a', cap, rfl, HF⟩ : ∃ a' cap, v = .slice a' L.len cap ∧ Hid (L.clean.In wr (fun k => w.heap.size + 2 ≤ k ∧ k < wr.heap.size) a' 0) := by
        rcases HR.out.1.own.2 with ⟨e, e0⟩ | ⟨g0, cap, cur, e, hb0, _⟩
        · refine ⟨none, 0, by rw [e, ← hj, e0], ?_⟩
          have : L = .nil := by cases L with
            | nil => rfl
            | cons t l => simp [TmL.len] at hj; omega
          subst this; exact trivial
        · refine ⟨some ⟨g0, 0, none⟩, cap, by rw [e, ← hj], ?_⟩
          have hown := HR.out.1.own
          subst e
          refine TPre.done (B := Own (w.heap.size + 2) wr g) (Same.refl _ wr) (fun k hk => ⟨hk.1, hk.2.1⟩) g0 ⟨hb0, hown.lt g0 rfl |>.2⟩ L.clean xs 0 HR.out.1.pre (fun i x hx => ?_)
          have := hown.cells (g := g0) rfl i x hx
          rw [addr_add] at this; simpa using this
      have HE : Hid (Below w.heap.size w (setN wr w.heap.size 0 [.int .i64 8, .bool false, .int .i64 0, .float .f64 0, .string ByteArray.empty, .slice none 0 0, .int .u64 0, .slice a' L.len cap, .slice none 0 0, .string ByteArray.empty, .int .i64 0]) ∧ L.clean.In (setN wr w.heap.size 0 [.int .i64 8, .bool false, .int .i64 0, .float .f64 0, .string ByteArray.empty, .slice none 0 0, .int .u64 0, .slice a' L.len cap, .slice none 0 0, .string ByteArray.empty, .int .i64 0]) (Fr w (setN wr w.heap.size 0 [.int .i64 8, .bool false, .int .i64 0, .float .f64 0, .string ByteArray.empty, .slice none 0 0, .int .u64 0, .slice a' L.len cap, .slice none 0 0, .string ByteArray.empty, .int .i64 0])) a' 0) := by
        refine ⟨setN_below (Nat.le_refl _) _ _ _ _ HR.out.1.bel, L.clean.In_same (fun k hk => setN_other (by have := hk.1; omega) _ _ _) (fun k hk => ⟨by have := hk.1; omega, by rw [setN_size]; exact hk.2⟩) _ _ HF.out⟩
      clear hl hf hj
      go_wp2_with fail
      refine bodyPost_ret (v := .agg (tcells 8 false 0 0 ByteArray.empty (.slice none 0 0) 0 (.slice a' L.len cap) (.slice none 0 0) ByteArray.empty 0)) (by simp [results, Tryz.results38, go_sem, tcells, r0, r1, r2, r3, r4, r5, r6, r7, r8, r9, r10]) rfl ⟨_, _, rfl, HE.out.1, HE.out.2⟩
    | cons t l =>
      obtain ⟨hq, hsrc, hok, hbdd⟩ := HR.out
      simp only [TmL.V] at hsrc
      obtain ⟨g1, o1, v1, rfl, hg1, hc, ht, hl'⟩ := hsrc
      have hk1 : j < L.len := by simp only [TmL.len] at hl; omega
      have HL : Hid (l.len + (j + 1) = L.len) := by show _ = _; simp only [TmL.len] at hl; omega
      have htN : t.sz ≤ N ∧ l.sz ≤ N := by simp [TmL.sz] at hlN; omega
      have hs : Same B w wr := hB.same hq.bel
      have HO := HCH.out.at (deep := deep + 1) (n := n + 1) htN.1 (t.V_same hs (fun _ h => h) v1 ht) (hB.later hq.bel) hok.head.1 hbdd.1 (by omega) (by omega)
      have HO : Hid _ := HO
      have e0 : wr.cell? ⟨g1, o1 + j, none⟩ = some v1 := by rw [hs.cell (p := ⟨g1, o1 + j, none⟩) hg1]; exact hc
      have HN : Hid (l.V w B (some ⟨g1, o1, none⟩) (j + 1) ∧ l.OkAt (n + 1) ∧ l.Bdd) := ⟨hl', hok.head.2, hbdd.2⟩
      have c7 : wr.cell? ⟨w.heap.size + 1, 7, none⟩ = some v := (tbox hq.bT).2.2.2.2.2.2.2.1
      have HC7 : Hid (∀ W, Below wr.heap.size wr W → W.cell? ⟨w.heap.size + 1, 7, none⟩ = some v ∧ W.cell? ⟨g1, o1 + j, none⟩ = some v1) := fun W hW => ⟨by rw [hW.cell (p := ⟨w.heap.size + 1, 7, none⟩) (by have := hq.sz; show w.heap.size + 1 < _; omega)]; exact c7, by rw [hW.cell (p := ⟨g1, o1 + j, none⟩) (hB.later hq.bel _ hg1)]; exact e0⟩
      have hi0 : (0 : Int) ≤ (j : Int) := Int.natCast_nonneg _
      have hi1 : (j : Int) < (L.len : Int) := by omega
      have hszr := hq.sz
      unfold tcells at HO
      clear hl hlN hc ht hl' hok hs hq hbdd
      go_wp2_with fail
      go_region_law ((first
          | (go_simp; go_at_call 38; refine (HO.out _ ?_).mono ?_; exact (Below.refl _ _).drew; rintro e w1 ⟨k1, b1, i1, f1, tx1, ab1, nb1, cb1, rf1, al1, nl1, cl1, af1, nf1, cf1, cc1, vr1, rfl, hb1, hv1⟩; have HB1 : Hid (Below wr.heap.size wr w1) := (Below.refl _ _).drew.trans hb1; have HV1 : Hid _ := hv1; have hz1' := HB1.out.size; obtain ⟨c7', e0'⟩ := HC7.out w1 HB1.out; have c7a := fun o => (HC7.out (w1.alloc o) (HB1.out.alloc HB1.out.size o)).1; clear hb1 hv1; dsimp only)
          | (refine step_append_lies _ (by rfl) _ _ 26 (by rfl) (w.heap.size + 2) 29 i0 _ 11 152 Tryz.undT hi hz0 hz1 hz2 rfl (by omega) v j (xs.flatMap (·.toList)) (by rfl) ((owns_below HB1.out HR.out.1.own).alloc _) ⟨w1.heap.size, 0, none⟩ 1 1 (tcells k1 b1 i1 f1 tx1 (.slice ab1 nb1 cb1) rf1 (.slice al1 nl1 cl1) (.slice af1 nf1 cf1) cc1 vr1).toList (by rfl) (by rfl) (block_cells (heap_alloc_new w1 _)) (tcells_one k1 b1 i1 f1 tx1 ab1 nb1 cb1 rf1 al1 nl1 cl1 af1 nf1 cf1 cc1 vr1) (by omega) (by unfold maxLen; omega) (by omega) (by simp; omega) (w1.heap.size + 1) (by simp) ?_; intro g' cap' w3 hown' hgrow hor hlt3; obtain ⟨hR3, hT3, hb3, hs3⟩ := HR.out.1.kept HB1.out hgrow; have c73 := (tbox hT3).2.2.2.2.2.2.2.1; have f73 := box_writes hT3 7; have HST := HR.out.1.step HB1.out HV1.out rfl hown' hgrow hor hlt3; have HST : Hid _ := HST; clear hR3 hT3)))
      all_goals
        go_wp2_with fail
        go_roundw
        case rel => exact ⟨j + 1, g', _, l, _, by go_num, HL.out, htN.2, HST.out, HN.out.1, HN.out.2.1, HN.out.2.2⟩
        case measure => simp [intOf]; omega
end Go.Proofs.YtjlhmgopmdcopaaGreat

/- tenonmake.entries: the entries of a dict, made by appending. -/
namespace Go.Proofs.YtjlhmgopmdcopaaGreat
open Go.RowKit

/-- what the loop of entries carries -/
structure EL (L : TmF) (w wr : World) (j g cap : Nat) (xs : List (ByteArray × Array Value)) (l : TmF) : Prop where
  own : wr.ownsRow w.heap.size 47 12 (.slice (some ⟨g, 0, none⟩) j cap) j (ecells xs)
  pre : EPre wr (Own w.heap.size wr g) L.clean xs l.clean
  lt : w.heap.size ≤ g ∧ g < wr.heap.size
  bel : Below w.heap.size w wr
theorem EL.step {L : TmF} {w wr : World} {j g cap : Nat} {xs : List (ByteArray × Array Value)} {n : ByteArray} {t : Tm} {l : TmF} (h : EL L w wr j g cap xs (.cons n t l)) (hn : n.size ≤ 140737488355328) {w1 w3 : World} {o : Obj} {cs : Array Value} {g' cap' : Nat} (hb : Below wr.heap.size wr w1) (hx : t.clean.In w1 (Fr wr w1) cs) (hz : cs.size = 11)
    (ho : w3.ownsRow w.heap.size 47 12 (.slice (some ⟨g', 0, none⟩) (j + 1) cap') (j + 1) (ecells xs ++ (.string n :: cs.toList))) (hg : (w1.alloc o).grownBy w3 (some g)) (hor : some g = some g' ∨ g' = w1.heap.size + 1) (hlt : g' < w3.heap.size) :
    EL L w w3 (j + 1) g' cap' (xs ++ [(n, cs)]) l := by
  have hz1 := hb.size
  have hz3 := hg.size
  simp at hz3
  have hgl := h.lt
  have hlt' := ho.lt g' rfl
  have h31 : ∀ k, k < w1.heap.size → k ≠ g → w3.heap[k]? = w1.heap[k]? := fun k hk hne => by
    rw [hg.block k (by simp; omega) (by simpa using hne)]; exact Below.heap_alloc _ _ _ hk
  have hg' : ∀ k, k < w1.heap.size → k ≠ g → k ≠ g' := fun k hk hne e => by
    rcases hor with e' | e'
    · injection e' with e'; omega
    · omega
  refine ⟨by have e2 : ecells (xs ++ [(n, cs)]) = ecells xs ++ (.string n :: cs.toList) := by (unfold ecells; rw [List.flatMap_append]; simp)
             rw [e2]; exact ho, ?_, ⟨hlt'.1, hlt⟩, ?_⟩
  · refine EPre.snoc _ _ n t.clean _ cs (EPre.same (S := Own w.heap.size wr g) (fun k hk => ?_) (fun k hk => ⟨hk.1, by have := hk.2.1; omega, hg' k (by have := hk.2.1; omega) hk.2.2⟩) _ _ _ h.pre) hn (t.clean.In_same (B := Fr wr w1) (fun k hk => ?_) (fun k hk => ⟨by have := hk.1; omega, by have := hk.2; omega, hg' k hk.2 (by have := hk.1; omega)⟩) cs hx) hz
    · rw [h31 k (by have := hk.2.1; omega) hk.2.2]; exact hb.block k hk.2.1
    · exact h31 k hk.2 (by have := hk.1; omega)
  · have hb1 : Below w.heap.size w (w1.alloc o) := (h.bel.trans (hb.mono h.bel.size)).alloc (by have := h.bel.size; omega) _
    exact hb1.grown hg (by have := h.bel.size; simp; omega) (fun k e => by injection e with e; omega)
theorem EL.done {L : TmF} {w wr : World} {j g cap : Nat} {xs : List (ByteArray × Array Value)} (h : EL L w wr j g cap xs .nil) : L.clean.In wr (Fr w wr) (some ⟨g, 0, none⟩) 0 :=
  EPre.done (fun k hk => ⟨hk.1, hk.2.1⟩) g h.lt L.clean xs 0 h.pre (fun i x hx => by
    have := h.own.cells (g := g) rfl i x hx
    rw [addr_add] at this; simpa using this)
theorem ecell_one (n : ByteArray) (k : Int) (b : Bool) (i : Int) (f : Nat) (tx : ByteArray) (ab : Option Addr) (nb cb : Nat) (rf : Int) (al : Option Addr) (nl cl : Nat) (af : Option Addr) (nf cf : Nat) (c : ByteArray) (vr : Int) :
    ∀ u ∈ (Value.string n :: (tcells k b i f tx (.slice ab nb cb) rf (.slice al nl cl) (.slice af nf cf) c vr).toList), u.oneCell' = true := by
  intro u hu
  rcases List.mem_cons.1 hu with rfl | hu
  · rfl
  · exact tcells_one _ _ _ _ _ _ _ _ _ _ _ _ _ _ _ _ _ u hu

set_option maxRecDepth 100000 in
set_option maxHeartbeats 2000000 in
theorem plEntries_any (N : Nat) (HC : PlC N) (al : Option Addr) (L : TmF) (cl : Nat) (w : World) (deep n : Int) (hN : L.sz ≤ N) (B : Nat → Prop) (hB : Sub B w) (hL : L.V w B al 0) (hlen : L.len ≤ 4096) (hnm : L.Nm) (ho : L.OkAt (n + 1)) (hbd : L.Bdd) (h0 : 0 ≤ deep) (h1 : deep ≤ n) (hn : n ≤ 64) :
    Calls Tryz.prog 60 #[.slice al L.len cl, .int .i64 deep] w fun e w' => ∃ a cap, e = .returned (.slice a L.len cap) ∧ Below w.heap.size w w' ∧ L.clean.In w' (Fr w w') a 0 := by
  obtain ⟨i0, hi, hz0, hz1, hz2⟩ := info_parts Tryz.infoEn
  have HCH : Hid (PlC N) := HC
  clear HC
  have H0 : Hid (EL L w (w.alloc (.cells #[] 47)) 0 w.heap.size 0 [] L ∧ L.V w B al 0 ∧ L.OkAt (n + 1) ∧ L.Bdd ∧ L.Nm) :=
    ⟨⟨⟨rfl, .inr ⟨w.heap.size, 0, #[], rfl, Nat.le_refl _, heap_alloc_new w (.cells #[] 47), Nat.le_refl _, by simp [maxLen], rfl, rfl⟩⟩, (EPre_nil _ _).2 rfl, by simp, (Below.refl _ _).alloc (Nat.le_refl _) _⟩, hL, ho, hbd, hnm⟩
  have hwd : IntKind.i64.wrap (deep + 1) = deep + 1 := wrap_small (by omega) (by omega)
  clear hL ho hbd hnm
  go_enter Tryz.func60, Tryz.ntmps60
  go_wp2_with fail
  go_loopw [5, 6] (fun v x wr => ∃ (j g cap : Nat) (l : TmF) (xs : List (ByteArray × Array Value)), v = .slice (some ⟨g, 0, none⟩) j cap ∧ x = .int .i64 j ∧ l.len + j = L.len ∧ l.sz ≤ N ∧ Hid (EL L w wr j g cap xs l ∧ l.V w B al j ∧ l.OkAt (n + 1) ∧ l.Bdd ∧ l.Nm)) (fun _ x _ => L.len - (intOf x).toNat)
  case atStart => exact ⟨0, w.heap.size, 0, L, [], rfl, rfl, rfl, hN, H0.out⟩
  case round =>
    obtain ⟨j, g, cap, l, xs, rfl, rfl, hl, hlN, HR⟩ := hrel
    clear H0
    cases l with
    | nil =>
      have h1 : L.len ≤ j := by simp [TmF.len] at hl; omega
      have hj : j = L.len := by simp [TmF.len] at hl; omega
      clear hl
      go_wp2_with fail
      go_ret
      subst hj
      exact ⟨_, _, rfl, HR.out.1.bel, HR.out.1.done⟩
    | cons nm t l =>
      obtain ⟨hq, hsrc, hok, hbdd, hnm⟩ := HR.out
      simp only [TmF.V] at hsrc
      obtain ⟨g1, o1, v1, rfl, hg1, hnc, hvc, _, ht, hl'⟩ := hsrc
      have hk1 : j < L.len := by simp only [TmF.len] at hl; omega
      have HL : Hid (l.len + (j + 1) = L.len) := by show _ = _; simp only [TmF.len] at hl; omega
      have htN : t.sz ≤ N ∧ l.sz ≤ N := by simp [TmF.sz] at hlN; omega
      have hs : Same B w wr := hB.same hq.bel
      have HO := HCH.out.at (deep := deep + 1) (n := n + 1) htN.1 (t.V_same hs (fun _ h => h) v1 ht) (hB.later hq.bel) hok.head.1 hbdd.1 (by omega) (by omega)
      have HO : Hid _ := HO
      have HN : Hid (l.V w B (some ⟨g1, o1, none⟩) (j + 1) ∧ l.OkAt (n + 1) ∧ l.Bdd ∧ l.Nm) := ⟨hl', hok.head.2, hbdd.2, hnm.head.2⟩
      have hn32 : nm.size ≤ 140737488355328 := by have := hnm.head.1; omega
      have HX : Hid (∀ W, Below w.heap.size w W → W.cell? ⟨g1, o1 + j * 2, none⟩ = some (.string nm) ∧ W.cell? ⟨g1, o1 + j * 2 + 1, none⟩ = some v1) := fun W hW => ⟨by rw [hW.cell (p := ⟨g1, o1 + j * 2, none⟩) (hB _ hg1)]; exact hnc, by rw [hW.cell (p := ⟨g1, o1 + j * 2 + 1, none⟩) (hB _ hg1)]; exact hvc⟩
      have HBr : Hid (Below w.heap.size w wr) := hq.bel
      have hszr := hq.bel.size
      have hi0 : (0 : Int) ≤ (j : Int) := Int.natCast_nonneg _
      have hi1 : (j : Int) < (L.len : Int) := by omega
      unfold tcells at HO
      clear hl hlN hnc hvc ht hl' hok hs hq hbdd hnm
      go_wp2_with fail
      go_region_held3 (fun W => W.cell? ⟨g1, o1 + j * 2, none⟩ = some (.string nm) ∧ W.cell? ⟨g1, o1 + j * 2 + 1, none⟩ = some v1)
        (first | with_reducible exact HX.out _ HN3.out.bel | with_reducible exact HX.out w1 HB1w.out | with_reducible exact HX.out _ (HB1w.out.alloc HB1w.out.size _) | with_reducible exact HX.out _ HBr.out | with_reducible exact HX.out _ HBr.out.drew)
        ((first
          | (go_at_call 38; refine (HO.out _ ?_).mono ?_; exact (Below.refl _ _).drew; rintro e w1 ⟨k1, b1, i1, f1, tx1, ab1, nb1, cb1, rf1, al1, nl1, cl1, af1, nf1, cf1, cc1, vr1, rfl, hb1, hv1⟩; have HB1 : Hid (Below wr.heap.size wr w1) := (Below.refl _ _).drew.trans hb1; have HB1w : Hid (Below w.heap.size w w1) := HBr.out.trans (HB1.out.mono hszr); have HV1 : Hid _ := hv1; have hz1' := HB1.out.size; clear hb1 hv1)
          | (refine step_append_lies _ (by rfl) _ _ 27 (by rfl) w.heap.size 47 i0 _ 12 168 Tryz.undEs hi hz0 hz1 hz2 rfl (by omega) _ j (ecells xs) (by rfl) ((owns_below HB1.out HR.out.1.own).alloc _) ⟨w1.heap.size, 0, none⟩ 1 1 (.string nm :: (tcells k1 b1 i1 f1 tx1 (.slice ab1 nb1 cb1) rf1 (.slice al1 nl1 cl1) (.slice af1 nf1 cf1) cc1 vr1).toList) (by rfl) (by rfl) (block_cells (heap_alloc_new w1 _)) (ecell_one nm k1 b1 i1 f1 tx1 ab1 nb1 cb1 rf1 al1 nl1 cl1 af1 nf1 cf1 cc1 vr1) (by omega) (by unfold maxLen; omega) (by omega) (by simp; omega) (w1.heap.size + 1) (by simp) ?_; intro g' cap' w3 hown' hgrow hor hlt3; have HN3 : Hid (EL L w w3 (j + 1) g' cap' (xs ++ [(nm, (tcells k1 b1 i1 f1 tx1 (.slice ab1 nb1 cb1) rf1 (.slice al1 nl1 cl1) (.slice af1 nf1 cf1) cc1 vr1))]) l) := HR.out.1.step hn32 HB1.out HV1.out rfl hown' hgrow (by simpa [Value.ownBlock] using hor) hlt3)))
      go_wp2_with fail
      go_roundw
      case rel => exact ⟨j + 1, g', cap', l, _, rfl, by go_num, HL.out, htN.2, HN3.out, HN.out.1, HN.out.2.1, HN.out.2.2.1, HN.out.2.2.2⟩
      case measure => simp [intOf]; omega
end Go.Proofs.YtjlhmgopmdcopaaGreat

/- tenonmake.plain, kind by kind. -/
namespace Go.Proofs.YtjlhmgopmdcopaaGreat
open Go.RowKit

theorem box_at1 {w : World} {o : Obj} {w1 : World} (h : Below (w.alloc o).heap.size (w.alloc o) w1) : w1.heap[w.heap.size]? = some o ∧ Below w.heap.size w w1 ∧ w.heap.size + 1 ≤ w1.heap.size := by
  refine ⟨?_, below_to ((Below.refl _ _).alloc (Nat.le_refl _) _) h, by have := h.size; simpa using this⟩
  rw [h.block w.heap.size (by simp)]; exact heap_alloc_new w o

set_option maxRecDepth 100000 in
set_option maxHeartbeats 1000000 in
theorem pl_1 (w : World) (deep : Int) (hd : deep ≤ 400) : Calls Tryz.prog 38 #[.nilIface, .int .i64 deep] w fun e w' => e = .returned (.agg (tcells 1 false 0 0 ByteArray.empty (.slice none 0 0) 0 (.slice none 0 0) (.slice none 0 0) ByteArray.empty 0)) ∧ Below w.heap.size w w' := by
  have hd' : decide (400 < deep) = false := by simp; omega
  go_enter Tryz.func38, Tryz.ntmps38
  go_wp2_with fail
  refine bodyPost_ret (v := .agg (tcells 1 false 0 0 ByteArray.empty (.slice none 0 0) 0 (.slice none 0 0) (.slice none 0 0) ByteArray.empty 0)) (by simp [results, Tryz.results38, go_sem, tcells] <;> rfl) rfl ⟨rfl, ?_⟩
  exact (Below.refl _ _).alloc (Nat.le_refl _) _
set_option maxRecDepth 100000 in
set_option maxHeartbeats 1000000 in
theorem pl_2 (b : Bool) (w : World) (deep : Int) (hd : deep ≤ 400) : Calls Tryz.prog 38 #[.iface 4 (.bool b), .int .i64 deep] w fun e w' => e = .returned (.agg (tcells 2 b 0 0 ByteArray.empty (.slice none 0 0) 0 (.slice none 0 0) (.slice none 0 0) ByteArray.empty 0)) ∧ Below w.heap.size w w' := by
  have hd' : decide (400 < deep) = false := by simp; omega
  go_enter Tryz.func38, Tryz.ntmps38
  go_wp2_with fail
  refine bodyPost_ret (v := .agg (tcells 2 b 0 0 ByteArray.empty (.slice none 0 0) 0 (.slice none 0 0) (.slice none 0 0) ByteArray.empty 0)) (by simp [results, Tryz.results38, go_sem, tcells] <;> rfl) rfl ⟨rfl, ?_⟩
  exact (Below.refl _ _).alloc (Nat.le_refl _) _
set_option maxRecDepth 100000 in
set_option maxHeartbeats 1000000 in
theorem pl_3 (i : Int) (w : World) (deep : Int) (hd : deep ≤ 400) : Calls Tryz.prog 38 #[.iface 2 (.int .i64 i), .int .i64 deep] w fun e w' => e = .returned (.agg (tcells 3 false i 0 ByteArray.empty (.slice none 0 0) 0 (.slice none 0 0) (.slice none 0 0) ByteArray.empty 0)) ∧ Below w.heap.size w w' := by
  have hd' : decide (400 < deep) = false := by simp; omega
  go_enter Tryz.func38, Tryz.ntmps38
  go_wp2_with fail
  refine bodyPost_ret (v := .agg (tcells 3 false i 0 ByteArray.empty (.slice none 0 0) 0 (.slice none 0 0) (.slice none 0 0) ByteArray.empty 0)) (by simp [results, Tryz.results38, go_sem, tcells] <;> rfl) rfl ⟨rfl, ?_⟩
  exact (Below.refl _ _).alloc (Nat.le_refl _) _
set_option maxRecDepth 100000 in
set_option maxHeartbeats 1000000 in
theorem pl_4 (f : Nat) (w : World) (deep : Int) (hd : deep ≤ 400) : Calls Tryz.prog 38 #[.iface 22 (.float .f64 f), .int .i64 deep] w fun e w' => e = .returned (.agg (tcells 4 false 0 f ByteArray.empty (.slice none 0 0) 0 (.slice none 0 0) (.slice none 0 0) ByteArray.empty 0)) ∧ Below w.heap.size w w' := by
  have hd' : decide (400 < deep) = false := by simp; omega
  go_enter Tryz.func38, Tryz.ntmps38
  go_wp2_with fail
  refine bodyPost_ret (v := .agg (tcells 4 false 0 f ByteArray.empty (.slice none 0 0) 0 (.slice none 0 0) (.slice none 0 0) ByteArray.empty 0)) (by simp [results, Tryz.results38, go_sem, tcells] <;> rfl) rfl ⟨rfl, ?_⟩
  exact (Below.refl _ _).alloc (Nat.le_refl _) _
set_option maxRecDepth 100000 in
set_option maxHeartbeats 1000000 in
theorem pl_5 (s : ByteArray) (w : World) (deep : Int) (hd : deep ≤ 400) : Calls Tryz.prog 38 #[.iface 9 (.string s), .int .i64 deep] w fun e w' => e = .returned (.agg (tcells 5 false 0 0 s (.slice none 0 0) 0 (.slice none 0 0) (.slice none 0 0) ByteArray.empty 0)) ∧ Below w.heap.size w w' := by
  have hd' : decide (400 < deep) = false := by simp; omega
  go_enter Tryz.func38, Tryz.ntmps38
  go_wp2_with fail
  refine bodyPost_ret (v := .agg (tcells 5 false 0 0 s (.slice none 0 0) 0 (.slice none 0 0) (.slice none 0 0) ByteArray.empty 0)) (by simp [results, Tryz.results38, go_sem, tcells] <;> rfl) rfl ⟨rfl, ?_⟩
  exact (Below.refl _ _).alloc (Nat.le_refl _) _
set_option maxRecDepth 100000 in
set_option maxHeartbeats 1000000 in
theorem pl_7 (rf : Int) (w : World) (deep : Int) (hd : deep ≤ 400) : Calls Tryz.prog 38 #[.iface 25 (.int .u64 rf), .int .i64 deep] w fun e w' => e = .returned (.agg (tcells 7 false 0 0 ByteArray.empty (.slice none 0 0) rf (.slice none 0 0) (.slice none 0 0) ByteArray.empty 0)) ∧ Below w.heap.size w w' := by
  have hd' : decide (400 < deep) = false := by simp; omega
  go_enter Tryz.func38, Tryz.ntmps38
  go_wp2_with fail
  refine bodyPost_ret (v := .agg (tcells 7 false 0 0 ByteArray.empty (.slice none 0 0) rf (.slice none 0 0) (.slice none 0 0) ByteArray.empty 0)) (by simp [results, Tryz.results38, go_sem, tcells] <;> rfl) rfl ⟨rfl, ?_⟩
  exact (Below.refl _ _).alloc (Nat.le_refl _) _
set_option maxRecDepth 100000 in
set_option maxHeartbeats 1000000 in
theorem pl_9 (al : Option Addr) (L L' : TmF) (cl : Nat) (w : World) (deep : Int) (hd : deep ≤ 400) (h : ∀ W, Below w.heap.size w W → Calls Tryz.prog 60 #[.slice al L.len cl, .int .i64 deep] W fun e w' => ∃ a cap, e = .returned (.slice a L.len cap) ∧ Below W.heap.size W w' ∧ L'.In w' (Fr W w') a 0) :
    Calls Tryz.prog 38 #[.iface 57 (.slice al L.len cl), .int .i64 deep] w fun e w' => ∃ a cap, e = .returned (.agg (tcells 9 false 0 0 ByteArray.empty (.slice none 0 0) 0 (.slice none 0 0) (.slice a L.len cap) ByteArray.empty 0)) ∧ Below w.heap.size w w' ∧ L'.In w' (Fr w w') a 0 := by
  have hd' : decide (400 < deep) = false := by simp; omega
  have HC : Hid _ := h
  clear h
  go_enter Tryz.func38, Tryz.ntmps38
  go_wp2_with (go_at_call 60; refine (HC.out _ ((Below.refl _ _).alloc (Nat.le_refl _) _)).mono ?_; rintro e w1 ⟨a, cap, rfl, hb1, hl1⟩; obtain ⟨hR, hbw, hsz⟩ := box_at1 hb1; obtain ⟨r0, r1, r2, r3, r4, r5, r6, r7, r8, r9, r10⟩ := tbox hR; have hf := box_writes hR; have f0 := hf 0; have f1 := hf 1; have f2 := hf 2; have f3 := hf 3; have f4 := hf 4; have f5 := hf 5; have f6 := hf 6; have f7 := hf 7; have f8 := hf 8; have f9 := hf 9; have f10 := hf 10; have HB1 : Hid (Below w.heap.size w w1) := hbw; have HL1 : Hid (L'.In w1 (fun k => w.heap.size + 1 ≤ k ∧ k < w1.heap.size) a 0) := L'.In_same (Same.refl _ _) (fun k hk => ⟨by have := hk.1; simpa using this, hk.2⟩) _ _ hl1; clear hb1 hl1 hR hf hbw)
  have HE : Hid (Below w.heap.size w (setN w1 w.heap.size 0 [.int .i64 9, .bool false, .int .i64 0, .float .f64 0, .string ByteArray.empty, .slice none 0 0, .int .u64 0, .slice none 0 0, .slice a L.len cap, .string ByteArray.empty, .int .i64 0]) ∧ L'.In (setN w1 w.heap.size 0 [.int .i64 9, .bool false, .int .i64 0, .float .f64 0, .string ByteArray.empty, .slice none 0 0, .int .u64 0, .slice none 0 0, .slice a L.len cap, .string ByteArray.empty, .int .i64 0]) (Fr w (setN w1 w.heap.size 0 [.int .i64 9, .bool false, .int .i64 0, .float .f64 0, .string ByteArray.empty, .slice none 0 0, .int .u64 0, .slice none 0 0, .slice a L.len cap, .string ByteArray.empty, .int .i64 0])) a 0) := ⟨setN_below (Nat.le_refl _) _ _ _ _ HB1.out, L'.In_same (fun k hk => setN_other (by have := hk.1; omega) _ _ _) (fun k hk => ⟨by have := hk.1; omega, by rw [setN_size]; exact hk.2⟩) _ _ HL1.out⟩
  refine bodyPost_ret (v := .agg (tcells 9 false 0 0 ByteArray.empty (.slice none 0 0) 0 (.slice none 0 0) (.slice a L.len cap) ByteArray.empty 0)) (by simp [results, Tryz.results38, go_sem, tcells, r0, r1, r2, r3, r4, r5, r6, r7, r8, r9, r10] <;> rfl) rfl ⟨a, cap, rfl, HE.out.1, HE.out.2⟩
set_option maxRecDepth 100000 in
set_option maxHeartbeats 2000000 in
theorem pl_10 (g : Nat) (s : ByteArray) (vr : Int) (al : Option Addr) (L L' : TmF) (cl : Nat) (w : World) (deep : Int) (hd : deep ≤ 400) (hg : g < w.heap.size) (c0 : w.cell? ⟨g, 0, none⟩ = some (.string s)) (c1 : w.cell? ⟨g, 1, none⟩ = some (.int .i64 vr)) (c2 : w.cell? ⟨g, 2, none⟩ = some (.slice al L.len cl))
    (h : ∀ W, Below w.heap.size w W → Calls Tryz.prog 60 #[.slice al L.len cl, .int .i64 deep] W fun e w' => ∃ a cap, e = .returned (.slice a L.len cap) ∧ Below W.heap.size W w' ∧ L'.In w' (Fr W w') a 0) :
    Calls Tryz.prog 38 #[.iface 31 (.pointer (some ⟨g, 0, none⟩)), .int .i64 deep] w fun e w' => ∃ a cap, e = .returned (.agg (tcells 10 false 0 0 ByteArray.empty (.slice none 0 0) 0 (.slice none 0 0) (.slice a L.len cap) s vr)) ∧ Below w.heap.size w w' ∧ L'.In w' (Fr w w') a 0 := by
  have hd' : decide (400 < deep) = false := by simp; omega
  have HC : Hid _ := h
  have HX : Hid (∀ W, Below w.heap.size w W → W.cell? ⟨g, 0, none⟩ = some (.string s) ∧ W.cell? ⟨g, 1, none⟩ = some (.int .i64 vr) ∧ W.cell? ⟨g, 2, none⟩ = some (.slice al L.len cl)) := fun W hW => ⟨by rw [hW.cell (p := ⟨g, 0, none⟩) hg]; exact c0, by rw [hW.cell (p := ⟨g, 1, none⟩) hg]; exact c1, by rw [hW.cell (p := ⟨g, 2, none⟩) hg]; exact c2⟩
  have HB0 : Hid (Below w.heap.size w (w.alloc (.cells #[.int .i64 0, .bool false, .int .i64 0, .float .f64 0, .string ByteArray.empty, .slice none 0 0, .int .u64 0, .slice none 0 0, .slice none 0 0, .string ByteArray.empty, .int .i64 0] 29))) := (Below.refl _ _).alloc (Nat.le_refl _) _
  have hfar : g ≠ w.heap.size := by omega
  clear c0 c1 c2 h
  go_enter Tryz.func38, Tryz.ntmps38
  go_wp2_with fail
  go_region_held3 (fun W => W.cell? ⟨g, 0, none⟩ = some (.string s) ∧ W.cell? ⟨g, 1, none⟩ = some (.int .i64 vr) ∧ W.cell? ⟨g, 2, none⟩ = some (.slice al L.len cl))
    (first | (refine ⟨?_, ?_, ?_⟩ <;> ((repeat rw [cell_far hfar]); first | with_reducible exact (HX.out w2 HBw2.out).1 | with_reducible exact (HX.out w2 HBw2.out).2.1 | with_reducible exact (HX.out w2 HBw2.out).2.2)) | exact HX.out _ HB0.out | exact HX.out _ HB0.out.drew)
    ((first
      | (go_at_call 60; refine (HC.out _ ?_).mono ?_; exact HB0.out.drew; rintro e w2 ⟨a, cap, rfl, hb2, hl2⟩; have hb2' : Below (w.alloc (.cells #[.int .i64 0, .bool false, .int .i64 0, .float .f64 0, .string ByteArray.empty, .slice none 0 0, .int .u64 0, .slice none 0 0, .slice none 0 0, .string ByteArray.empty, .int .i64 0] 29)).heap.size (w.alloc (.cells #[.int .i64 0, .bool false, .int .i64 0, .float .f64 0, .string ByteArray.empty, .slice none 0 0, .int .u64 0, .slice none 0 0, .slice none 0 0, .string ByteArray.empty, .int .i64 0] 29)) w2 := below_to (Below.refl _ _).drew hb2; obtain ⟨hR, hbw, hsz⟩ := box_at1 hb2'; obtain ⟨r0, r1, r2, r3, r4, r5, r6, r7, r8, r9, r10⟩ := tbox hR; have hf := box_writes hR; have f0 := hf 0; have f1 := hf 1; have f2 := hf 2; have f3 := hf 3; have f4 := hf 4; have f5 := hf 5; have f6 := hf 6; have f7 := hf 7; have f8 := hf 8; have f9 := hf 9; have f10 := hf 10; have HBw2 : Hid (Below w.heap.size w w2) := hbw; have HL2 : Hid (L'.In w2 (fun k => w.heap.size + 1 ≤ k ∧ k < w2.heap.size) a 0) := L'.In_same (Same.refl _ _) (fun k hk => ⟨by have h2 := hk.1; simpa using h2, hk.2⟩) _ _ hl2; clear hb2 hb2' hl2 hR hf hbw)))
  have HE : Hid (Below w.heap.size w (setN w2 w.heap.size 0 [.int .i64 10, .bool false, .int .i64 0, .float .f64 0, .string ByteArray.empty, .slice none 0 0, .int .u64 0, .slice none 0 0, .slice a L.len cap, .string s, .int .i64 vr]) ∧ L'.In (setN w2 w.heap.size 0 [.int .i64 10, .bool false, .int .i64 0, .float .f64 0, .string ByteArray.empty, .slice none 0 0, .int .u64 0, .slice none 0 0, .slice a L.len cap, .string s, .int .i64 vr]) (Fr w (setN w2 w.heap.size 0 [.int .i64 10, .bool false, .int .i64 0, .float .f64 0, .string ByteArray.empty, .slice none 0 0, .int .u64 0, .slice none 0 0, .slice a L.len cap, .string s, .int .i64 vr])) a 0) := ⟨setN_below (Nat.le_refl _) _ _ _ _ HBw2.out, L'.In_same (fun k hk => setN_other (by have := hk.1; omega) _ _ _) (fun k hk => ⟨by have := hk.1; omega, by rw [setN_size]; exact hk.2⟩) _ _ HL2.out⟩
  go_wp2_with fail
  refine bodyPost_ret (v := .agg (tcells 10 false 0 0 ByteArray.empty (.slice none 0 0) 0 (.slice none 0 0) (.slice a L.len cap) s vr)) (by simp [results, Tryz.results38, go_sem, tcells, r0, r1, r2, r3, r4, r5, r6, r7, r8, r9, r10] <;> rfl) rfl ⟨a, cap, rfl, HE.out.1, HE.out.2⟩
end Go.Proofs.YtjlhmgopmdcopaaGreat

