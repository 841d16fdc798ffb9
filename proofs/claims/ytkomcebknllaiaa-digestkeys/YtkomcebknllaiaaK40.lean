/- tenonlaw03.full: it writes into its own row and new memory alone. -/
import Derived.Test.YtkomcebknllaiaaK39
import Derived.Test.YtkomcebknllaiaaK34
import Derived.Deep.RegionLaw
import Derived.Deep.AppendLies
namespace Go.Proofs.Ytkomcebknllaiaa
open Go.RowKit

theorem outs_set {w : World} {base g cap : Nat} {xs : List Int} (h : Outs w base (some ⟨g, 0, none⟩) cap xs) (k : Nat) (hk : k < xs.length) (c : Int) :
    (∃ u, w.cell? ⟨g, k, none⟩ = some (.int .u8 u)) ∧ w.frozen? ⟨g, k, none⟩ = false ∧ Outs (w.setCell ⟨g, k, none⟩ (.int .u8 c)) base (some ⟨g, 0, none⟩) cap (xs.set k c) ∧ Gr base (some ⟨g, 0, none⟩) (some ⟨g, 0, none⟩) w (w.setCell ⟨g, k, none⟩ (.int .u8 c)) := by
  have hc := h.1.cells (g := g) rfl k (.int .u8 xs[k]) (by simp [u8s, hk])
  rw [addr_add] at hc
  simp only [Nat.zero_add] at hc
  have hlt := h.1.lt g rfl
  have hb := h.2
  rcases h.1.2 with ⟨e, _⟩ | ⟨g1, cap1, cur, e, hbg, hg, hnc, hcm, hcs, htake⟩
  · simp at e
  simp only [Value.slice.injEq, Option.some.injEq, Addr.mk.injEq, and_true, true_and] at e
  obtain ⟨rfl, rfl⟩ := e
  refine ⟨⟨_, hc⟩, frozen_of_row _ _ k _ _ hg, ⟨⟨by simp [u8s], .inr ⟨g, cap, _, by simp, hbg, heap_setCell_same w g k _ _ _ hg, by simpa using hnc, hcm, by simpa using hcs, ?_⟩⟩, by simpa using hb⟩, ?_⟩
  · simp only [Array.toList_setIfInBounds, List.length_set, List.take_set, htake]
    simp [u8s, List.map_set]
  · refine ⟨(Below.refl base w).setCell (p := ⟨g, k, none⟩) hbg _, fun j hj hn => Below.heap_setCell w ⟨g, k, none⟩ _ j (fun e => hn (by rw [e]; rfl)), fun j hj => .inl hj⟩

set_option maxRecDepth 100000 in
set_option maxHeartbeats 1000000 in
theorem full_any (xs : List Int) (a : Option Addr) (cap base : Nat) (c : Int) (w : World) (hl : xs.length ≤ 70368744177664) (h : Outs w base a cap xs) :
    Calls Try.prog 27 #[.slice a xs.length cap, .int .u8 c] w fun e w' => e = .returned (.tuple #[]) ∧ ∃ a', Gr base a a' w w' := by
  obtain ⟨i0, hi, hz0, hz1, hz2⟩ := info_parts Try.infoB
  have H0 : Hid (Outs w base a cap xs) := h
  clear h
  go_enter Try.func27, Try.ntmps27
  go_wp2_with fail
  go_loopw [4] (fun x wr => ∃ (k : Nat) (ys : List Int), x = .int .i64 k ∧ k ≤ xs.length ∧ Hid (ys.length = xs.length ∧ Outs wr base a cap ys ∧ Gr base a a w wr)) (fun x _ => xs.length - (intOf x).toNat)
  case atStart => exact ⟨0, xs, rfl, by omega, rfl, H0.out, Gr.refl _ _ _⟩
  case round =>
    obtain ⟨k, ys, rfl, hk, HD⟩ := hrel
    have hi0 : (0 : Int) ≤ (k : Int) := Int.natCast_nonneg _
    by_cases hkl : k < xs.length
    · have hi1 : (k : Int) < (xs.length : Int) := by omega
      obtain ⟨g, rfl⟩ := HD.out.2.1.some (by have := HD.out.1; omega)
      obtain ⟨⟨u, c0⟩, f0, ho, hg⟩ := outs_set HD.out.2.1 k (by have := HD.out.1; omega) c
      have HN : Hid ((ys.set k c).length = xs.length ∧ Outs (wr.setCell ⟨g, k, none⟩ (.int .u8 c)) base (some ⟨g, 0, none⟩) cap (ys.set k c) ∧ Gr base (some ⟨g, 0, none⟩) (some ⟨g, 0, none⟩) w (wr.setCell ⟨g, k, none⟩ (.int .u8 c))) := ⟨by rw [List.length_set]; exact HD.out.1, ho, HD.out.2.2.trans hg⟩
      clear ho hg
      go_wp2_with fail
      go_roundw
      case rel => exact ⟨k + 1, ys.set k c, by go_num, by omega, HN.out⟩
      case measure => simp [intOf]; omega
    · have hi1 : ¬ ((k : Int) < (xs.length : Int)) := by omega
      have HG0 : Hid (∃ zs : List Int, zs.length = xs.length + 0 ∧ Outs wr base a cap zs ∧ Gr base a a w wr) := ⟨ys, HD.out⟩
      go_wp2_with fail
      go_loopw [0, 5] (fun v x wr => ∃ (k : Nat) (a' : Option Addr) (cap' : Nat), v = .slice a' (xs.length + k) cap' ∧ x = .int .i64 k ∧ k ≤ 90 ∧ Hid (∃ zs : List Int, zs.length = xs.length + k ∧ Outs wr base a' cap' zs ∧ Gr base a a' w wr)) (fun _ x _ => 90 - (intOf x).toNat)
      case atStart => exact ⟨0, a, cap, rfl, rfl, by omega, HG0.out⟩
      case round =>
        obtain ⟨j, a', cap', rfl, rfl, hj, HR⟩ := hrel
        by_cases hj9 : j < 90
        · obtain ⟨zs, hz, ho, hgr⟩ := HR.out
          have HOW : Hid (wr.ownsRow base 5 1 (.slice a' (xs.length + j) cap') (xs.length + j) (u8s zs)) := by have := ho.1; rw [hz] at this; exact this
          have hbz := ho.2
          have HST : Hid (Outs wr base a' cap' zs ∧ zs.length = xs.length + j ∧ Gr base a a' w wr) := ⟨ho, hz, hgr⟩
          clear hz ho hgr
          go_wp2_with (at_builtin; refine wpList_app _ rfl _ _ 23 rfl base 5 i0 (.int .u8 0) 1 1 Try.undB hi hz0 hz1 hz2 rfl (by decide) _ _ _ rfl (HOW.out.alloc _) ⟨wr.heap.size, 0, none⟩ 1 1 [.int .u8 c] rfl rfl (cell_one_new _ _ _) (fun u hu => by simp at hu; subst hu; rfl) (by decide) (by unfold maxLen; omega) (by omega) (by simp; omega) ?_; intro g' cap2 w3 hown' hgrow hor')
          have hzz := HST.out.2.1
          obtain ⟨h1, h2⟩ := HST.out.1.step (ys := [c]) (n := xs.length + j + 1) (m := xs.length + j + 1) hown' rfl (by simp; omega) (by rw [hzz]; exact hgrow) (by rw [hzz]; exact hor')
          have HN : Hid (∃ zs : List Int, zs.length = xs.length + (j + 1) ∧ Outs w3 base (some ⟨g', 0, none⟩) cap2 zs ∧ Gr base a (some ⟨g', 0, none⟩) w w3) := ⟨zs ++ [c], by simp; omega, h1, HST.out.2.2.trans h2⟩
          clear hzz h1 h2 hown' hgrow hor'
          go_roundw
          case rel => exact ⟨j + 1, some ⟨g', 0, none⟩, cap2, rfl, by go_num, by omega, HN.out⟩
          case measure => simp [intOf]; omega
        · go_wp2_with fail
          go_end0
          obtain ⟨_, _, _, hg⟩ := HR.out
          exact ⟨rfl, a', hg⟩
end Go.Proofs.Ytkomcebknllaiaa

/- tenonmake.plain at whatever value: the term that it answers, plainly. -/
namespace Go.Proofs.Ytkomcebknllaiaa
open Go.RowKit

def zeroT : Tm := .mk 0 false 0 0 ByteArray.empty ByteArray.empty 0 .nil .nil ByteArray.empty 0
mutual
/-- the term that plain answers at a term's value that lies so deep -/
def Tm.pl : Tm → Int → Tm
  | .mk k b i f tx by' rf l fs c v, d =>
    if 400 < d then zeroT
    else .mk (if 1 ≤ k ∧ k ≤ 11 then k else 0) (if k = 2 then b else false) (if k = 3 then i else 0) (if k = 4 then f else 0) (if k = 5 then tx else ByteArray.empty) (if k = 6 then by' else ByteArray.empty) (if k = 7 then rf else 0) (if k = 8 then l.pl (d + 1) else .nil) (if k = 9 ∨ k = 10 then fs.pl (d + 1) else .nil) (if k = 10 then c else ByteArray.empty) (if k = 10 then v else 0)
def TmL.pl : TmL → Int → TmL
  | .nil, _ => .nil
  | .cons t l, d => .cons (t.pl d) (l.pl d)
def TmF.pl : TmF → Int → TmF
  | .nil, _ => .nil
  | .cons n t l, d => .cons n (t.pl d) (l.pl d)
end
theorem TmL.pl_len : (l : TmL) → ∀ d, (l.pl d).len = l.len
  | .nil, _ => rfl
  | .cons t l, d => by simp only [TmL.pl, TmL.len, TmL.pl_len l]
theorem TmF.pl_len : (l : TmF) → ∀ d, (l.pl d).len = l.len
  | .nil, _ => rfl
  | .cons n t l, d => by simp only [TmF.pl, TmF.len, TmF.pl_len l]
mutual
/-- all that a term holds is within the bounds of memory -/
def Tm.Sm : Tm → Prop
  | .mk _ _ i f tx by' rf l fs c v => ((-9223372036854775808 ≤ i ∧ i ≤ 9223372036854775807) ∧ f < 18446744073709551616 ∧ (0 ≤ rf ∧ rf ≤ 18446744073709551615) ∧ (-9223372036854775808 ≤ v ∧ v ≤ 9223372036854775807)) ∧ (tx.size ≤ 140737488355328 ∧ by'.size ≤ 140737488355328 ∧ c.size ≤ 140737488355328) ∧ (l.len * 152 ≤ 140737488355328 ∧ fs.len * 168 ≤ 140737488355328) ∧ l.Sm ∧ fs.Sm
def TmL.Sm : TmL → Prop
  | .nil => True
  | .cons t l => t.Sm ∧ l.Sm
def TmF.Sm : TmF → Prop
  | .nil => True
  | .cons n t l => n.size ≤ 140737488355328 ∧ t.Sm ∧ l.Sm
end
mutual
theorem Tm.In_sm {w : World} {B : Nat → Prop} : (t : Tm) → ∀ cs, t.In w B cs → t.Sm
  | .mk k b i f tx by' rf l fs c v, cs, h => by
    simp only [Tm.In] at h
    obtain ⟨ab, cb, al, cl, af, cf, rfl, hbd, hby, hl, hfs⟩ := h
    simp only [Tm.Sm]
    exact ⟨⟨⟨hbd.i0, hbd.i1⟩, hbd.f1, ⟨hbd.r0, hbd.r1⟩, ⟨hbd.v0, hbd.v1⟩⟩, ⟨hbd.tx, hbd.nb, hbd.c⟩, ⟨hbd.nl, hbd.nf⟩, TmL.In_sm l _ _ hl, TmF.In_sm fs _ _ hfs⟩
theorem TmL.In_sm {w : World} {B : Nat → Prop} : (l : TmL) → ∀ a j, l.In w B a j → l.Sm
  | .nil, _, _, _ => trivial
  | .cons t l, a, j, h => by
    simp only [TmL.In] at h
    obtain ⟨_, _, _, _, _, _, ht, hl⟩ := h
    exact ⟨Tm.In_sm t _ ht, TmL.In_sm l _ _ hl⟩
theorem TmF.In_sm {w : World} {B : Nat → Prop} : (l : TmF) → ∀ a j, l.In w B a j → l.Sm
  | .nil, _, _, _ => trivial
  | .cons n t l, a, j, h => by
    simp only [TmF.In] at h
    obtain ⟨_, _, _, _, _, _, hn, _, ht, hl⟩ := h
    exact ⟨hn, Tm.In_sm t _ ht, TmF.In_sm l _ _ hl⟩
end
def GPlC (N : Nat) : Prop := ∀ (t : Tm), t.sz ≤ N → ∀ (v : Value) (B : Nat → Prop) (w : World) (deep : Int), t.V w B v → Sub B w → t.Sm → 0 ≤ deep → deep ≤ 401 →
  Calls Try.prog 52 #[v, .int .i64 deep] w fun e w' => ∃ cs, e = .returned (.agg cs) ∧ Below w.heap.size w w' ∧ (t.pl deep).In w' (Fr w w') cs
theorem GPlC.at {N : Nat} (HC : GPlC N) {t : Tm} (hN : t.sz ≤ N) {v : Value} {B : Nat → Prop} {w : World} {deep : Int} (h : t.V w B v) (hB : Sub B w) (hb : t.Sm) (h0 : 0 ≤ deep) (h1 : deep ≤ 401) :
    ∀ W, Below w.heap.size w W → Calls Try.prog 52 #[v, .int .i64 deep] W fun e w' => ∃ k b i f tx ab nb cb rf al nl cl af nf cf c vr, e = .returned (.agg (tcells k b i f tx (.slice ab nb cb) rf (.slice al nl cl) (.slice af nf cf) c vr)) ∧ Below W.heap.size W w' ∧ (t.pl deep).In w' (Fr W w') (tcells k b i f tx (.slice ab nb cb) rf (.slice al nl cl) (.slice af nf cf) c vr) := by
  intro W hW
  refine (HC t hN v B W deep (t.V_same (hB.same hW) (fun _ h => h) v h) (hB.later hW) hb h0 h1).mono ?_
  rintro e w' ⟨cs, rfl, hb, hv⟩
  obtain ⟨k1, b1, i1, f1, tx1, ab1, nb1, cb1, rf1, al1, nl1, cl1, af1, nf1, cf1, cc1, vr1, rfl⟩ := Tm.In_tc' hv
  exact ⟨k1, b1, i1, f1, tx1, ab1, nb1, cb1, rf1, al1, nl1, cl1, af1, nf1, cf1, cc1, vr1, rfl, hb, hv⟩
end Go.Proofs.Ytkomcebknllaiaa

/- tenonmake.plain at whatever list. -/
namespace Go.Proofs.Ytkomcebknllaiaa
open Go.RowKit

/-- what plain's loop carries: the terms behind v, the two boxes -/
structure GQL (d : Int) (L : TmL) (w wr : World) (v : Value) (g j : Nat) (xs : List (Array Value)) (l : TmL) : Prop where
  own : wr.ownsRow (w.heap.size + 2) 29 11 v j (xs.flatMap (·.toList))
  blk : v.ownBlock = none ∨ v.ownBlock = some g
  pre : TPre wr (Own (w.heap.size + 2) wr g) (L.pl d) xs (l.pl d)
  lt : g < wr.heap.size
  bel : Below w.heap.size w wr
  bR : wr.heap[w.heap.size]? = some (.cells #[.int .i64 0, .bool false, .int .i64 0, .float .f64 0, .string ByteArray.empty, .slice none 0 0, .int .u64 0, .slice none 0 0, .slice none 0 0, .string ByteArray.empty, .int .i64 0] 29 (0, 0))
  bT : wr.heap[w.heap.size + 1]? = some (.cells #[.int .i64 8, .bool false, .int .i64 0, .float .f64 0, .string ByteArray.empty, .slice none 0 0, .int .u64 0, v, .slice none 0 0, .string ByteArray.empty, .int .i64 0] 29 (0, 0))
  sz : w.heap.size + 2 ≤ wr.heap.size

theorem GQL.kept {d : Int} {L : TmL} {w wr : World} {v : Value} {g j : Nat} {xs : List (Array Value)} {l : TmL} (h : GQL d L w wr v g j xs l) {w1 w3 : World} {o : Obj} (hb : Below wr.heap.size wr w1) (hg : (w1.alloc o).grownBy w3 v.ownBlock) :
    w3.heap[w.heap.size]? = some (.cells #[.int .i64 0, .bool false, .int .i64 0, .float .f64 0, .string ByteArray.empty, .slice none 0 0, .int .u64 0, .slice none 0 0, .slice none 0 0, .string ByteArray.empty, .int .i64 0] 29 (0, 0)) ∧ w3.heap[w.heap.size + 1]? = some (.cells #[.int .i64 8, .bool false, .int .i64 0, .float .f64 0, .string ByteArray.empty, .slice none 0 0, .int .u64 0, v, .slice none 0 0, .string ByteArray.empty, .int .i64 0] 29 (0, 0)) ∧ Below w.heap.size w w3 ∧ w1.heap.size + 1 ≤ w3.heap.size := by
  have hz1 := hb.size
  have hz := h.sz
  have hz3 := hg.size
  simp at hz3
  have hne : ∀ k, k < w.heap.size + 2 → some k ≠ v.ownBlock := fun k hk e => by
    rcases h.own.2 with ⟨rfl, _⟩ | ⟨g0, cap, cur, rfl, hb0, _⟩
    · simp [Value.ownBlock] at e
    · simp only [Value.ownBlock, Option.some.injEq] at e; omega
  have hk : ∀ k, k < w.heap.size + 2 → w3.heap[k]? = wr.heap[k]? := fun k hk => by
    rw [hg.block k (by simp; omega) (hne k hk), Below.heap_alloc _ _ _ (by omega)]; exact hb.block k (by omega)
  refine ⟨by rw [hk _ (by omega)]; exact h.bR, by rw [hk _ (by omega)]; exact h.bT, ?_, by omega⟩
  have hb1 : Below w.heap.size w (w1.alloc o) := (h.bel.trans (hb.mono h.bel.size)).alloc (by omega) _
  exact hb1.grown hg (by simp; omega) (fun k e => by
    rcases h.own.2 with ⟨rfl, _⟩ | ⟨g0, cap, cur, rfl, hb0, _⟩
    · simp [Value.ownBlock] at e
    · simp only [Value.ownBlock, Option.some.injEq] at e; omega)

theorem GQL.step {d : Int} {L : TmL} {w wr : World} {v : Value} {g j : Nat} {xs : List (Array Value)} {t : Tm} {l : TmL} (h : GQL d L w wr v g j xs (.cons t l)) {w1 w3 : World} {o : Obj} {cs : Array Value} {g' cap' : Nat} (hb : Below wr.heap.size wr w1) (hx : (t.pl d).In w1 (Fr wr w1) cs) (hz : cs.size = 11)
    (ho : w3.ownsRow (w.heap.size + 2) 29 11 (.slice (some ⟨g', 0, none⟩) (j + 1) cap') (j + 1) (xs.flatMap (·.toList) ++ cs.toList)) (hg : (w1.alloc o).grownBy w3 v.ownBlock) (hor : v.ownBlock = some g' ∨ g' = w1.heap.size + 1) (hlt : g' < w3.heap.size) :
    GQL d L w (w3.setCell ⟨w.heap.size + 1, 7, none⟩ (.slice (some ⟨g', 0, none⟩) (j + 1) cap')) (.slice (some ⟨g', 0, none⟩) (j + 1) cap') g' (j + 1) (xs ++ [cs]) l := by
  obtain ⟨hR, hT, hbw, hsz⟩ := h.kept hb hg
  have hz1 := hb.size
  have hsz0 := h.sz
  have hgl := h.lt
  have hown' : (w3.setCell ⟨w.heap.size + 1, 7, none⟩ (.slice (some ⟨g', 0, none⟩) (j + 1) cap')).ownsRow (w.heap.size + 2) 29 11 (.slice (some ⟨g', 0, none⟩) (j + 1) cap') (j + 1) ((xs ++ [cs]).flatMap (·.toList)) := by
    refine ⟨by have := ho.1; rw [List.flatMap_append]; simpa using this, .inr ?_⟩
    rcases ho.2 with ⟨e, _⟩ | ⟨g0, cap, cur, e, hb0, hc, h1, h2, h3, h4⟩
    · simp at e
    · refine ⟨g0, cap, cur, e, hb0, ?_, h1, h2, h3, by rw [h4, List.flatMap_append]; simp⟩
      rw [heap_setCell_other _ _ _ _ (by show g0 ≠ w.heap.size + 1; omega)]; exact hc
  have hblk : ∀ k, w.heap.size + 2 ≤ k → k < w1.heap.size → k ≠ g → (w3.setCell ⟨w.heap.size + 1, 7, none⟩ (.slice (some ⟨g', 0, none⟩) (j + 1) cap')).heap[k]? = w1.heap[k]? := fun k h1 h2 h3 => by
    rw [heap_setCell_other _ _ _ _ (by show k ≠ w.heap.size + 1; omega), hg.block k (by simp; omega) (fun e => by
      rcases h.blk with e' | e'
      · rw [e'] at e; simp at e
      · rw [e'] at e; simp only [Option.some.injEq] at e; exact h3 e), Below.heap_alloc _ _ _ h2]
  have hg' : ∀ k, k < w1.heap.size → k ≠ g → k ≠ g' := fun k h1 h2 e => by
    rcases hor with e' | e'
    · rcases h.blk with e2 | e2
      · rw [e2] at e'; simp at e'
      · rw [e2] at e'; simp only [Option.some.injEq] at e'; omega
    · omega
  have hszc : (w3.setCell ⟨w.heap.size + 1, 7, none⟩ (.slice (some ⟨g', 0, none⟩) (j + 1) cap')).heap.size = w3.heap.size := by simp
  refine ⟨hown', .inr rfl, ?_, by rw [hszc]; exact hlt, hbw.setCell (p := ⟨w.heap.size + 1, 7, none⟩) (Nat.le_succ _) _, ?_, heap_setCell_same w3 (w.heap.size + 1) 7 _ _ _ hT, by rw [hszc]; omega⟩
  · refine TPre.snoc _ _ (t.pl d) _ cs (TPre.same (S := Own (w.heap.size + 2) wr g) (fun k hk => ?_) (fun k hk => ⟨hk.1, by rw [hszc]; have := hk.2.1; omega, hg' k (by have := hk.2.1; omega) hk.2.2⟩) _ _ _ h.pre) ((t.pl d).In_same (B := Fr wr w1) (fun k hk => ?_) (fun k hk => ⟨by have := hk.1; omega, by rw [hszc]; have := hk.2; omega, hg' k hk.2 (by have := hk.1; omega)⟩) cs hx) hz
    · rw [hblk k hk.1 (by have := hk.2.1; omega) hk.2.2]; exact hb.block k hk.2.1
    · exact hblk k (by have := hk.1; omega) hk.2 (by have := hk.1; omega)
  · rw [heap_setCell_other _ _ _ _ (by show w.heap.size ≠ w.heap.size + 1; omega)]; exact hR

set_option maxRecDepth 100000 in
set_option maxHeartbeats 2000000 in
theorem gpl_8 (N : Nat) (HC : GPlC N) (a : Option Addr) (L : TmL) (cl : Nat) (w : World) (deep d : Int) (hdd : d = deep + 1) (hN : L.sz ≤ N) (B : Nat → Prop) (hB : Sub B w) (hL : L.V w B a 0) (hlen : L.len * 152 ≤ 140737488355328) (hbd : L.Sm) (h0 : 0 ≤ deep) (h1 : deep ≤ 400) :
    Calls Try.prog 52 #[.iface 71 (.slice a L.len cl), .int .i64 deep] w fun e w' => ∃ a' cap, e = .returned (.agg (tcells 8 false 0 0 ByteArray.empty (.slice none 0 0) 0 (.slice a' L.len cap) (.slice none 0 0) ByteArray.empty 0)) ∧ Below w.heap.size w w' ∧ (L.pl d).In w' (Fr w w') a' 0 := by
  subst hdd
  obtain ⟨i0, hi, hz0, hz1, hz2⟩ := info_parts Try.infoT
  have HCH : Hid (GPlC N) := HC
  clear HC
  have H0 : Hid (GQL (deep + 1) L w ((w.alloc (.cells #[.int .i64 0, .bool false, .int .i64 0, .float .f64 0, .string ByteArray.empty, .slice none 0 0, .int .u64 0, .slice none 0 0, .slice none 0 0, .string ByteArray.empty, .int .i64 0] 29)).alloc (.cells #[.int .i64 8, .bool false, .int .i64 0, .float .f64 0, .string ByteArray.empty, .slice none 0 0, .int .u64 0, .slice none 0 0, .slice none 0 0, .string ByteArray.empty, .int .i64 0] 29)) (.slice none 0 0) w.heap.size 0 [] L ∧ L.V w B a 0 ∧ L.Sm) := by
    have hb := boxes_at (w := w) (o := .cells #[.int .i64 0, .bool false, .int .i64 0, .float .f64 0, .string ByteArray.empty, .slice none 0 0, .int .u64 0, .slice none 0 0, .slice none 0 0, .string ByteArray.empty, .int .i64 0] 29) (p := .cells #[.int .i64 8, .bool false, .int .i64 0, .float .f64 0, .string ByteArray.empty, .slice none 0 0, .int .u64 0, .slice none 0 0, .slice none 0 0, .string ByteArray.empty, .int .i64 0] 29) (Below.refl _ _)
    exact ⟨⟨⟨rfl, .inl ⟨rfl, rfl⟩⟩, .inl rfl, (TPre_nil _ _).2 rfl, by simp; omega, hb.2.2.1, hb.1, hb.2.1, hb.2.2.2⟩, hL, hbd⟩
  have hwd : IntKind.i64.wrap (deep + 1) = deep + 1 := wrap_small (by omega) (by omega)
  clear hL hbd
  go_enter Try.func52, Try.ntmps52
  go_wp2_with fail
  go_loopw [14] (fun x wr => ∃ (j g : Nat) (v : Value) (l : TmL) (xs : List (Array Value)), x = .int .i64 j ∧ l.len + j = L.len ∧ l.sz ≤ N ∧ Hid (GQL (deep + 1) L w wr v g j xs l ∧ l.V w B a j ∧ l.Sm)) (fun x _ => L.len - (intOf x).toNat)
  case atStart => exact ⟨0, w.heap.size, .slice none 0 0, L, [], rfl, rfl, hN, H0.out⟩
  case round =>
    obtain ⟨j, g, v, l, xs, rfl, hl, hlN, HR⟩ := hrel
    clear H0
    cases l with
    | nil =>
      have h1 : L.len ≤ j := by simp [TmL.len] at hl; omega
      have hj : j = L.len := by simp [TmL.len] at hl; omega
      obtain ⟨r0, r1, r2, r3, r4, r5, r6, r7, r8, r9, r10⟩ := tbox HR.out.1.bR
      obtain ⟨t0, t1, t2, t3, t4, t5, t6, t7, t8, t9, t10⟩ := tbox HR.out.1.bT
      have hf := box_writes HR.out.1.bR
      have f0 := hf 0; have f1 := hf 1; have f2 := hf 2; have f3 := hf 3; have f4 := hf 4; have f5 := hf 5; have f6 := hf 6; have f7 := hf 7; have f8 := hf 8; have f9 := hf 9; have f10 := hf 10
      obtain ⟨a', cap, rfl, HF⟩ : ∃ a' cap, v = .slice a' L.len cap ∧ Hid ((L.pl (deep + 1)).In wr (fun k => w.heap.size + 2 ≤ k ∧ k < wr.heap.size) a' 0) := by
        rcases HR.out.1.own.2 with ⟨e, e0⟩ | ⟨g0, cap, cur, e, hb0, _⟩
        · refine ⟨none, 0, by rw [e, ← hj, e0], ?_⟩
          have : L = .nil := by cases L with
            | nil => rfl
            | cons t l => simp [TmL.len] at hj; omega
          subst this; exact trivial
        · refine ⟨some ⟨g0, 0, none⟩, cap, by rw [e, ← hj], ?_⟩
          have hown := HR.out.1.own
          subst e
          refine TPre.done (B := Own (w.heap.size + 2) wr g) (Same.refl _ wr) (fun k hk => ⟨hk.1, hk.2.1⟩) g0 ⟨hb0, hown.lt g0 rfl |>.2⟩ (L.pl (deep + 1)) xs 0 HR.out.1.pre (fun i x hx => ?_)
          have := hown.cells (g := g0) rfl i x hx
          rw [addr_add] at this; simpa using this
      have HE : Hid (Below w.heap.size w (setN wr w.heap.size 0 [.int .i64 8, .bool false, .int .i64 0, .float .f64 0, .string ByteArray.empty, .slice none 0 0, .int .u64 0, .slice a' L.len cap, .slice none 0 0, .string ByteArray.empty, .int .i64 0]) ∧ (L.pl (deep + 1)).In (setN wr w.heap.size 0 [.int .i64 8, .bool false, .int .i64 0, .float .f64 0, .string ByteArray.empty, .slice none 0 0, .int .u64 0, .slice a' L.len cap, .slice none 0 0, .string ByteArray.empty, .int .i64 0]) (Fr w (setN wr w.heap.size 0 [.int .i64 8, .bool false, .int .i64 0, .float .f64 0, .string ByteArray.empty, .slice none 0 0, .int .u64 0, .slice a' L.len cap, .slice none 0 0, .string ByteArray.empty, .int .i64 0])) a' 0) := by
        refine ⟨setN_below (Nat.le_refl _) _ _ _ _ HR.out.1.bel, (L.pl (deep + 1)).In_same (fun k hk => setN_other (by have := hk.1; omega) _ _ _) (fun k hk => ⟨by have := hk.1; omega, by rw [setN_size]; exact hk.2⟩) _ _ HF.out⟩
      clear hl hf hj
      go_wp2_with fail
      refine bodyPost_ret (v := .agg (tcells 8 false 0 0 ByteArray.empty (.slice none 0 0) 0 (.slice a' L.len cap) (.slice none 0 0) ByteArray.empty 0)) (by simp [results, Try.results52, go_sem, tcells, r0, r1, r2, r3, r4, r5, r6, r7, r8, r9, r10]) rfl ⟨_, _, rfl, HE.out.1, HE.out.2⟩
    | cons t l =>
      obtain ⟨hq, hsrc, hbdd⟩ := HR.out
      simp only [TmL.V] at hsrc
      obtain ⟨g1, o1, v1, rfl, hg1, hc, ht, hl'⟩ := hsrc
      have hk1 : j < L.len := by simp only [TmL.len] at hl; omega
      have HL : Hid (l.len + (j + 1) = L.len) := by show _ = _; simp only [TmL.len] at hl; omega
      have htN : t.sz ≤ N ∧ l.sz ≤ N := by simp [TmL.sz] at hlN; omega
      have hs : Same B w wr := hB.same hq.bel
      have HO := HCH.out.at (deep := deep + 1) htN.1 (t.V_same hs (fun _ h => h) v1 ht) (hB.later hq.bel) hbdd.1 (by omega) (by omega)
      have HO : Hid _ := HO
      have e0 : wr.cell? ⟨g1, o1 + j, none⟩ = some v1 := by rw [hs.cell (p := ⟨g1, o1 + j, none⟩) hg1]; exact hc
      have HN : Hid (l.V w B (some ⟨g1, o1, none⟩) (j + 1) ∧ l.Sm) := ⟨hl', hbdd.2⟩
      have c7 : wr.cell? ⟨w.heap.size + 1, 7, none⟩ = some v := (tbox hq.bT).2.2.2.2.2.2.2.1
      have HC7 : Hid (∀ W, Below wr.heap.size wr W → W.cell? ⟨w.heap.size + 1, 7, none⟩ = some v ∧ W.cell? ⟨g1, o1 + j, none⟩ = some v1) := fun W hW => ⟨by rw [hW.cell (p := ⟨w.heap.size + 1, 7, none⟩) (by have := hq.sz; show w.heap.size + 1 < _; omega)]; exact c7, by rw [hW.cell (p := ⟨g1, o1 + j, none⟩) (hB.later hq.bel _ hg1)]; exact e0⟩
      have hi0 : (0 : Int) ≤ (j : Int) := Int.natCast_nonneg _
      have hi1 : (j : Int) < (L.len : Int) := by omega
      have hszr := hq.sz
      unfold tcells at HO
      clear hl hlN hc ht hl' hs hq hbdd
      go_wp2_with fail
      go_region_law ((first
          | (go_simp; go_at_call 52; refine (HO.out _ ?_).mono ?_; exact (Below.refl _ _).drew; rintro e w1 ⟨k1, b1, i1, f1, tx1, ab1, nb1, cb1, rf1, al1, nl1, cl1, af1, nf1, cf1, cc1, vr1, rfl, hb1, hv1⟩; have HB1 : Hid (Below wr.heap.size wr w1) := (Below.refl _ _).drew.trans hb1; have HV1 : Hid _ := hv1; have hz1' := HB1.out.size; obtain ⟨c7', e0'⟩ := HC7.out w1 HB1.out; have c7a := fun o => (HC7.out (w1.alloc o) (HB1.out.alloc HB1.out.size o)).1; clear hb1 hv1; dsimp only)
          | (refine step_append_lies _ (by rfl) _ _ 26 (by rfl) (w.heap.size + 2) 29 i0 _ 11 152 Try.undT hi hz0 hz1 hz2 rfl (by omega) v j (xs.flatMap (·.toList)) (by rfl) ((owns_below HB1.out HR.out.1.own).alloc _) ⟨w1.heap.size, 0, none⟩ 1 1 (tcells k1 b1 i1 f1 tx1 (.slice ab1 nb1 cb1) rf1 (.slice al1 nl1 cl1) (.slice af1 nf1 cf1) cc1 vr1).toList (by rfl) (by rfl) (block_cells (heap_alloc_new w1 _)) (tcells_one k1 b1 i1 f1 tx1 ab1 nb1 cb1 rf1 al1 nl1 cl1 af1 nf1 cf1 cc1 vr1) (by omega) (by unfold maxLen; omega) (by omega) (by simp; omega) (w1.heap.size + 1) (by simp) ?_; intro g' cap' w3 hown' hgrow hor hlt3; obtain ⟨hR3, hT3, hb3, hs3⟩ := HR.out.1.kept HB1.out hgrow; have c73 := (tbox hT3).2.2.2.2.2.2.2.1; have f73 := box_writes hT3 7; have HST := HR.out.1.step HB1.out HV1.out rfl hown' hgrow hor hlt3; have HST : Hid _ := HST; clear hR3 hT3)))
      all_goals
        go_wp2_with fail
        go_roundw
        case rel => exact ⟨j + 1, g', _, l, _, by go_num, HL.out, htN.2, HST.out, HN.out.1, HN.out.2⟩
        case measure => simp [intOf]; omega
end Go.Proofs.Ytkomcebknllaiaa
