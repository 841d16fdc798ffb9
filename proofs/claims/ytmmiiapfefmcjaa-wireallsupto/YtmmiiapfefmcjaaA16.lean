/- tenonmake.plain and tenonmake.entries: the term of a value, made by appending. -/
import Derived.Test.YtmmiiapfefmcjaaA15
import Derived.Deep.RegionLaw
import Derived.Deep.AppendLies
import Derived.Test.YtmmiiapfefmcjaaA14
namespace Go.Proofs.Ytmmiiapfefmcjaa
open Go.RowKit

def Tm.OkAt (t : Tm) (n : Int) : Prop := ∃ p d, (t.wk n p d).e = 0
def TmL.OkAt (l : TmL) (n : Int) : Prop := ∃ p d, (l.wk n p d).e = 0
def TmF.OkAt (l : TmF) (n : Int) : Prop := ∃ p d, (l.wk n p d).e = 0
theorem Tm.OkAt.ok {t : Tm} {n : Int} (h : t.OkAt n) : t.Ok := by obtain ⟨p, d, h⟩ := h; exact ⟨n, p, d, h⟩
theorem TmL.OkAt.head {t : Tm} {l : TmL} {n : Int} (h : TmL.OkAt (.cons t l) n) : t.OkAt n ∧ l.OkAt n := by
  obtain ⟨p, d, h⟩ := h
  rw [TmL.wk] at h
  by_cases e : (t.wk n p d).e ≠ 0
  · rw [if_pos e] at h; exact absurd h e
  · rw [if_neg e] at h; exact ⟨⟨p, d, Decidable.not_not.1 e⟩, ⟨_, _, h⟩⟩
theorem TmF.OkAt.head {m : ByteArray} {t : Tm} {l : TmF} {n : Int} (h : TmF.OkAt (.cons m t l) n) : t.OkAt n ∧ l.OkAt n := by
  obtain ⟨p, d, h⟩ := h
  rw [TmF.wk] at h
  by_cases e : (t.wk n p d).e ≠ 0
  · rw [if_pos e] at h; exact absurd h e
  · rw [if_neg e] at h; exact ⟨⟨p, d, Decidable.not_not.1 e⟩, ⟨_, _, h⟩⟩
theorem Tm.OkAt.parts {k : Int} {b : Bool} {i : Int} {f : Nat} {tx : ByteArray} {by' : ByteArray} {rf : Int} {l : TmL} {fs : TmF} {c : ByteArray} {v n : Int} (h : Tm.OkAt (.mk k b i f tx by' rf l fs c v) n) :
    n ≤ 64 ∧ (k = 8 → l.OkAt (n + 1)) ∧ (k = 9 ∨ k = 10 → fs.OkAt (n + 1)) := by
  obtain ⟨p, d, h⟩ := h
  rw [Tm.wk] at h
  by_cases e : (Tm.mk k b i f tx by' rf l fs c v).own p n ≠ 0
  · rw [if_pos e] at h; exact absurd h e
  · rw [if_neg e] at h
    have hz := Sp.ent_zero (Tm.own_ent _ _ _ (Decidable.not_not.1 e))
    refine ⟨hz.2.2.2, fun h8 => ?_, fun h9 => ?_⟩
    · rw [if_pos h8] at h; exact ⟨_, _, h⟩
    · rw [if_neg (by omega), if_pos h9] at h; exact ⟨_, _, h⟩

def PlC (N : Nat) : Prop := ∀ (t : Tm), t.sz ≤ N → ∀ (v : Value) (B : Nat → Prop) (w : World) (deep n : Int), t.V w B v → Sub B w → t.OkAt n → t.Bdd → 0 ≤ deep → deep ≤ n →
  Calls Try.prog 65 #[v, .int .i64 deep] w fun e w' => ∃ cs, e = .returned (.agg cs) ∧ Below w.heap.size w w' ∧ t.clean.In w' (Fr w w') cs
theorem PlC.at {N : Nat} (HC : PlC N) {t : Tm} (hN : t.sz ≤ N) {v : Value} {B : Nat → Prop} {w : World} {deep n : Int} (h : t.V w B v) (hB : Sub B w) (ho : t.OkAt n) (hb : t.Bdd) (h0 : 0 ≤ deep) (h1 : deep ≤ n) :
    ∀ W, Below w.heap.size w W → Calls Try.prog 65 #[v, .int .i64 deep] W fun e w' => ∃ k b i f tx ab nb cb rf al nl cl af nf cf c vr, e = .returned (.agg (tcells k b i f tx (.slice ab nb cb) rf (.slice al nl cl) (.slice af nf cf) c vr)) ∧ Below W.heap.size W w' ∧ t.clean.In w' (Fr W w') (tcells k b i f tx (.slice ab nb cb) rf (.slice al nl cl) (.slice af nf cf) c vr) := by
  intro W hW
  refine (HC t hN v B W deep n (t.V_same (hB.same hW) (fun _ h => h) v h) (hB.later hW) ho hb h0 h1).mono ?_
  rintro e w' ⟨cs, rfl, hb, hv⟩
  obtain ⟨k1, b1, i1, f1, tx1, ab1, nb1, cb1, rf1, al1, nl1, cl1, af1, nf1, cf1, cc1, vr1, rfl⟩ := Tm.In_tc' hv
  exact ⟨k1, b1, i1, f1, tx1, ab1, nb1, cb1, rf1, al1, nl1, cl1, af1, nf1, cf1, cc1, vr1, rfl, hb, hv⟩
end Go.Proofs.Ytmmiiapfefmcjaa

/- tenonmake.plain at a list. -/
namespace Go.Proofs.Ytmmiiapfefmcjaa
open Go.RowKit

/-- what plain's loop carries: the terms behind v, the two boxes -/
structure QL (L : TmL) (w wr : World) (v : Value) (g j : Nat) (xs : List (Array Value)) (l : TmL) : Prop where
  own : wr.ownsRow (w.heap.size + 2) 29 11 v j (xs.flatMap (·.toList))
  blk : v.ownBlock = none ∨ v.ownBlock = some g
  pre : TPre wr (Own (w.heap.size + 2) wr g) L.clean xs l.clean
  lt : g < wr.heap.size
  bel : Below w.heap.size w wr
  bR : wr.heap[w.heap.size]? = some (.cells #[.int .i64 0, .bool false, .int .i64 0, .float .f64 0, .string ByteArray.empty, .slice none 0 0, .int .u64 0, .slice none 0 0, .slice none 0 0, .string ByteArray.empty, .int .i64 0] 29 (0, 0))
  bT : wr.heap[w.heap.size + 1]? = some (.cells #[.int .i64 8, .bool false, .int .i64 0, .float .f64 0, .string ByteArray.empty, .slice none 0 0, .int .u64 0, v, .slice none 0 0, .string ByteArray.empty, .int .i64 0] 29 (0, 0))
  sz : w.heap.size + 2 ≤ wr.heap.size

theorem QL.kept {L : TmL} {w wr : World} {v : Value} {g j : Nat} {xs : List (Array Value)} {l : TmL} (h : QL L w wr v g j xs l) {w1 w3 : World} {o : Obj} (hb : Below wr.heap.size wr w1) (hg : (w1.alloc o).grownBy w3 v.ownBlock) :
    w3.heap[w.heap.size]? = some (.cells #[.int .i64 0, .bool false, .int .i64 0, .float .f64 0, .string ByteArray.empty, .slice none 0 0, .int .u64 0, .slice none 0 0, .slice none 0 0, .string ByteArray.empty, .int .i64 0] 29 (0, 0)) ∧ w3.heap[w.heap.size + 1]? = some (.cells #[.int .i64 8, .bool false, .int .i64 0, .float .f64 0, .string ByteArray.empty, .slice none 0 0, .int .u64 0, v, .slice none 0 0, .string ByteArray.empty, .int .i64 0] 29 (0, 0)) ∧ Below w.heap.size w w3 ∧ w1.heap.size + 1 ≤ w3.heap.size := by
  have hz1 := hb.size
  have hz := h.sz
  have hz3 := hg.size
  simp at hz3
  have hne : ∀ k, k < w.heap.size + 2 → some k ≠ v.ownBlock := fun k hk e => by
    rcases h.own.2 with ⟨rfl, _⟩ | ⟨g0, cap, cur, rfl, hb0, _⟩
    · simp [Value.ownBlock] at e
    · simp only [Value.ownBlock, Option.some.injEq] at e; omega
  have hk : ∀ k, k < w.heap.size + 2 → w3.heap[k]? = wr.heap[k]? := fun k hk => by
    rw [hg.block k (by simp; omega) (hne k hk), Below.heap_alloc _ _ _ (by omega)]; exact hb.block k (by omega)
  refine ⟨by rw [hk _ (by omega)]; exact h.bR, by rw [hk _ (by omega)]; exact h.bT, ?_, by omega⟩
  have hb1 : Below w.heap.size w (w1.alloc o) := (h.bel.trans (hb.mono h.bel.size)).alloc (by omega) _
  exact hb1.grown hg (by simp; omega) (fun k e => by
    rcases h.own.2 with ⟨rfl, _⟩ | ⟨g0, cap, cur, rfl, hb0, _⟩
    · simp [Value.ownBlock] at e
    · simp only [Value.ownBlock, Option.some.injEq] at e; omega)

theorem QL.step {L : TmL} {w wr : World} {v : Value} {g j : Nat} {xs : List (Array Value)} {t : Tm} {l : TmL} (h : QL L w wr v g j xs (.cons t l)) {w1 w3 : World} {o : Obj} {cs : Array Value} {g' cap' : Nat} (hb : Below wr.heap.size wr w1) (hx : t.clean.In w1 (Fr wr w1) cs) (hz : cs.size = 11)
    (ho : w3.ownsRow (w.heap.size + 2) 29 11 (.slice (some ⟨g', 0, none⟩) (j + 1) cap') (j + 1) (xs.flatMap (·.toList) ++ cs.toList)) (hg : (w1.alloc o).grownBy w3 v.ownBlock) (hor : v.ownBlock = some g' ∨ g' = w1.heap.size + 1) (hlt : g' < w3.heap.size) :
    QL L w (w3.setCell ⟨w.heap.size + 1, 7, none⟩ (.slice (some ⟨g', 0, none⟩) (j + 1) cap')) (.slice (some ⟨g', 0, none⟩) (j + 1) cap') g' (j + 1) (xs ++ [cs]) l := by
  obtain ⟨hR, hT, hbw, hsz⟩ := h.kept hb hg
  have hz1 := hb.size
  have hsz0 := h.sz
  have hgl := h.lt
  have hown' : (w3.setCell ⟨w.heap.size + 1, 7, none⟩ (.slice (some ⟨g', 0, none⟩) (j + 1) cap')).ownsRow (w.heap.size + 2) 29 11 (.slice (some ⟨g', 0, none⟩) (j + 1) cap') (j + 1) ((xs ++ [cs]).flatMap (·.toList)) := by
    refine ⟨by have := ho.1; rw [List.flatMap_append]; simpa using this, .inr ?_⟩
    rcases ho.2 with ⟨e, _⟩ | ⟨g0, cap, cur, e, hb0, hc, h1, h2, h3, h4⟩
    · simp at e
    · refine ⟨g0, cap, cur, e, hb0, ?_, h1, h2, h3, by rw [h4, List.flatMap_append]; simp⟩
      rw [heap_setCell_other _ _ _ _ (by show g0 ≠ w.heap.size + 1; omega)]; exact hc
  have hblk : ∀ k, w.heap.size + 2 ≤ k → k < w1.heap.size → k ≠ g → (w3.setCell ⟨w.heap.size + 1, 7, none⟩ (.slice (some ⟨g', 0, none⟩) (j + 1) cap')).heap[k]? = w1.heap[k]? := fun k h1 h2 h3 => by
    rw [heap_setCell_other _ _ _ _ (by show k ≠ w.heap.size + 1; omega), hg.block k (by simp; omega) (fun e => by
      rcases h.blk with e' | e'
      · rw [e'] at e; simp at e
      · rw [e'] at e; simp only [Option.some.injEq] at e; exact h3 e), Below.heap_alloc _ _ _ h2]
  have hg' : ∀ k, k < w1.heap.size → k ≠ g → k ≠ g' := fun k h1 h2 e => by
    rcases hor with e' | e'
    · rcases h.blk with e2 | e2
      · rw [e2] at e'; simp at e'
      · rw [e2] at e'; simp only [Option.some.injEq] at e'; omega
    · omega
  have hszc : (w3.setCell ⟨w.heap.size + 1, 7, none⟩ (.slice (some ⟨g', 0, none⟩) (j + 1) cap')).heap.size = w3.heap.size := by simp
  refine ⟨hown', .inr rfl, ?_, by rw [hszc]; exact hlt, hbw.setCell (p := ⟨w.heap.size + 1, 7, none⟩) (Nat.le_succ _) _, ?_, heap_setCell_same w3 (w.heap.size + 1) 7 _ _ _ hT, by rw [hszc]; omega⟩
  · refine TPre.snoc _ _ t.clean _ cs (TPre.same (S := Own (w.heap.size + 2) wr g) (fun k hk => ?_) (fun k hk => ⟨hk.1, by rw [hszc]; have := hk.2.1; omega, hg' k (by have := hk.2.1; omega) hk.2.2⟩) _ _ _ h.pre) (t.clean.In_same (B := Fr wr w1) (fun k hk => ?_) (fun k hk => ⟨by have := hk.1; omega, by rw [hszc]; have := hk.2; omega, hg' k hk.2 (by have := hk.1; omega)⟩) cs hx) hz
    · rw [hblk k hk.1 (by have := hk.2.1; omega) hk.2.2]; exact hb.block k hk.2.1
    · exact hblk k (by have := hk.1; omega) hk.2 (by have := hk.1; omega)
  · rw [heap_setCell_other _ _ _ _ (by show w.heap.size ≠ w.heap.size + 1; omega)]; exact hR

set_option maxRecDepth 100000 in
set_option maxHeartbeats 2000000 in
theorem pl_8 (N : Nat) (HC : PlC N) (a : Option Addr) (L : TmL) (cl : Nat) (w : World) (deep n : Int) (hN : L.sz ≤ N) (B : Nat → Prop) (hB : Sub B w) (hL : L.V w B a 0) (hlen : L.len ≤ 4096) (ho : L.OkAt (n + 1)) (hbd : L.Bdd) (h0 : 0 ≤ deep) (h1 : deep ≤ n) (hn : n ≤ 64) :
    Calls Try.prog 65 #[.iface 70 (.slice a L.len cl), .int .i64 deep] w fun e w' => ∃ a' cap, e = .returned (.agg (tcells 8 false 0 0 ByteArray.empty (.slice none 0 0) 0 (.slice a' L.len cap) (.slice none 0 0) ByteArray.empty 0)) ∧ Below w.heap.size w w' ∧ L.clean.In w' (Fr w w') a' 0 := by
  obtain ⟨i0, hi, hz0, hz1, hz2⟩ := info_parts Try.infoT
  have HCH : Hid (PlC N) := HC
  clear HC
  have H0 : Hid (QL L w ((w.alloc (.cells #[.int .i64 0, .bool false, .int .i64 0, .float .f64 0, .string ByteArray.empty, .slice none 0 0, .int .u64 0, .slice none 0 0, .slice none 0 0, .string ByteArray.empty, .int .i64 0] 29)).alloc (.cells #[.int .i64 8, .bool false, .int .i64 0, .float .f64 0, .string ByteArray.empty, .slice none 0 0, .int .u64 0, .slice none 0 0, .slice none 0 0, .string ByteArray.empty, .int .i64 0] 29)) (.slice none 0 0) w.heap.size 0 [] L ∧ L.V w B a 0 ∧ L.OkAt (n + 1) ∧ L.Bdd) := by
    have hb := boxes_at (w := w) (o := .cells #[.int .i64 0, .bool false, .int .i64 0, .float .f64 0, .string ByteArray.empty, .slice none 0 0, .int .u64 0, .slice none 0 0, .slice none 0 0, .string ByteArray.empty, .int .i64 0] 29) (p := .cells #[.int .i64 8, .bool false, .int .i64 0, .float .f64 0, .string ByteArray.empty, .slice none 0 0, .int .u64 0, .slice none 0 0, .slice none 0 0, .string ByteArray.empty, .int .i64 0] 29) (Below.refl _ _)
    exact ⟨⟨⟨rfl, .inl ⟨rfl, rfl⟩⟩, .inl rfl, (TPre_nil _ _).2 rfl, by simp; omega, hb.2.2.1, hb.1, hb.2.1, hb.2.2.2⟩, hL, ho, hbd⟩
  have hwd : IntKind.i64.wrap (deep + 1) = deep + 1 := wrap_small (by omega) (by omega)
  clear hL ho hbd
  go_enter Try.func65, Try.ntmps65
  go_wp2_with fail
  go_loopw [14] (fun x wr => ∃ (j g : Nat) (v : Value) (l : TmL) (xs : List (Array Value)), x = .int .i64 j ∧ l.len + j = L.len ∧ l.sz ≤ N ∧ Hid (QL L w wr v g j xs l ∧ l.V w B a j ∧ l.OkAt (n + 1) ∧ l.Bdd)) (fun x _ => L.len - (intOf x).toNat)
  case atStart => exact ⟨0, w.heap.size, .slice none 0 0, L, [], rfl, rfl, hN, H0.out⟩
  case round =>
    obtain ⟨j, g, v, l, xs, rfl, hl, hlN, HR⟩ := hrel
    clear H0
    cases l with
    | nil =>
      have h1 : L.len ≤ j := by simp [TmL.len] at hl; omega
      have hj : j = L.len := by simp [TmL.len] at hl; omega
      obtain ⟨r0, r1, r2, r3, r4, r5, r6, r7, r8, r9, r10⟩ := tbox HR.out.1.bR
      obtain ⟨t0, t1, t2, t3, t4, t5, t6, t7, t8, t9, t10⟩ := tbox HR.out.1.bT
      have hf := box_writes HR.out.1.bR
      have f0 := hf 0; have f1 := hf 1; have f2 := hf 2; have f3 := hf 3; have f4 := hf 4; have f5 := hf 5; have f6 := hf 6; have f7 := hf 7; have f8 := hf 8; have f9 := hf 9; have f10 := hf 10
      obtain ⟨a', cap, rfl, HF⟩ : ∃ a' cap, v = .slice a' L.len cap ∧ Hid (L.clean.In wr (fun k => w.heap.size + 2 ≤ k ∧ k < wr.heap.size) a' 0) := by
        rcases HR.out.1.own.2 with ⟨e, e0⟩ | ⟨g0, cap, cur, e, hb0, _⟩
        · refine ⟨none, 0, by rw [e, ← hj, e0], ?_⟩
          have : L = .nil := by cases L with
            | nil => rfl
            | cons t l => simp [TmL.len] at hj; omega
          subst this; exact trivial
        · refine ⟨some ⟨g0, 0, none⟩, cap, by rw [e, ← hj], ?_⟩
          have hown := HR.out.1.own
          subst e
          refine TPre.done (B := Own (w.heap.size + 2) wr g) (Same.refl _ wr) (fun k hk => ⟨hk.1, hk.2.1⟩) g0 ⟨hb0, hown.lt g0 rfl |>.2⟩ L.clean xs 0 HR.out.1.pre (fun i x hx => ?_)
          have := hown.cells (g := g0) rfl i x hx
          rw [addr_add] at this; simpa using this
      have HE : Hid (Below w.heap.size w (setN wr w.heap.size 0 [.int .i64 8, .bool false, .int .i64 0, .float .f64 0, .string ByteArray.empty, .slice none 0 0, .int .u64 0, .slice a' L.len cap, .slice none 0 0, .string ByteArray.empty, .int .i64 0]) ∧ L.clean.In (setN wr w.heap.size 0 [.int .i64 8, .bool false, .int .i64 0, .float .f64 0, .string ByteArray.empty, .slice none 0 0, .int .u64 0, .slice a' L.len cap, .slice none 0 0, .string ByteArray.empty, .int .i64 0]) (Fr w (setN wr w.heap.size 0 [.int .i64 8, .bool false, .int .i64 0, .float .f64 0, .string ByteArray.empty, .slice none 0 0, .int .u64 0, .slice a' L.len cap, .slice none 0 0, .string ByteArray.empty, .int .i64 0])) a' 0) := by
        refine ⟨setN_below (Nat.le_refl _) _ _ _ _ HR.out.1.bel, L.clean.In_same (fun k hk => setN_other (by have := hk.1; omega) _ _ _) (fun k hk => ⟨by have := hk.1; omega, by rw [setN_size]; exact hk.2⟩) _ _ HF.out⟩
      clear hl hf hj
      go_wp2_with fail
      refine bodyPost_ret (v := .agg (tcells 8 false 0 0 ByteArray.empty (.slice none 0 0) 0 (.slice a' L.len cap) (.slice none 0 0) ByteArray.empty 0)) (by simp [results, Try.results65, go_sem, tcells, r0, r1, r2, r3, r4, r5, r6, r7, r8, r9, r10]) rfl ⟨_, _, rfl, HE.out.1, HE.out.2⟩
    | cons t l =>
      obtain ⟨hq, hsrc, hok, hbdd⟩ := HR.out
      simp only [TmL.V] at hsrc
      obtain ⟨g1, o1, v1, rfl, hg1, hc, ht, hl'⟩ := hsrc
      have hk1 : j < L.len := by simp only [TmL.len] at hl; omega
      have HL : Hid (l.len + (j + 1) = L.len) := by show _ = _; simp only [TmL.len] at hl; omega
      have htN : t.sz ≤ N ∧ l.sz ≤ N := by simp [TmL.sz] at hlN; omega
      have hs : Same B w wr := hB.same hq.bel
      have HO := HCH.out.at (deep := deep + 1) (n := n + 1) htN.1 (t.V_same hs (fun _ h => h) v1 ht) (hB.later hq.bel) hok.head.1 hbdd.1 (by omega) (by omega)
      have HO : Hid _ := HO
      have e0 : wr.cell? ⟨g1, o1 + j, none⟩ = some v1 := by rw [hs.cell (p := ⟨g1, o1 + j, none⟩) hg1]; exact hc
      have HN : Hid (l.V w B (some ⟨g1, o1, none⟩) (j + 1) ∧ l.OkAt (n + 1) ∧ l.Bdd) := ⟨hl', hok.head.2, hbdd.2⟩
      have c7 : wr.cell? ⟨w.heap.size + 1, 7, none⟩ = some v := (tbox hq.bT).2.2.2.2.2.2.2.1
      have HC7 : Hid (∀ W, Below wr.heap.size wr W → W.cell? ⟨w.heap.size + 1, 7, none⟩ = some v ∧ W.cell? ⟨g1, o1 + j, none⟩ = some v1) := fun W hW => ⟨by rw [hW.cell (p := ⟨w.heap.size + 1, 7, none⟩) (by have := hq.sz; show w.heap.size + 1 < _; omega)]; exact c7, by rw [hW.cell (p := ⟨g1, o1 + j, none⟩) (hB.later hq.bel _ hg1)]; exact e0⟩
      have hi0 : (0 : Int) ≤ (j : Int) := Int.natCast_nonneg _
      have hi1 : (j : Int) < (L.len : Int) := by omega
      have hszr := hq.sz
      unfold tcells at HO
      clear hl hlN hc ht hl' hok hs hq hbdd
      go_wp2_with fail
      go_region_law ((first
          | (go_simp; go_at_call 65; refine (HO.out _ ?_).mono ?_; exact (Below.refl _ _).drew; rintro e w1 ⟨k1, b1, i1, f1, tx1, ab1, nb1, cb1, rf1, al1, nl1, cl1, af1, nf1, cf1, cc1, vr1, rfl, hb1, hv1⟩; have HB1 : Hid (Below wr.heap.size wr w1) := (Below.refl _ _).drew.trans hb1; have HV1 : Hid _ := hv1; have hz1' := HB1.out.size; obtain ⟨c7', e0'⟩ := HC7.out w1 HB1.out; have c7a := fun o => (HC7.out (w1.alloc o) (HB1.out.alloc HB1.out.size o)).1; clear hb1 hv1; dsimp only)
          | (refine step_append_lies _ (by rfl) _ _ 26 (by rfl) (w.heap.size + 2) 29 i0 _ 11 152 Try.undT hi hz0 hz1 hz2 rfl (by omega) v j (xs.flatMap (·.toList)) (by rfl) ((owns_below HB1.out HR.out.1.own).alloc _) ⟨w1.heap.size, 0, none⟩ 1 1 (tcells k1 b1 i1 f1 tx1 (.slice ab1 nb1 cb1) rf1 (.slice al1 nl1 cl1) (.slice af1 nf1 cf1) cc1 vr1).toList (by rfl) (by rfl) (block_cells (heap_alloc_new w1 _)) (tcells_one k1 b1 i1 f1 tx1 ab1 nb1 cb1 rf1 al1 nl1 cl1 af1 nf1 cf1 cc1 vr1) (by omega) (by unfold maxLen; omega) (by omega) (by simp; omega) (w1.heap.size + 1) (by simp) ?_; intro g' cap' w3 hown' hgrow hor hlt3; obtain ⟨hR3, hT3, hb3, hs3⟩ := HR.out.1.kept HB1.out hgrow; have c73 := (tbox hT3).2.2.2.2.2.2.2.1; have f73 := box_writes hT3 7; have HST := HR.out.1.step HB1.out HV1.out rfl hown' hgrow hor hlt3; have HST : Hid _ := HST; clear hR3 hT3)))
      all_goals
        go_wp2_with fail
        go_roundw
        case rel => exact ⟨j + 1, g', _, l, _, by go_num, HL.out, htN.2, HST.out, HN.out.1, HN.out.2.1, HN.out.2.2⟩
        case measure => simp [intOf]; omega
end Go.Proofs.Ytmmiiapfefmcjaa

/- The document's reading of a value's body: a list. -/
namespace Go.Proofs.Ytmmiiapfefmcjaa
open Go.RowKit

/-- what a reading of one value tells -/
def TR (step : Nat → Nat → Rs (Tm × Nat)) (len at0 p0 : Nat) (W w' : World) (a2 p2 q : Nat) (er : Int) (cs : Array Value) : Prop :=
  (∃ t, step at0 p0 = .ok (t, p2) a2 ∧ q = 0 ∧ er = 0 ∧ a2 ≤ len ∧ t.In w' (Fr W w') cs) ∨ (er ≠ 0 ∧ step at0 p0 = .bad q er)
/-- what the loop over a list's parts carries: the four boxes, and the row of the terms -/
structure QB (w wr : World) (X : Array Value) (v : Value) (g j : Nat) (cs : List Value) : Prop where
  bx : R4 w wr X #[.int .i64 8, .bool false, .int .i64 0, .float .f64 0, .string ⟨#[]⟩, .slice none 0 0, .int .u64 0, v, .slice none 0 0, .string ⟨#[]⟩, .int .i64 0] #[.slice none 0 0, .int .i64 0, .int .i64 0, .int .i64 0, .int .i64 0] #[.int .i64 0, .bool false, .int .i64 0, .float .f64 0, .string ⟨#[]⟩, .slice none 0 0, .int .u64 0, .slice none 0 0, .slice none 0 0, .string ⟨#[]⟩, .int .i64 0]
  own : wr.ownsRow (w.heap.size + 4) 29 11 v j cs
  blk : v.ownBlock = none ∨ v.ownBlock = some g
  lt : g < wr.heap.size
/-- what has been read of a list -/
def LI (step : Nat → Nat → Rs (Tm × Nat)) (n a1 p len j aj pj qj : Nat) (erj : Int) (wr : World) (S : Nat → Prop) (ys : List (Array Value)) : Prop :=
  (erj = 0 ∧ qj = 0 ∧ aj ≤ len ∧ (∀ L p2 a2, Sp.rdL step n a1 p = .ok (L, p2) a2 → ∃ l, Sp.rdL step (n - j) aj pj = .ok (l, p2) a2 ∧ TPre wr S L ys l) ∧ (∀ q er, Sp.rdL step n a1 p = .bad q er → Sp.rdL step (n - j) aj pj = .bad q er)) ∨ (erj ≠ 0 ∧ Sp.rdL step n a1 p = .bad qj erj)
theorem owns_far {w w' : World} {base : Nat} {e : TypeId} {size : Nat} {v : Value} {n : Nat} {xs : List Value} (h : w.ownsRow base e size v n xs) (hk : ∀ g, v.ownBlock = some g → w'.heap[g]? = w.heap[g]?) : w'.ownsRow base e size v n xs := by
  refine ⟨h.1, ?_⟩
  rcases h.2 with hh | ⟨g, cap, cur, rfl, hb, hc, h3⟩
  · exact .inl hh
  · exact .inr ⟨g, cap, cur, rfl, hb, by rw [hk g rfl]; exact hc, h3⟩
theorem owns_at {w : World} {base : Nat} {e : TypeId} {size : Nat} {v : Value} {n : Nat} {xs : List Value} (h : w.ownsRow base e size v n xs) (g : Nat) (hg : v.ownBlock = some g) : base ≤ g ∧ g < w.heap.size := h.lt g hg
theorem R4.far {w wr wu : World} {X T Y Z : Array Value} (h : R4 w wr X T Y Z) (hb : Below w.heap.size w wu) (hk : ∀ k, w.heap.size ≤ k → k < w.heap.size + 4 → wu.heap[k]? = wr.heap[k]?) : R4 w wu X T Y Z :=
  ⟨hb, by rw [hk _ (by omega) (by omega)]; exact h.box, by rw [hk _ (by omega) (by omega)]; exact h.tbx, by rw [hk _ (by omega) (by omega)]; exact h.res, by rw [hk _ (by omega) (by omega)]; exact h.ter⟩
theorem R4.size {w wr : World} {X T Y Z : Array Value} (h : R4 w wr X T Y Z) : w.heap.size + 4 ≤ wr.heap.size := by have := lt_row h.ter; omega
theorem QB.val {w wr : World} {X : Array Value} {v : Value} {g j : Nat} {cs : List Value} (h : QB w wr X v g j cs) : ∃ al cl, v = .slice al j cl := by
  rcases h.own.2 with ⟨e, e0⟩ | ⟨g0, cap, cur, e, _⟩
  · exact ⟨none, 0, by rw [e, e0]⟩
  · exact ⟨_, _, e⟩
theorem QB.drew {w wr : World} {X : Array Value} {v : Value} {g j : Nat} {cs : List Value} (h : QB w wr X v g j cs) : QB w wr.drew X v g j cs := ⟨h.bx.drew, h.own, h.blk, h.lt⟩
/-- a part was read: the reading's box and the part's own were written -/
theorem QB.mid {w wr w1 E U : World} {x0 x1 x2 x3 x4 v : Value} {g j : Nat} {cs : List Value} (h : QB w wr #[x0, x1, x2, x3, x4] v g j cs) (o : Obj) (hb : Below (wr.alloc o).heap.size (wr.alloc o) w1) (a b c d e : Value) (hE : E = setN w1 w.heap.size 0 [a, b, c, d, e]) (ps : List Value) (hU : U = setN E wr.heap.size 0 ps) :
    QB w U #[a, b, c, d, e] v g j cs ∧ U.heap.size = w1.heap.size ∧ (∀ k, k ≠ w.heap.size → k ≠ wr.heap.size → U.heap[k]? = w1.heap[k]?) ∧ wr.heap.size < U.heap.size ∧ Below wr.heap.size wr w1 := by
  have hz0 := h.bx.size
  have hz1 := hb.size
  simp at hz1
  have hB : Below wr.heap.size wr w1 := ((Below.refl _ _).alloc (Nat.le_refl _) o).trans (hb.mono (by simp))
  have h1 := (h.bx.call hB).put a b c d e
  rw [← hE] at h1
  have hoth : ∀ k, k ≠ w.heap.size → k ≠ wr.heap.size → U.heap[k]? = w1.heap[k]? := fun k h1 h2 => by rw [hU, setN_other h2, hE, setN_other h1]
  have hsz : U.heap.size = w1.heap.size := by rw [hU, setN_size, hE, setN_size]
  refine ⟨⟨?_, ?_, h.blk, by rw [hsz]; have := h.lt; omega⟩, hsz, hoth, by rw [hsz]; omega, hB⟩
  · refine h1.far (by rw [hU]; exact setN_below (by omega) _ _ _ _ h1.bel) (fun k _ hk => by rw [hU, setN_other (by omega)])
  · refine owns_far h.own (fun g0 hg0 => ?_)
    have := owns_at h.own g0 hg0
    rw [hoth g0 (by omega) (by omega)]; exact hB.block g0 this.2
/-- a part was put behind the others -/
theorem QB.app {w U w3 : World} {X : Array Value} {v : Value} {g j : Nat} {cs : List Value} (h : QB w U X v g j cs) {o : Obj} {c1 : List Value} {g' cap' : Nat} (ho : w3.ownsRow (w.heap.size + 4) 29 11 (.slice (some ⟨g', 0, none⟩) (j + 1) cap') (j + 1) (cs ++ c1)) (hg : (U.alloc o).grownBy w3 v.ownBlock) (hor : v.ownBlock = some g' ∨ g' = U.heap.size + 1) (hlt : g' < w3.heap.size) :
    (QB w (w3.setCell ⟨w.heap.size + 1, 7, none⟩ (.slice (some ⟨g', 0, none⟩) (j + 1) cap')) X (.slice (some ⟨g', 0, none⟩) (j + 1) cap') g' (j + 1) (cs ++ c1)) ∧ (∀ k, w.heap.size + 4 ≤ k → k < U.heap.size → k ≠ g → (w3.setCell ⟨w.heap.size + 1, 7, none⟩ (.slice (some ⟨g', 0, none⟩) (j + 1) cap')).heap[k]? = U.heap[k]? ∧ k ≠ g') ∧ U.heap.size ≤ (w3.setCell ⟨w.heap.size + 1, 7, none⟩ (.slice (some ⟨g', 0, none⟩) (j + 1) cap')).heap.size ∧ (w3.cell? ⟨w.heap.size + 1, 7, none⟩ = some v ∧ w3.frozen? ⟨w.heap.size + 1, 7, none⟩ = false) := by
  have hz0 := h.bx.size
  have hz3 := hg.size
  simp at hz3
  have hgl := h.lt
  have hne : ∀ k, k < w.heap.size + 4 → some k ≠ v.ownBlock := fun k hk e => by have := (owns_at h.own k e.symm).1; omega
  have hk : ∀ k, k < U.heap.size → some k ≠ v.ownBlock → w3.heap[k]? = U.heap[k]? := fun k hk hn => by rw [hg.block k (by simp; omega) hn, Below.heap_alloc _ _ _ hk]
  have hB : Below w.heap.size w w3 := ((h.bx.bel).alloc (by omega) o).grown hg (by simp; omega) (fun k e => by have := (owns_at h.own k e).1; omega)
  have h4 : R4 w w3 X #[.int .i64 8, .bool false, .int .i64 0, .float .f64 0, .string ⟨#[]⟩, .slice none 0 0, .int .u64 0, v, .slice none 0 0, .string ⟨#[]⟩, .int .i64 0] #[.slice none 0 0, .int .i64 0, .int .i64 0, .int .i64 0, .int .i64 0] #[.int .i64 0, .bool false, .int .i64 0, .float .f64 0, .string ⟨#[]⟩, .slice none 0 0, .int .u64 0, .slice none 0 0, .slice none 0 0, .string ⟨#[]⟩, .int .i64 0] := h.bx.far hB (fun k _ hk4 => hk k (by omega) (hne k hk4))
  have h5 := h4.set 7 (.slice (some ⟨g', 0, none⟩) (j + 1) cap')
  have hszc : (w3.setCell ⟨w.heap.size + 1, 7, none⟩ (.slice (some ⟨g', 0, none⟩) (j + 1) cap')).heap.size = w3.heap.size := by simp
  have hge := (ho.lt g' rfl).1
  refine ⟨⟨h5, owns_far ho (fun g0 hg0 => ?_), .inr rfl, by rw [hszc]; exact hlt⟩, fun k h1 h2 h3 => ⟨?_, ?_⟩, by rw [hszc]; omega, ?_, ?_⟩
  · simp only [Value.ownBlock, Option.some.injEq] at hg0
    rw [heap_setCell_other _ _ _ _ (by show g0 ≠ w.heap.size + 1; omega)]
  · rw [heap_setCell_other _ _ _ _ (by show k ≠ w.heap.size + 1; omega)]
    exact hk k h2 (fun e => by rcases h.blk with e' | e' <;> rw [e'] at e <;> simp at e; exact h3 e)
  · rintro rfl
    rcases hor with e | e
    · rcases h.blk with e' | e' <;> rw [e'] at e <;> simp at e
      exact h3 e.symm
    · omega
  · rw [cell_of_row _ _ 7 _ _ _ h4.tbx]; rfl
  · exact frozen_of_row _ _ 7 _ _ h4.tbx
/-- one more part was read -/
theorem LI.next {step : Nat → Nat → Rs (Tm × Nat)} {n a1 p len j aj pj qj : Nat} {erj : Int} {wr W w1 w' : World} {S S' : Nat → Prop} {ys : List (Array Value)} {a2 p2 q : Nat} {er : Int} {cs : Array Value} (h : LI step n a1 p len j aj pj qj erj wr S ys) (he : erj = 0) (hj : j < n) (hT : TR step len aj pj W w1 a2 p2 q er cs)
    (hP : ∀ L l t, TPre wr S L ys (.cons t l) → t.In w1 (Fr W w1) cs → TPre w' S' L (ys ++ [cs]) l) : LI step n a1 p len (j + 1) a2 p2 q er w' S' (ys ++ [cs]) := by
  rcases h with ⟨_, _, _, h4, h5⟩ | ⟨h, _⟩
  · have hm : n - j = (n - (j + 1)) + 1 := by omega
    rcases hT with ⟨t, ht, hq, her, hle, hin⟩ | ⟨her, ht⟩
    · refine .inl ⟨her, hq, hle, fun L p3 a3 hr => ?_, fun q3 e3 hr => ?_⟩
      · obtain ⟨l, hl, hp⟩ := h4 L p3 a3 hr
        rw [hm, Sp.rdL, ht] at hl
        dsimp only at hl
        split at hl
        · cases hl
        · rename_i l2 p4 a4 heq
          injection hl with e1 e2
          injection e1 with e1 e3
          subst e1 e2 e3
          exact ⟨l2, heq, hP L l2 t hp hin⟩
      · have hl := h5 q3 e3 hr
        rw [hm, Sp.rdL, ht] at hl
        dsimp only at hl
        split at hl
        · rename_i q4 e4 heq
          injection hl with e1 e2
          subst e1 e2
          exact heq
        · cases hl
    · refine .inr ⟨her, ?_⟩
      have hb : Sp.rdL step (n - j) aj pj = .bad q er := by rw [hm, Sp.rdL, ht]
      cases hr : Sp.rdL step n a1 p with
      | ok x a3 =>
        obtain ⟨L, p3⟩ := x
        obtain ⟨l, hl, _⟩ := h4 L p3 a3 hr
        rw [hb] at hl; cases hl
      | bad q3 e3 => rw [← h5 q3 e3 hr, hb]
  · exact absurd he h
/-- what a reading of a list tells -/
def LR (step : Nat → Nat → Rs (Tm × Nat)) (n a1 p len : Nat) (w w' : World) (a2 p2 q : Nat) (er : Int) (al : Option Addr) (nl : Nat) : Prop :=
  (∃ L, Sp.rdL step n a1 p = .ok (L, p2) a2 ∧ q = 0 ∧ er = 0 ∧ a2 ≤ len ∧ nl = L.len ∧ L.In w' (Fr w w') al 0) ∨ (er ≠ 0 ∧ Sp.rdL step n a1 p = .bad q er)
theorem TPre.cells {w : World} {S : Nat → Prop} : (L : TmL) → ∀ (ys : List (Array Value)) (l : TmL), TPre w S L ys l → (ys.flatMap (·.toList)).length = ys.length * 11
  | L, [], l, h => by simp
  | .nil, _ :: _, _, h => by simp [TPre] at h
  | .cons t L, y :: ys, l, h => by
    simp only [TPre] at h
    have := TPre.cells L ys l h.2.2
    simp only [List.flatMap_cons, List.length_append, this, List.length_cons, Array.length_toList, h.2.1]; omega
theorem TPre.len {w : World} {S : Nat → Prop} : (L : TmL) → ∀ (ys : List (Array Value)) (l : TmL), TPre w S L ys l → L.len = ys.length + l.len
  | L, [], l, h => by have := (TPre_nil _ _).1 h; subst this; simp
  | .nil, _ :: _, _, h => by simp [TPre] at h
  | .cons t L, y :: ys, l, h => by
    simp only [TPre] at h
    simp only [TmL.len, TPre.len L ys l h.2.2, List.length_cons]; omega
theorem LI.fin {step : Nat → Nat → Rs (Tm × Nat)} {n a1 p len j aj pj qj : Nat} {erj : Int} {w wr wu : World} {ys : List (Array Value)} {X : Array Value} {al : Option Addr} {cl g : Nat} (hq : QB w wr X (.slice al j cl) g j (ys.flatMap (·.toList))) (h : LI step n a1 p len j aj pj qj erj wr (Own (w.heap.size + 4) wr g) ys) (hend : erj ≠ 0 ∨ j = n) (hs : Same (fun k => w.heap.size + 4 ≤ k ∧ k < wr.heap.size) wr wu) (hz : wr.heap.size ≤ wu.heap.size) :
    LR step n a1 p len w wu aj pj qj erj al j := by
  rcases h with ⟨h1, h2, h3, h4, h5⟩ | h
  · have hjn : j = n := by rcases hend with e | e; exact absurd h1 e; exact e
    subst hjn
    have hz0 : j - j = 0 := by omega
    rw [hz0] at h4 h5
    cases hr : Sp.rdL step j a1 p with
    | bad q3 e3 => have := h5 q3 e3 hr; rw [Sp.rdL] at this; cases this
    | ok x a3 =>
      obtain ⟨L, p3⟩ := x
      obtain ⟨l, hl, hp⟩ := h4 L p3 a3 hr
      rw [Sp.rdL] at hl
      injection hl with e1 e2
      injection e1 with e1 e3
      subst e1 e2 e3
      have hlen : j = L.len := by
        have h6 := hq.own.1
        have h7 := TPre.len L ys .nil hp
        have h8 := TPre.cells L ys .nil hp
        simp only [TmL.len, Nat.add_zero] at h7
        rw [h8, h7.symm] at h6
        omega
      refine .inl ⟨L, hr ▸ rfl, h2, h1, h3, hlen, ?_⟩
      rcases hq.own.2 with ⟨e, e0⟩ | ⟨g0, cap, cur, e, hb0, _⟩
      · have : L = .nil := by cases L with
          | nil => rfl
          | cons t l => simp [TmL.len] at hlen; omega
        subst this; exact trivial
      · injection e with e1 e2 e3
        subst e1
        have hown := hq.own
        refine TPre.done (B := Own (w.heap.size + 4) wr g) (fun k hk => hs k ⟨hk.1, hk.2.1⟩) (fun k hk => ⟨by have := hk.1; omega, by have := hk.2.1; omega⟩) g0 ⟨by omega, by have := (hown.lt g0 rfl).2; omega⟩ L ys 0 hp (fun i x hx => ?_)
        have h9 := hown.cells (g := g0) rfl i x hx
        rw [addr_add] at h9
        have h10 := World.cell?_of_block (w := wr) (w' := wu) (a := ⟨g0, i, none⟩) (hs g0 ⟨hb0, (hown.lt g0 rfl).2⟩)
        simp only [Nat.zero_mul, Nat.zero_add] at h9 ⊢
        rw [h10]; exact h9
  · exact .inr h
end Go.Proofs.Ytmmiiapfefmcjaa

