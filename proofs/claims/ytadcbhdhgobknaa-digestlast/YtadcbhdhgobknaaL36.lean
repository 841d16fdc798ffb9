/- tenonmake.plain at bytes, and whole; tenonmake.Is. -/
import Derived.Test.YtadcbhdhgobknaaL35
import Derived.Test.YtadcbhdhgobknaaL23
import Derived.Test.YtadcbhdhgobknaaL13
import Derived.Test.YtadcbhdhgobknaaL32
import Derived.Test.YtadcbhdhgobknaaL27
import Derived.Test.YtadcbhdhgobknaaL30
namespace Go.Proofs.Ytadcbhdhgobknaa
open Go.RowKit

set_option maxRecDepth 100000 in
set_option maxHeartbeats 1000000 in
theorem pl_6 (ab : Option Addr) (L : ByteArray) (cb : Nat) (B : Nat → Prop) (w : World) (deep : Int) (hd : deep ≤ 400) (hB : Sub B w) (hl : BytesAt w B ab L) (hlen : L.size ≤ 140737488355328) :
    Calls Try.prog 73 #[.iface 23 (.slice ab L.size cb), .int .i64 deep] w fun e w' => ∃ a cap, e = .returned (.agg (tcells 6 false 0 0 ByteArray.empty (.slice a L.size cap) 0 (.slice none 0 0) (.slice none 0 0) ByteArray.empty 0)) ∧ Below w.heap.size w w' ∧ BytesAt w' (Fr w w') a L := by
  have hd' : decide (400 < deep) = false := by simp; omega
  obtain ⟨i0, hi, hz0, hz1, hz2⟩ := info_parts Try.infoB
  by_cases h0 : L.size = 0
  · have hl' : Hid (∀ W S a, BytesAt W S a L) := fun W S a j hj => by omega
    rw [h0]
    clear h0 hl hlen
    go_enter Try.func73, Try.ntmps73
    go_wp2_with (at_builtin; refine wpList_ran _ rfl _ _ 23 rfl _ _ _ _ rfl rfl (app_zero _ _ _ _ _) ?_)
    refine bodyPost_ret (v := .agg (tcells 6 false 0 0 ByteArray.empty (.slice (some ⟨w.heap.size + 1, 0, none⟩) 0 0) 0 (.slice none 0 0) (.slice none 0 0) ByteArray.empty 0)) (by simp [results, Try.results73, go_sem, tcells] <;> rfl) rfl ⟨_, _, rfl, ?_, hl'.out _ _ _⟩
    exact ((Below.refl _ _).alloc (Nat.le_refl _) _).alloc (by simp) _
  · obtain ⟨g, o, rfl, hg, _⟩ := hl 0 (by omega)
    have hg := hB _ hg
    have h0 : 0 < L.size := by omega
    have hc' : Hid (∀ W, Below w.heap.size w W → ∀ j u, (bcells L)[j]? = some u → W.cell? ((⟨g, o, none⟩ : Addr).add j) = some u) := fun W hW j u hj => by
      obtain ⟨hj', rfl⟩ := bcells_at L j u hj
      obtain ⟨g', o', e, _, hc⟩ := hl j hj'
      simp only [Option.some.injEq, Addr.mk.injEq, and_true] at e
      obtain ⟨rfl, rfl⟩ := e
      rw [addr_add, hW.cell (p := ⟨g, o + j, none⟩) (by show g < _; omega)]; exact hc
    clear hl
    go_enter Try.func73, Try.ntmps73
    go_wp2_with (at_builtin; refine wpList_app _ rfl _ _ 23 rfl (w.heap.size + 1) 5 i0 (.int .u8 0) 1 1 Try.undB hi hz0 hz1 hz2 rfl (by decide) _ 0 [] rfl ⟨rfl, .inr ⟨w.heap.size + 1, 0, #[], rfl, Nat.le_refl _, by simpa using heap_alloc_new (w.alloc _) (.cells #[] 5), Nat.le_refl _, by simp [maxLen], rfl, rfl⟩⟩ ⟨g, o, none⟩ L.size cb (bcells L) rfl (by simp [bcells]) (hc'.out _ (((Below.refl _ _).alloc (Nat.le_refl _) _).alloc (by simp) _)) (bcells_one L) h0 (by unfold maxLen; omega) (by omega) (by simp) ?_; intro g' cap' w3 hown' hgrow hor; have hgr : ((w.alloc (.cells #[.int .i64 0, .bool false, .int .i64 0, .float .f64 0, .string ByteArray.empty, .slice none 0 0, .int .u64 0, .slice none 0 0, .slice none 0 0, .string ByteArray.empty, .int .i64 0] 29)).alloc (.cells #[] 5)).grownBy w3 (some (w.heap.size + 1)) := hgrow; have hR : w3.heap[w.heap.size]? = some (.cells #[.int .i64 0, .bool false, .int .i64 0, .float .f64 0, .string ByteArray.empty, .slice none 0 0, .int .u64 0, .slice none 0 0, .slice none 0 0, .string ByteArray.empty, .int .i64 0] 29 (0, 0)) := (hgr.block w.heap.size (by rw [World.size_alloc, World.size_alloc]; omega) (by simp)).trans ((Below.heap_alloc _ _ _ (by simp)).trans (heap_alloc_new w _)); obtain ⟨r0, r1, r2, r3, r4, r5, r6, r7, r8, r9, r10⟩ := tbox hR; have hf := box_writes hR; have f0 := hf 0; have f1 := hf 1; have f2 := hf 2; have f3 := hf 3; have f4 := hf 4; have f5 := hf 5; have f6 := hf 6; have f7 := hf 7; have f8 := hf 8; have f9 := hf 9; have f10 := hf 10)
    have hlt := hown'.lt g' rfl
    have hbw : Below w.heap.size w w3 := (((Below.refl _ _).alloc (Nat.le_refl _) _).alloc (by simp) _).grown hgr (by simp; omega) (fun k e => by have e' : some (w.heap.size + 1) = some k := e; injection e' with e'; omega)
    have HB3 : Hid (BytesAt w3 (fun k => w.heap.size + 1 ≤ k ∧ k < w3.heap.size) (some ⟨g', 0, none⟩) L) := fun j hj => by
      refine ⟨g', 0, rfl, ⟨by omega, hlt.2⟩, ?_⟩
      have hc2 := hown'.cells (g := g') rfl j (.int .u8 (Sp.byte L j)) (by simp [bcells, hj])
      rw [addr_add] at hc2; exact hc2
    have HE : Hid (Below w.heap.size w (setN w3 w.heap.size 0 [.int .i64 6, .bool false, .int .i64 0, .float .f64 0, .string ByteArray.empty, .slice (some ⟨g', 0, none⟩) L.size cap', .int .u64 0, .slice none 0 0, .slice none 0 0, .string ByteArray.empty, .int .i64 0]) ∧ BytesAt (setN w3 w.heap.size 0 [.int .i64 6, .bool false, .int .i64 0, .float .f64 0, .string ByteArray.empty, .slice (some ⟨g', 0, none⟩) L.size cap', .int .u64 0, .slice none 0 0, .slice none 0 0, .string ByteArray.empty, .int .i64 0]) (Fr w (setN w3 w.heap.size 0 [.int .i64 6, .bool false, .int .i64 0, .float .f64 0, .string ByteArray.empty, .slice (some ⟨g', 0, none⟩) L.size cap', .int .u64 0, .slice none 0 0, .slice none 0 0, .string ByteArray.empty, .int .i64 0])) (some ⟨g', 0, none⟩) L) := ⟨setN_below (Nat.le_refl _) _ _ _ _ hbw, HB3.out.same (fun k hk => setN_other (by have := hk.1; omega) _ _ _) (fun k hk => ⟨by have := hk.1; omega, by rw [setN_size]; exact hk.2⟩)⟩
    clear hown' hgrow hgr hR hf hor hbw
    refine bodyPost_ret (v := .agg (tcells 6 false 0 0 ByteArray.empty (.slice (some ⟨g', 0, none⟩) L.size cap') 0 (.slice none 0 0) (.slice none 0 0) ByteArray.empty 0)) (by simp [results, Try.results73, go_sem, tcells, r0, r1, r2, r3, r4, r5, r6, r7, r8, r9, r10] <;> rfl) rfl ⟨_, _, rfl, HE.out.1, HE.out.2⟩

set_option maxHeartbeats 1000000 in
theorem plain_any (N : Nat) : PlC N := by
  induction N with
  | zero => intro t ht; cases t; simp [Tm.sz] at ht
  | succ N ih =>
    intro t hN v B w deep n hv hB hoa hbd hd0 hd1
    cases t with
    | mk k b i f tx by' rf l fs c vr =>
      have ho := hoa.ok
      have hlN : l.sz ≤ N ∧ fs.sz ≤ N := by simp [Tm.sz] at hN; omega
      obtain ⟨p1, p2, p3, p4⟩ := ho.parts
      obtain ⟨q1, q2, q3, q4, q5⟩ := ho.bounds
      obtain ⟨s1, s2, s3⟩ := hoa.parts
      have hd : deep ≤ 400 := by omega
      simp only [Tm.Bdd] at hbd
      obtain ⟨bi, bf, br, bv, bl, bfs⟩ := hbd
      simp only [Tm.V] at hv
      obtain ⟨h1, h2, h3, h4, h5, h6, h7, h8, h9, h10, h11, h12⟩ := hv
      have HF : ∀ (hk : k = 9 ∨ k = 10) (al : Option Addr) (cl : Nat), fs.V w B al 0 → ∀ W, Below w.heap.size w W → Calls Try.prog 115 #[.slice al fs.len cl, .int .i64 deep] W fun e w' => ∃ a cap, e = .returned (.slice a fs.len cap) ∧ Below W.heap.size W w' ∧ fs.clean.In w' (Fr W w') a 0 := fun hk al cl hfs W hW =>
        plEntries_any N ih al fs cl W deep n hlN.2 B (hB.later hW) (fs.V_same (hB.same hW) (fun _ h => h) al 0 hfs) (TmF.nm (q4 hk)).1 (TmF.nm (q4 hk)).2 (s3 hk) bfs hd0 hd1 s1
      have z : ByteArray.empty.size ≤ 65536 := by rw [empty_size]; omega
      by_cases k1 : k = 1
      · subst k1; rw [h1 rfl]; refine (pl_1 w deep hd).mono ?_
        rintro e w' ⟨rfl, hb⟩
        refine ⟨_, rfl, hb, ?_⟩
        rw [Tm.clean_1]; simp only [Tm.In]
        exact ⟨none, 0, none, 0, none, 0, rfl, Bd.leaf (by decide) (by decide) (by decide) (by decide) (by decide) z z (by decide) (by decide) (by decide), fun j hj => absurd hj (Nat.not_lt_zero _), trivial, trivial⟩
      by_cases k2 : k = 2
      · subst k2; rw [h2 rfl]; refine (pl_2 b w deep hd).mono ?_
        rintro e w' ⟨rfl, hb⟩
        refine ⟨_, rfl, hb, ?_⟩
        rw [Tm.clean_2]; simp only [Tm.In]
        exact ⟨none, 0, none, 0, none, 0, rfl, Bd.leaf (by decide) (by decide) (by decide) (by decide) (by decide) z z (by decide) (by decide) (by decide), fun j hj => absurd hj (Nat.not_lt_zero _), trivial, trivial⟩
      by_cases k3 : k = 3
      · subst k3; rw [h3 rfl]; refine (pl_3 i w deep hd).mono ?_
        rintro e w' ⟨rfl, hb⟩
        refine ⟨_, rfl, hb, ?_⟩
        rw [Tm.clean_3]; simp only [Tm.In]
        exact ⟨none, 0, none, 0, none, 0, rfl, Bd.leaf (by decide) bi (by decide) (by decide) (by decide) z z (by decide) (by decide) (by decide), fun j hj => absurd hj (Nat.not_lt_zero _), trivial, trivial⟩
      by_cases k4 : k = 4
      · subst k4; rw [(h4 rfl).1]; refine (pl_4 f w deep hd).mono ?_
        rintro e w' ⟨rfl, hb⟩
        refine ⟨_, rfl, hb, ?_⟩
        rw [Tm.clean_4]; simp only [Tm.In]
        exact ⟨none, 0, none, 0, none, 0, rfl, Bd.leaf (by decide) (by decide) bf (by decide) (by decide) z z (by decide) (by decide) (by decide), fun j hj => absurd hj (Nat.not_lt_zero _), trivial, trivial⟩
      by_cases k5 : k = 5
      · subst k5; rw [(h5 rfl).1]; refine (pl_5 tx w deep hd).mono ?_
        rintro e w' ⟨rfl, hb⟩
        refine ⟨_, rfl, hb, ?_⟩
        rw [Tm.clean_5]; simp only [Tm.In]
        exact ⟨none, 0, none, 0, none, 0, rfl, Bd.leaf (by decide) (by decide) (by decide) (by decide) (by decide) (q1 rfl) z (by decide) (by decide) (by decide), fun j hj => absurd hj (Nat.not_lt_zero _), trivial, trivial⟩
      by_cases k6 : k = 6
      · subst k6
        obtain ⟨a, cap, rfl, _, hby⟩ := h6 rfl
        refine (pl_6 a by' cap B w deep hd hB hby (by have := q2 rfl; omega)).mono ?_
        rintro e w' ⟨a', cap', rfl, hb, hl⟩
        refine ⟨_, rfl, hb, ?_⟩
        rw [Tm.clean_6]; simp only [Tm.In]
        exact ⟨a', cap', none, 0, none, 0, rfl, Bd.leaf (by decide) (by decide) (by decide) (by decide) (by decide) z z (q2 rfl) (by decide) (by decide), hl, trivial, trivial⟩
      by_cases k7 : k = 7
      · subst k7; rw [h7 rfl]; refine (pl_7 rf w deep hd).mono ?_
        rintro e w' ⟨rfl, hb⟩
        refine ⟨_, rfl, hb, ?_⟩
        rw [Tm.clean_7]; simp only [Tm.In]
        exact ⟨none, 0, none, 0, none, 0, rfl, Bd.leaf (by decide) (by decide) (by decide) br (by decide) z z (by decide) (by decide) (by decide), fun j hj => absurd hj (Nat.not_lt_zero _), trivial, trivial⟩
      by_cases k8 : k = 8
      · subst k8
        obtain ⟨a, cap, rfl, _, hl⟩ := h8 rfl
        refine (pl_8 N ih a l cap w deep n hlN.1 B hB hl (q3 rfl) (s2 rfl) bl hd0 hd1 s1).mono ?_
        rintro e w' ⟨a', cap', rfl, hb, hl'⟩
        refine ⟨_, rfl, hb, ?_⟩
        rw [Tm.clean_8]; simp only [Tm.In]
        refine ⟨none, 0, a', cap', none, 0, by simp [TmL.clean_len, TmF.len], Bd.leaf (by decide) (by decide) (by decide) (by decide) (by decide) z z (by decide) (by simp [TmL.clean_len]; exact q3 rfl) (by decide), fun j hj => absurd hj (Nat.not_lt_zero _), hl', trivial⟩
      by_cases k9 : k = 9
      · subst k9
        obtain ⟨a, cap, rfl, _, hl⟩ := h9 rfl
        refine (pl_9 a fs fs.clean cap w deep hd (HF (.inl rfl) a cap hl)).mono ?_
        rintro e w' ⟨a', cap', rfl, hb, hl'⟩
        refine ⟨_, rfl, hb, ?_⟩
        rw [Tm.clean_9]; simp only [Tm.In]
        refine ⟨none, 0, none, 0, a', cap', by simp [TmF.clean_len, TmL.len], Bd.leaf (by decide) (by decide) (by decide) (by decide) (by decide) z z (by decide) (by decide) (by simp [TmF.clean_len]; exact (TmF.nm (q4 (.inl rfl))).1), fun j hj => absurd hj (Nat.not_lt_zero _), trivial, hl'⟩
      have k10 : k = 10 := by clear h1 h2 h3 h4 h5 h6 h7 h8 h9 h10 h11 h12 HF s2 s3; omega
      subst k10
      obtain ⟨g, a, cap, rfl, hg, c0, c1, c2, _, _, hl⟩ := h10 rfl
      have hcs := head_len (q5 rfl)
      refine (pl_10 g c vr a fs fs.clean cap w deep hd (hB g hg) c0 c1 c2 (HF (.inr rfl) a cap hl)).mono ?_
      rintro e w' ⟨a', cap', rfl, hb, hl'⟩
      refine ⟨_, rfl, hb, ?_⟩
      rw [Tm.clean_10]; simp only [Tm.In]
      refine ⟨none, 0, none, 0, a', cap', by simp [TmF.clean_len, TmL.len], Bd.leaf (by decide) (by decide) (by decide) (by decide) bv z (by omega) (by decide) (by decide) (by simp [TmF.clean_len]; exact (TmF.nm (q4 (.inr rfl))).1), fun j hj => absurd hj (Nat.not_lt_zero _), trivial, hl'⟩
end Go.Proofs.Ytadcbhdhgobknaa

/- Plain mathematics: the order of terms is turned about by turning about, lies in -1, 0, 1, and goes through a third. -/
namespace Go.Proofs.Ytadcbhdhgobknaa

def Tri (ab bc ac : Int) : Prop := (ab = 0 → bc = 0 → ac = 0) ∧ (ab < 0 → bc ≤ 0 → ac < 0) ∧ (ab ≤ 0 → bc < 0 → ac < 0)
def Lex (x y : Int) : Int := if x ≠ 0 then x else y
/-- the order of terms as one lexicographic row -/
def Tm.tail : Tm → Tm → Int
  | .mk k b i f tx by' rf l fs c v, .mk _ b2 i2 f2 tx2 by2 rf2 l2 fs2 c2 v2 =>
    if k = 2 then Sp.cmpI (Sp.rank b) (Sp.rank b2)
    else if k = 3 then Sp.cmpI i i2
    else if k = 4 then Sp.cmpI (Sp.frank f) (Sp.frank f2)
    else if k = 5 then Sp.cmpS tx tx2
    else if k = 6 then Sp.cmpS by' by2
    else if k = 7 then Sp.cmpI rf rf2
    else if k = 8 then l.cmp l2
    else if k = 9 then fs.cmp fs2
    else if k = 10 then Lex (Sp.cmpS c c2) (Lex (Sp.cmpI v v2) (fs.cmp fs2))
    else 0

end Go.Proofs.Ytadcbhdhgobknaa

/- Plain mathematics: a term and its clean one: the same walk, the same value, told the same. -/
namespace Go.Proofs.Ytadcbhdhgobknaa


mutual
theorem Tm.clean_eqv : (t : Tm) → t.Ok → t.clean.eqv t
  | .mk k b i f tx by' rf l fs c v, h => by
    obtain ⟨p1, p2, p3, p4⟩ := h.parts
    rw [Tm.clean]
    simp only [Tm.eqv]
    refine ⟨trivial, ⟨p1, p2⟩, fun e => ?_, fun e => ?_, fun e => ?_, fun e => ?_, fun e => ?_, fun e => ?_, fun e => ?_, fun e => ?_, fun e => ?_⟩
    · rw [if_pos e]
    · rw [if_pos e]
    · rw [if_pos e]
    · rw [if_pos e]
    · rw [if_pos e]
    · rw [if_pos e]
    · rw [if_pos e]; exact TmL.clean_eqv l (p3 e)
    · rw [if_pos e]; exact TmF.clean_eqv fs (p4 e)
    · rw [if_pos e, if_pos e]; exact ⟨rfl, rfl⟩
theorem TmL.clean_eqv : (l : TmL) → l.Ok → l.clean.eqv l
  | .nil, _ => trivial
  | .cons t l, h => ⟨Tm.clean_eqv t h.head.1, TmL.clean_eqv l h.head.2⟩
theorem TmF.clean_eqv : (l : TmF) → l.Ok → l.clean.eqv l
  | .nil, _ => trivial
  | .cons _ t l, h => ⟨rfl, Tm.clean_eqv t h.head.1, TmF.clean_eqv l h.head.2⟩
end

end Go.Proofs.Ytadcbhdhgobknaa

/- What WireBack wants of Decode and Skip: bytes that were written, whatever stands behind them. -/
namespace Go.Proofs.Ytadcbhdhgobknaa
open Go.RowKit

theorem outs_rd {w : World} {base g cap : Nat} {xs : List Int} (h : Outs w base (some ⟨g, 0, none⟩) cap xs) : RdB w (Lo w.heap.size) (some ⟨g, 0, none⟩) xs ∧ xs.length ≤ cap := by
  refine ⟨fun j u hu => ⟨g, 0, rfl, (h.1.lt g rfl).2, ?_⟩, ?_⟩
  · have := h.1.cells (g := g) rfl j (.int .u8 u) (by simp [u8s, hu])
    rw [add_at] at this; exact this
  · rcases h.1.2 with ⟨e1, _⟩ | ⟨g1, cap1, cur, e1, _, _, hnc, _⟩
    · simp at e1
    · simp only [Value.slice.injEq, Option.some.injEq, Addr.mk.injEq, and_true, true_and] at e1
      obtain ⟨rfl, rfl⟩ := e1
      exact hnc

theorem By.nil : By [] := fun x hx => by simp at hx
theorem By.cons {x : Int} {l : List Int} (h : 0 ≤ x ∧ x ≤ 255) (hl : By l) : By (x :: l) := fun y hy => by
  simp only [List.mem_cons] at hy
  rcases hy with rfl | hy
  · exact h
  · exact hl y hy
theorem By.app {l m : List Int} (hl : By l) (hm : By m) : By (l ++ m) := fun y hy => by
  simp only [List.mem_append] at hy
  rcases hy with hy | hy
  · exact hl y hy
  · exact hm y hy
theorem numB_by : ∀ n, By (Sp.numB n) := fun n => by
  induction n using Nat.strongRecOn with
  | ind n ih =>
    by_cases h : n < 128
    · rw [Sp.numB_lt h]; exact By.cons ⟨by omega, by omega⟩ By.nil
    · rw [Sp.numB_ge h]; exact By.cons ⟨by omega, by omega⟩ (ih _ (by omega))
theorem bts_by (s : ByteArray) : By (Sp.bts s) := fun x hx => by
  simp only [Sp.bts, List.mem_map] at hx
  obtain ⟨j, _, rfl⟩ := hx
  unfold Sp.byte
  have := (s.data.getD j 0).toNat_lt
  omega
theorem txtB_by (s : ByteArray) : By (Sp.txtB s) := (numB_by _).app (bts_by s)
theorem bitsTo_by (f : Nat) : ∀ k, By (Sp.bitsTo f k)
  | 0 => By.nil
  | k + 1 => (bitsTo_by f k).app (By.cons ⟨by omega, by omega⟩ By.nil)
mutual
theorem Tm.enc_by : (t : Tm) → t.Ok → By t.enc
  | .mk k b i f tx by' rf l fs c vr, ho => by
    obtain ⟨p1, p2, p3, p4⟩ := ho.parts
    have hk : k = 1 ∨ k = 2 ∨ k = 3 ∨ k = 4 ∨ k = 5 ∨ k = 6 ∨ k = 7 ∨ k = 8 ∨ k = 9 ∨ k = 10 := by omega
    rcases hk with rfl | rfl | rfl | rfl | rfl | rfl | rfl | rfl | rfl | rfl
    · rw [Tm.enc_1]; exact By.cons (by decide) By.nil
    · rw [Tm.enc_2]; exact By.cons (by decide) (By.cons (by cases b <;> decide) By.nil)
    · rw [Tm.enc_3]; exact By.cons (by decide) (numB_by _)
    · rw [Tm.enc_4]; exact By.cons (by decide) (bitsTo_by _ _)
    · rw [Tm.enc_5]; exact By.cons (by decide) (txtB_by _)
    · rw [Tm.enc_6]; exact By.cons (by decide) (txtB_by _)
    · rw [Tm.enc_7]; exact By.cons (by decide) (numB_by _)
    · rw [Tm.enc_8]; exact By.cons (by decide) ((numB_by _).app (TmL.enc_by l (p3 rfl)))
    · rw [Tm.enc_9]; exact By.cons (by decide) ((numB_by _).app (TmF.enc_by fs (p4 (Or.inl rfl))))
    · rw [Tm.enc_10]; exact By.cons (by decide) ((txtB_by _).app ((numB_by _).app ((numB_by _).app (TmF.enc_by fs (p4 (Or.inr rfl))))))
theorem TmL.enc_by : (l : TmL) → l.Ok → By l.enc
  | .nil, _ => By.nil
  | .cons t l, h => (Tm.enc_by t h.head.1).app (TmL.enc_by l h.head.2)
theorem TmF.enc_by : (l : TmF) → l.Ok → By l.enc
  | .nil, _ => By.nil
  | .cons n t l, h => (txtB_by n).app ((Tm.enc_by t h.head.1).app (TmF.enc_by l h.head.2))
end
end Go.Proofs.Ytadcbhdhgobknaa

/- Plain mathematics: what was read is what is written: the bytes that were read are those of the term, which can be a value. -/
namespace Go.Proofs.Ytadcbhdhgobknaa
open Go.RowKit

theorem Has.cons {xs : List Int} {a : Nat} {c : Int} {l : List Int} (hc : xs[a]? = some c) (h : Has xs (a + 1) l) : Has xs a (c :: l) := by
  obtain ⟨pre, rest, rfl, hp⟩ := h
  have h1 : (pre.drop a).length = 1 := by rw [List.length_drop]; omega
  obtain ⟨y, hy⟩ := List.length_eq_one_iff.1 h1
  have h2 : pre = pre.take a ++ [y] := by rw [← hy, List.take_append_drop]
  have h3 : (pre.take a).length = a := by rw [List.length_take]; omega
  refine ⟨pre.take a, rest, ?_, h3⟩
  have h4 : pre[a]? = some y := by
    rw [h2, List.getElem?_append_right (by omega), h3]; simp
  rw [List.getElem?_append_left (by omega), h4] at hc
  injection hc with hc
  subst hc
  conv => lhs; rw [h2]
  simp
theorem Has.nil {xs : List Int} {a : Nat} (h : a ≤ xs.length) : Has xs a [] := ⟨xs.take a, xs.drop a, by simp, by rw [List.length_take]; omega⟩
theorem Has.part {xs : List Int} {a n : Nat} (h : a + n ≤ xs.length) : Has xs a ((xs.drop a).take n) := by
  refine ⟨xs.take a, xs.drop (a + n), ?_, by rw [List.length_take]; omega⟩
  rw [← List.drop_drop, List.take_append_drop, List.take_append_drop]

theorem bts_txt {l : List Int} (h : By l) : Sp.bts (Sp.txt l) = l := by
  apply List.ext_getElem
  · rw [Sp.bts_len, txt_size]
  · intro j h1 h2
    simp only [Sp.bts, List.getElem_map, List.getElem_range]
    exact byte_txt h2 h
/-- what is known of a term that was read -/
def Sd (xs : List Int) (f at' p : Nat) (t : Tm) (p2 a2 : Nat) : Prop := Has xs at' t.enc ∧ a2 = at' + t.enc.length ∧ t.Bdd ∧ t.clean = t ∧ ∀ d, (t.wk (65 - (f : Int)) (p : Int) d).e = 0 ∧ (t.wk (65 - (f : Int)) (p : Int) d).p = (p2 : Int)
def SdV (xs : List Int) (f : Nat) : Prop := ∀ at' p t p2 a2, Sp.rdV xs f at' p = .ok (t, p2) a2 → Sd xs f at' p t p2 a2
end Go.Proofs.Ytadcbhdhgobknaa

