/- tenonlaw14.GraphOnce's visitor: what lies in memory while one walks; two rows that grow in whatever order. -/
import Derived.Test.YtikhpbidbcfedaaGreatKo37
import Derived.Test.YtikhpbidbcfedaaGreatKo25
import Derived.Test.YtikhpbidbcfedaaGreatKo12
namespace Go.Proofs.YtikhpbidbcfedaaGreat
open Go.RowKit Go.ChangeMaps

theorem tkS {P : Program} {Q : Exit → Act → World → Prop} {md : Region.Mode} {S : World → Prop} {m : Nat} {l : List Oper} {i : Nat} {oi : Oper} {fuel : Nat} {listed : Array Bool} {a : Act} {w : World} (hi : l[i]? = some oi)
    (hb : ((m != i) && Region.noSelect l.toArray && Region.free md l.toArray listed i && (Region.ready md l.toArray listed).contains i) = true)
    (hw : Region.wanted oi (yielded l.toArray a.tmps) = false) (hS : listed.getD m false = true ∨ S w)
    (h : wpAnyM P md l.toArray Q S m fuel (listed.setIfInBounds i true) (a.put oi.dst undef) w) (hQ : ∀ c a w, Q (.panic c) (a.put oi.dst undef) w → Q (.panic c) a w := by exact fun _ _ _ h => h) : wpAnyM P md l.toArray Q S m (fuel + 1) listed a w := by
  simp only [Bool.and_eq_true] at hb
  obtain ⟨⟨⟨h1, h2⟩, h3⟩, h4⟩ := hb
  exact wpAnyM_free (ops := l.toArray) (by simpa using hi) h1 h2 h3 h4 hQ (Or.inr ⟨hw, rfl⟩) hS h
theorem tkT {P : Program} {Q : Exit → Act → World → Prop} {md : Region.Mode} {S : World → Prop} {m : Nat} {l : List Oper} {i j : Nat} {o p : Oper} {fuel : Nat} {listed : Array Bool} {a : Act} {w : World} (hr : Region.ready md l.toArray listed = [i, j]) (ho : l[i]? = some o) (hp : l[j]? = some p)
    (h1 : ∀ K' : Act → World → Prop, Shut (∀ a w, ((listed.setIfInBounds i true).getD m false = true ∨ S w) → wpAnyM P md l.toArray Q S m fuel (listed.setIfInBounds i true) a w → K' a w) → if Region.wanted o (yielded l.toArray a.tmps) = true then Oper.wp P o a w K' Q else K' (a.put o.dst undef) w)
    (h2 : ∀ K' : Act → World → Prop, Shut (∀ a w, ((listed.setIfInBounds j true).getD m false = true ∨ S w) → wpAnyM P md l.toArray Q S m fuel (listed.setIfInBounds j true) a w → K' a w) → if Region.wanted p (yielded l.toArray a.tmps) = true then Oper.wp P p a w K' Q else K' (a.put p.dst undef) w) :
    wpAnyM P md l.toArray Q S m (fuel + 1) listed a w := by
  refine ⟨fun h0 => (by rw [hr] at h0; cases h0), fun k hk => ?_⟩
  rw [hr] at hk
  rcases List.mem_cons.1 hk with rfl | hk
  · exact wpOp_step (by simpa using ho) (fun K' hK => h1 K' (fun a w hS hW => hK a w ⟨hS, hW⟩))
  · obtain rfl : k = j := by simpa using hk
    exact wpOp_step (by simpa using hp) (fun K' hK => h2 K' (fun a w hS hW => hK a w ⟨hS, hW⟩))

theorem appRx (gs : Option Nat) (c : Nat) (l : List Int) (w : World) (h : NdR w gs c l) (x : Int) (b : Nat) (hb : w.cell? ⟨b, 0, none⟩ = some (.int .u64 x)) (hl : l.length * 8 ≤ 140737488355328) (ty : TypeId) :
    ∃ g' c' w', (Builtin.append_ #[22, 22] ty #[.slice (adr gs) l.length c, .slice (some ⟨b, 0, none⟩) 1 1]).run Tryz.prog w = .ok (.slice (some ⟨g', 0, none⟩) (l.length + 1) c') w' ∧
      OwnR w' 25 g' (l.length + 1) c' (rv (l ++ [x])) ∧ w.grownBy w' gs ∧ (gs = some g' ∨ w.heap.size ≤ g') := by
  obtain ⟨i0, hi, hz0, hz1, hz2⟩ := info_parts Tryz.infoRg
  have hlx : ∀ j u, [Value.int .u64 x][j]? = some u → w.cell? ((⟨b, 0, none⟩ : Addr).add j) = some u := fun j u hu => by
    rcases j with _ | j
    · rw [addN]; simp at hu; subst hu; exact hb
    · simp at hu
  cases gs with
  | some g =>
    obtain ⟨g', c', w', h1, h2, h3, h4⟩ := run_appS (P := Tryz.prog) w 22 22 ty 25 i0 (.int .u64 0) 8 Tryz.undRg hi hz0 hz1 hz2 rfl g l.length c (rv l) (h.2 g rfl) _ 1 [.int .u64 x] (Src.ofSlice _ Tryz.undRg ⟨b, 0, none⟩ 1 1 [.int .u64 x] rfl hlx (fun u hu => by simp at hu; subst hu; rfl)) (by omega) (by decide)
    exact ⟨g', c', w', h1, by simpa [rv] using h2, h3, h4.imp (fun e => by rw [e]) (fun e => by omega)⟩
  | none =>
    obtain ⟨rfl, rfl⟩ := h.1 rfl
    have hr := run_append_nil (P := Tryz.prog) w 22 ty 25 i0 (.int .u64 0) Tryz.undRg hi hz0 ⟨b, 0, none⟩ 1 1 [.int .u64 x] (by rw [hz1]; rfl) hlx (by decide) (by decide) (by rw [hz2]; decide)
    have hge := grownCap_ge w 1 0 25
    have hcm := grownCap_le_maxLen w 1 0 25 (by simp [maxLen])
    refine ⟨_, _, _, hr, ⟨by simp [rv], _, heap_alloc_new _ _, by simpa using hge, hcm, ?_, ?_⟩, ⟨rfl, rfl, rfl, by simp, fun k hk _ => Below.heap_alloc w.drew _ k hk⟩, .inr (Nat.le_refl _)⟩
    · simp only [Array.size_append, List.size_toArray, size_zeroCells, List.length_cons, List.length_nil]
      have : (Value.int .u64 0).cells.size = 1 := rfl
      rw [this]; omega
    · simp [rv]

inductive Rst
  | a (gs : Option Nat) (c : Nat)
  | b (gs : Option Nat) (c blk : Nat)
  | d (g c : Nat)
def Rst.dom : Rst → Nat → Prop
  | .a gs _, k => gs = some k
  | .b gs _ blk, k => gs = some k ∨ k = blk
  | .d g _, k => k = g
def RwS (m0 : Nat) (l : List Int) (x : Int) (W : World) : Rst → Prop
  | .a gs c => NdR W gs c l ∧ ∀ g, gs = some g → m0 ≤ g
  | .b gs c blk => (NdR W gs c l ∧ ∀ g, gs = some g → m0 ≤ g) ∧ W.cell? ⟨blk, 0, none⟩ = some (.int .u64 x) ∧ m0 ≤ blk ∧ gs ≠ some blk
  | .d g c => OwnR W 25 g (l.length + 1) c (rv (l ++ [x])) ∧ m0 ≤ g
theorem RwS.keep {m0 : Nat} {l : List Int} {x : Int} {W W' : World} : ∀ {st : Rst}, RwS m0 l x W st → (∀ k, st.dom k → W'.heap[k]? = W.heap[k]?) → RwS m0 l x W' st
  | .a _ _, h, hk => ⟨h.1.keep (fun g hg => hk g hg), h.2⟩
  | .b _ _ blk, h, hk => ⟨⟨h.1.1.keep (fun g hg => hk g (.inl hg)), h.1.2⟩, by rw [World.cell?_of_block (w := W) (hk blk (.inr rfl))]; exact h.2.1, h.2.2⟩
  | .d _ _, h, hk => ⟨h.1.keep (hk _ rfl), h.2⟩
theorem RwS.lt {m0 : Nat} {l : List Int} {x : Int} {W : World} : ∀ {st : Rst}, RwS m0 l x W st → ∀ k, st.dom k → k < W.heap.size ∧ m0 ≤ k
  | .a _ _, h, k, hk => ⟨(h.1.2 k hk).lt, h.2 k hk⟩
  | .b _ _ blk, h, k, hk => by
    rcases hk with hk | hk
    · exact ⟨(h.1.1.2 k hk).lt, h.1.2 k hk⟩
    · subst hk; exact ⟨World.block_lt_of_cell? _ _ h.2.1, h.2.2.1⟩
  | .d _ _, h, k, hk => by subst hk; exact ⟨h.1.lt, h.2⟩
def Sp.onM (bi bo bp bk m0 k : Nat) (o : Option Obj) : Prop := k = bi ∨ k = bo ∨ k = bp ∨ k = bk ∨ (m0 ≤ k ∧ ∃ c f, o = some (.cells c 25 f))
def Sp.onR (F : Nat → Prop) (m0 k : Nat) (o : Option Obj) : Prop := m0 ≤ k ∧ ¬ F k ∧ ∃ c f, o = some (.cells c 25 f)
structure Two2 (F : Nat → Prop) (m0 : Nat) (l1 l2 : List Int) (x : Int) (w0 : World) (A B : Rst) (W : World) : Prop where
  r1 : RwS m0 l1 x W A
  r2 : RwS m0 l2 x W B
  ap : ∀ k, A.dom k → ¬ B.dom k
  kw : KwO (Sp.onR F m0) w0 W
  sz : m0 ≤ W.heap.size
  fb : ∀ k, F k → k < W.heap.size ∧ ¬ A.dom k ∧ ¬ B.dom k
section
variable {F : Nat → Prop} {m0 : Nat} {l1 l2 : List Int} {x : Int} {w0 : World} {A B : Rst} {W : World}
theorem Two2.swap (h : Two2 F m0 l1 l2 x w0 A B W) : Two2 F m0 l2 l1 x w0 B A W := ⟨h.r2, h.r1, fun k h1 h2 => h.ap k h2 h1, h.kw, h.sz, fun k hk => ⟨(h.fb k hk).1, (h.fb k hk).2.2, (h.fb k hk).2.1⟩⟩
theorem Two2.build {gs : Option Nat} {c : Nat} (h : Two2 F m0 l1 l2 x w0 (.a gs c) B W) : Two2 F m0 l1 l2 x w0 (.b gs c W.heap.size) B (W.alloc (.cells #[.int .u64 x] 25)) := by
  have e : ∀ k, k < W.heap.size → (W.alloc (.cells #[.int .u64 x] 25)).heap[k]? = W.heap[k]? := fun k hk => Below.heap_alloc W _ k hk
  have hr1 : RwS m0 l1 x W (.a gs c) := h.r1
  refine ⟨⟨⟨hr1.1.keep (fun g hg => e g (hr1.1.2 g hg).lt), hr1.2⟩, ?_, h.sz, fun hg => ?_⟩, h.r2.keep (fun k hk => e k (h.r2.lt k hk).1), fun k hk => ?_, h.kw.alloc _, by rw [al_size]; have := h.sz; omega, fun k hk => ⟨by rw [al_size]; have := (h.fb k hk).1; omega, fun h2 => ?_, (h.fb k hk).2.2⟩⟩
  · have := cell_one_new W (.int .u64 x) 25 0 _ rfl
    rwa [addN] at this
  · have := (hr1.1.2 _ hg).lt; omega
  · rcases hk with hk | hk
    · exact h.ap k hk
    · subst hk; intro h2; have := (h.r2.lt _ h2).1; omega
  · rcases h2 with h2 | h2
    · exact (h.fb k hk).2.1 h2
    · have := (h.fb k hk).1; omega
theorem Two2.app {gs : Option Nat} {c blk : Nat} (h : Two2 F m0 l1 l2 x w0 (.b gs c blk) B W) (hl : l1.length * 8 ≤ 140737488355328) (ty : TypeId) :
    ∃ g' c' W', (Builtin.append_ #[22, 22] ty #[.slice (adr gs) l1.length c, .slice (some ⟨blk, 0, none⟩) 1 1]).run Tryz.prog W = .ok (.slice (some ⟨g', 0, none⟩) (l1.length + 1) c') W' ∧ Two2 F m0 l1 l2 x w0 (.d g' c') B W' := by
  have hr1 : RwS m0 l1 x W (.b gs c blk) := h.r1
  obtain ⟨g', c', W', h1, h2, h3, h4⟩ := appRx gs c l1 W hr1.1.1 x blk hr1.2.1 hl ty
  refine ⟨g', c', W', h1, ⟨h2, ?_⟩, h.r2.keep (fun k hk => h3.block k (h.r2.lt k hk).1 (fun e => h.ap k (.inl e.symm) hk)), fun k hk hk2 => ?_, h.kw.trans ⟨h3.os, h3.tape, h3.output, h3.size, fun k hk hn => h3.block k hk (fun e => hn ?_)⟩, Nat.le_trans h.sz h3.size, fun k hk => ⟨Nat.lt_of_lt_of_le (h.fb k hk).1 h3.size, fun h5 => ?_, (h.fb k hk).2.2⟩⟩
  · rcases h4 with h4 | h4
    · exact hr1.1.2 g' h4
    · exact Nat.le_trans h.sz h4
  · have hk' : k = g' := hk
    subst hk'
    rcases h4 with h4 | h4
    · exact h.ap k (.inl h4) hk2
    · have := (h.r2.lt k hk2).1; omega
  · obtain ⟨cur, hc, _⟩ := (hr1.1.1.2 k e.symm).blk
    exact ⟨hr1.1.2 k e.symm, fun hF => (h.fb k hF).2.1 (.inl e.symm), cur, _, hc⟩
  · have hk' : k = g' := h5
    subst hk'
    rcases h4 with h4 | h4
    · exact (h.fb k hk).2.1 (.inl h4)
    · have := (h.fb k hk).1; omega
end

structure OnI (N : List Int) (E : List (Int × Int)) (a2 : Option Addr) (cap2 be bi bo bp bk m0 : Nat) (s : On) (W : World) : Prop where
  k : W.heap[bk]? = some (.cells #[.bool s.k] 4 (0, 0))
  e : W.heap[be]? = some (.cells #[.slice a2 E.length cap2] 23 (0, 0))
  rows : ∃ gi ci go co gp cp, W.heap[bi]? = some (.cells #[.slice (adr gi) s.i.length ci] 22 (0, 0)) ∧ W.heap[bo]? = some (.cells #[.slice (adr go) s.o.length co] 22 (0, 0)) ∧ W.heap[bp]? = some (.cells #[.slice (adr gp) s.p.length cp] 22 (0, 0)) ∧
    NdR W gi ci (Sp.rfs N s.i) ∧ NdR W go co (Sp.rfs N s.o) ∧ NdR W gp cp (Sp.rfs N s.p) ∧ (∀ g, gi = some g ∨ go = some g ∨ gp = some g → m0 ≤ g) ∧ (∀ g, gi = some g → go ≠ some g ∧ gp ≠ some g) ∧ ∀ g, go = some g → gp ≠ some g
  ev : EgV W a2 E
  len : s.p.length ≤ s.i.length
  bd : ∀ x, x ∈ s.i ∨ x ∈ s.o ∨ x ∈ s.p → x < N.length
  sz : m0 ≤ W.heap.size
structure OnB (E : List (Int × Int)) (a2 : Option Addr) (be bi bo bp bk m0 : Nat) : Prop where
  old : ∀ (t : Nat) (x : Int × Int), E[t]? = some x → ∀ b o, a2 = some ⟨b, o, none⟩ → b < be
  ord : be < bi ∧ bi < bo ∧ bo < bp ∧ bp < bk ∧ bk < m0
theorem OnI.keep {N : List Int} {E : List (Int × Int)} {a2 : Option Addr} {cap2 be bi bo bp bk m0 : Nat} {s : On} {W W' : World} (h : OnI N E a2 cap2 be bi bo bp bk m0 s W) (hB : OnB E a2 be bi bo bp bk m0) (hs : W.heap.size ≤ W'.heap.size) (hk : ∀ j, j < W.heap.size → (j ≤ bk ∨ m0 ≤ j) → W'.heap[j]? = W.heap[j]?) : OnI N E a2 cap2 be bi bo bp bk m0 s W' := by
  obtain ⟨gi, ci, go, co, gp, cp, h1, h2, h3, h4, h5, h6, h7, h8⟩ := h.rows
  have lt : ∀ {b : Nat} {o : Obj}, W.heap[b]? = some o → b < W.heap.size := fun h => (Array.getElem?_eq_some_iff.1 h).1
  have ho := hB.ord
  refine ⟨(hk bk (lt h.k) (.inl (Nat.le_refl _))).trans h.k, (hk be (lt h.e) (.inl (by omega))).trans h.e, ⟨gi, ci, go, co, gp, cp, (hk bi (lt h1) (.inl (by omega))).trans h1, (hk bo (lt h2) (.inl (by omega))).trans h2, (hk bp (lt h3) (.inl (by omega))).trans h3, h4.keep (fun g hg => hk g (h4.2 g hg).lt (.inr (h7 g (.inl hg)))), h5.keep (fun g hg => hk g (h5.2 g hg).lt (.inr (h7 g (.inr (.inl hg))))), h6.keep (fun g hg => hk g (h6.2 g hg).lt (.inr (h7 g (.inr (.inr hg))))), h7, h8⟩, fun t x hx => ?_, h.len, h.bd, Nat.le_trans h.sz hs⟩
  obtain ⟨b, o, e, h9, h10⟩ := h.ev t x hx
  have hbl := hk b (World.block_lt_of_cell? _ _ h9) (.inl (by have := hB.old t x hx b o e; omega))
  exact ⟨b, o, e, by rw [World.cell?_of_block (w := W) hbl]; exact h9, by rw [World.cell?_of_block (w := W) hbl]; exact h10⟩
theorem OnI.put2 {N : List Int} {E : List (Int × Int)} {a2 : Option Addr} {cap2 be bi bo bp bk m0 j : Nat} {x : Int} {s : On} {W : World} (h : OnI N E a2 cap2 be bi bo bp bk m0 s W) (hB : OnB E a2 be bi bo bp bk m0) (hx : N[j]? = some x) :
    ∃ gi ci gp cp F, W.heap[bi]? = some (.cells #[.slice (adr gi) s.i.length ci] 22 (0, 0)) ∧ W.heap[bp]? = some (.cells #[.slice (adr gp) s.p.length cp] 22 (0, 0)) ∧ Two2 F m0 (Sp.rfs N s.i) (Sp.rfs N s.p) x W (.a gi ci) (.a gp cp) W.drew ∧
    ∀ g1 c1 g2 c2 W4, Two2 F m0 (Sp.rfs N s.i) (Sp.rfs N s.p) x W (.d g1 c1) (.d g2 c2) W4 → (W4.cell? ⟨bi, 0, none⟩ = some (.slice (adr gi) s.i.length ci) ∧ W4.frozen? ⟨bi, 0, none⟩ = false ∧ ∀ v, (W4.setCell ⟨bi, 0, none⟩ v).cell? ⟨bp, 0, none⟩ = some (.slice (adr gp) s.p.length cp) ∧ (W4.setCell ⟨bi, 0, none⟩ v).frozen? ⟨bp, 0, none⟩ = false) ∧
      OnI N E a2 cap2 be bi bo bp bk m0 ⟨s.i ++ [j], s.o, s.p ++ [j], s.k⟩ ((W4.setCell ⟨bi, 0, none⟩ (.slice (some ⟨g1, 0, none⟩) (s.i.length + 1) c1)).setCell ⟨bp, 0, none⟩ (.slice (some ⟨g2, 0, none⟩) (s.p.length + 1) c2)) ∧ KwO (Sp.onM bi bo bp bk m0) W ((W4.setCell ⟨bi, 0, none⟩ (.slice (some ⟨g1, 0, none⟩) (s.i.length + 1) c1)).setCell ⟨bp, 0, none⟩ (.slice (some ⟨g2, 0, none⟩) (s.p.length + 1) c2)) := by
  obtain ⟨gi, ci, go, co, gp, cp, h1, h2, h3, h4, h5, h6, h7, h8, h9⟩ := h.rows
  have ho := hB.ord
  have lt : ∀ {b : Nat} {o : Obj}, W.heap[b]? = some o → b < W.heap.size := fun h => (Array.getElem?_eq_some_iff.1 h).1
  have hjL := (List.getElem?_eq_some_iff.1 hx).1
  have hfx : ∀ l : List Nat, Sp.rfs N (l ++ [j]) = Sp.rfs N l ++ [x] := fun l => by simp [Sp.rfs, List.getD_eq_getElem?_getD, hx]
  have hfl : ∀ l : List Nat, (Sp.rfs N l).length = l.length := fun l => by simp [Sp.rfs]
  refine ⟨gi, ci, gp, cp, fun k => go = some k, h1, h3, ⟨⟨h4.keep (fun _ _ => rfl), fun g hg => h7 g (.inl hg)⟩, ⟨h6.keep (fun _ _ => rfl), fun g hg => h7 g (.inr (.inr hg))⟩, fun k hk hk2 => (h8 k hk).2 hk2, (KwO.refl _ _).drew, h.sz, fun k hk => ⟨(h5.2 k hk).lt, fun h10 => (h8 k h10).1 hk, fun h10 => h9 k hk h10⟩⟩, fun g1 c1 g2 c2 W4 T => ?_⟩
  have hq1 : OwnR W4 25 g1 ((Sp.rfs N s.i).length + 1) c1 (rv (Sp.rfs N s.i ++ [x])) ∧ m0 ≤ g1 := T.r1
  have hq2 : OwnR W4 25 g2 ((Sp.rfs N s.p).length + 1) c2 (rv (Sp.rfs N s.p ++ [x])) ∧ m0 ≤ g2 := T.r2
  have h12 : g1 ≠ g2 := fun e => T.ap g1 rfl e
  have old : ∀ k, k < W.heap.size → k < m0 ∨ go = some k → W4.heap[k]? = W.heap[k]? := fun k hk hc => T.kw.block k hk (fun hM => by
    rcases hc with hc | hc
    · have := hM.1; omega
    · exact hM.2.1 hc)
  have e2 : ∀ k v v2, k ≠ bi → k ≠ bp → ((W4.setCell ⟨bi, 0, none⟩ v).setCell ⟨bp, 0, none⟩ v2).heap[k]? = W4.heap[k]? := fun k v v2 a b => (Below.heap_setCell _ _ _ k b).trans (Below.heap_setCell W4 _ _ k a)
  have o1 := (old bi (lt h1) (.inl (by omega))).trans h1
  have o3 := (old bp (lt h3) (.inl (by omega))).trans h3
  have o3' : ∀ v, (W4.setCell ⟨bi, 0, none⟩ v).heap[bp]? = some (.cells #[.slice (adr gp) s.p.length cp] 22 (0, 0)) := fun v => (Below.heap_setCell W4 _ _ bp (by show bp ≠ bi; omega)).trans o3
  refine ⟨⟨by simp [World.cell?, o1], by simp [World.frozen?, o1], fun v => ⟨by simp [World.cell?, o3' v], by simp [World.frozen?, o3' v]⟩⟩, ⟨?_, ?_, ⟨some g1, c1, go, co, some g2, c2, ?_, ?_, ?_, ?_, ?_, ?_, ?_, ?_, ?_⟩, fun t y hy => ?_, ?_, ?_, ?_⟩, ?_⟩
  · exact ((e2 bk _ _ (by omega) (by omega)).trans (old bk (lt h.k) (.inl (by omega)))).trans h.k
  · exact ((e2 be _ _ (by omega) (by omega)).trans (old be (lt h.e) (.inl (by omega)))).trans h.e
  · rw [Below.heap_setCell _ _ _ bi (by show bi ≠ bp; omega), Sort.setCell_eq]; show (W4.heap.modify bi _)[bi]? = _
    rw [Array.getElem?_modify, if_pos rfl, o1]
    simp [adr]; rfl
  · exact ((e2 bo _ _ (by omega) (by omega)).trans (old bo (lt h2) (.inl (by omega)))).trans h2
  · rw [Sort.setCell_eq]; show ((W4.setCell ⟨bi, 0, none⟩ _).heap.modify bp _)[bp]? = _
    rw [Array.getElem?_modify, if_pos rfl, o3']
    simp [adr]; rfl
  · refine ⟨(fun e => by cases e), fun g hg => ?_⟩
    injection hg with hg; subst hg
    have := hq1.1.keep (e2 g1 (.slice (some ⟨g1, 0, none⟩) (s.i.length + 1) c1) (.slice (some ⟨g2, 0, none⟩) (s.p.length + 1) c2) (by omega) (by omega))
    rw [hfx]; simpa using this
  · exact h5.keep (fun g hg => (e2 g _ _ (by have := h7 g (.inr (.inl hg)); omega) (by have := h7 g (.inr (.inl hg)); omega)).trans (old g (h5.2 g hg).lt (.inr hg)))
  · refine ⟨(fun e => by cases e), fun g hg => ?_⟩
    injection hg with hg; subst hg
    have := hq2.1.keep (e2 g2 (.slice (some ⟨g1, 0, none⟩) (s.i.length + 1) c1) (.slice (some ⟨g2, 0, none⟩) (s.p.length + 1) c2) (by omega) (by omega))
    rw [hfx]; simpa using this
  · rintro g (hg | hg | hg)
    · injection hg with hg; subst hg; exact hq1.2
    · exact h7 g (.inr (.inl hg))
    · injection hg with hg; subst hg; exact hq2.2
  · intro g hg
    injection hg with hg; subst hg
    exact ⟨fun h10 => (T.fb g1 h10).2.1 rfl, fun h10 => by injection h10 with h10; exact h12 h10.symm⟩
  · intro g hg h10
    injection h10 with h10; subst h10
    exact (T.fb g2 hg).2.2 rfl
  · obtain ⟨b, o, e1, h10, h11⟩ := h.ev t y hy
    have hbe := hB.old t y hy b o e1
    have hbl := (e2 b (.slice (some ⟨g1, 0, none⟩) (s.i.length + 1) c1) (.slice (some ⟨g2, 0, none⟩) (s.p.length + 1) c2) (by omega) (by omega)).trans (old b (World.block_lt_of_cell? _ _ h10) (.inl (by omega)))
    exact ⟨b, o, e1, by rw [World.cell?_of_block (w := W) hbl]; exact h10, by rw [World.cell?_of_block (w := W) hbl]; exact h11⟩
  · have := h.len; simp; exact this
  · intro y hy
    rcases hy with hy | hy | hy
    · rcases List.mem_append.1 hy with hy | hy
      · exact h.bd y (.inl hy)
      · simp at hy; subst hy; exact hjL
    · exact h.bd y (.inr (.inl hy))
    · rcases List.mem_append.1 hy with hy | hy
      · exact h.bd y (.inr (.inr hy))
      · simp at hy; subst hy; exact hjL
  · simpa [World.setCell] using T.sz
  · exact ((T.kw.mono (fun k o hM => .inr (.inr (.inr (.inr ⟨hM.1, hM.2.2⟩))))).set (.inl fun _ => .inl rfl) _).set (.inl fun _ => .inr (.inr (.inl rfl))) _
end Go.Proofs.YtikhpbidbcfedaaGreat

