/- tenonlaw14.GraphParts: what its walk needs. -/
import Derived.Test.YtikhpbidbcfedaaGreatKp39
import Derived.Test.YtikhpbidbcfedaaGreatKp21
import Derived.Test.YtikhpbidbcfedaaGreatKp23
import Derived.Test.YtikhpbidbcfedaaGreatKp37
import Derived.Test.YtikhpbidbcfedaaGreatKp24
import Derived.Test.YtikhpbidbcfedaaGreatKp35
import Derived.Test.YtikhpbidbcfedaaGreatKp27
import Derived.Test.YtikhpbidbcfedaaGreatKp25
import Derived.Test.YtikhpbidbcfedaaGreatKp12
namespace Go.Proofs.YtikhpbidbcfedaaGreat
open Go.RowKit Go.ChangeMaps

theorem appCopy (q : Option Nat) (c : Nat) (r : List Int) (w : World) (h : NdR w q c r) (hne : r ≠ []) (hr : r.length ≤ 4096) (ty : TypeId) :
    ∃ g' c' w', (Builtin.append_ #[22, 22] ty #[.slice (some ⟨w.heap.size, 0, none⟩) 0 0, .slice (adr q) r.length c]).run Tryz.prog (w.alloc (.cells #[] 25)) = .ok (.slice (some ⟨g', 0, none⟩) r.length c') w' ∧
      NdR w' (some g') c' r ∧ Below w.heap.size w w' ∧ w.heap.size ≤ g' := by
  obtain ⟨i0, hi, hz0, hz1, hz2⟩ := info_parts Tryz.infoRg
  obtain ⟨g, rfl⟩ : ∃ g, q = some g := by
    cases q with
    | some g => exact ⟨g, rfl⟩
    | none => exact absurd (h.1 rfl).1 hne
  have ho := (h.2 g rfl).keep (Below.heap_alloc w (.cells #[] 25) g (h.2 g rfl).lt)
  obtain ⟨g', c', w', h1, h2, h3, h4⟩ := run_appS (P := Tryz.prog) (w.alloc (.cells #[] 25)) 22 22 ty 25 i0 (.int .u64 0) 8 Tryz.undRg hi hz0 hz1 hz2 rfl w.heap.size 0 0 [] (OwnR.alloc0 w 25) _ r.length (rv r) (Src.ofSlice _ Tryz.undRg ⟨g, 0, none⟩ r.length c (rv r) (by simp [rv]) (fun j u hu => by rw [addN, Nat.zero_add]; exact ho.cell hu) (fun u hu => by
    obtain ⟨x, _, rfl⟩ := List.mem_map.1 hu; rfl)) (by omega) (by decide)
  have hb : Below w.heap.size w w' := ⟨h3.os, h3.tape, h3.output, by have := h3.size; rw [al_size] at this; omega, fun k hk => (h3.block k (by rw [al_size]; omega) (fun e => by injection e with e; omega)).trans (Below.heap_alloc w _ k hk)⟩
  rw [Nat.zero_add] at h1 h2
  refine ⟨g', c', w', h1, ⟨(fun e => by cases e), fun k hk => ?_⟩, hb, ?_⟩
  · injection hk with hk; subst hk; simpa using h2
  · rcases h4 with h4 | h4
    · omega
    · rw [al_size] at h4; omega
theorem step_ranW {P : Program} {w w' : World} {ops : Array Oper} {o : Oper} {a : Act} {K : Act → World → Prop} {Q : Exit → Act → World → Prop} {E : Prop} (hw : Region.wanted o (yielded ops a.tmps) = true) (s x : Operand) (t tx : TypeId)
    (ho : o.op = .call { callee := .builtin .append, args := #[s, x], argTypes := #[t, tx] }) (v y v' : Value) (hs : a.eval s = v) (hx : a.eval x = y)
    (hr : (Builtin.append_ #[t, tx] o.type #[v, y]).run P w = .ok v' w') (h : K (a.put o.dst v') w') : if Region.wanted o (yielded ops a.tmps) = true then Oper.wp P o a w K Q else E := by
  rw [if_pos hw]
  unfold Oper.wp execOp
  simp only [ho, resolve, invoke, builtin, Sem.run_bind, Sem.run_pure, Result.andThen_ok, List.map_toArray, List.map_cons, List.map_nil, hs, hx, hr]
  exact h
def OrD (N : List Int) (E : List (Int × Int)) (w : World) (e : Ending) (w' : World) : Prop := ∃ (o : List Int) (og : Option Nat) (oc : Nat) (oe : Int), e = .returned (.tuple #[.slice (adr og) o.length oc, .int .i64 oe]) ∧ NdR w' og oc o ∧ Below w.heap.size w w' ∧ (Cyc (Sp.nx N E) N.length → oe = 141 ∧ o = []) ∧ (¬ Cyc (Sp.nx N E) N.length → oe = 0) ∧ o.length ≤ 4096 ∧ (oe = 0 → o.length = N.length) ∧ ∀ (i k : Nat) (x y : Int), k ≤ i → o[i]? = some x → o[k]? = some y → (x, y) ∉ E
theorem OrE.ord {N : List Int} {E : List (Int × Int)} (hn : N.length ≤ 4096) {w w' : World} {e : Ending} (h : OrE w ((Sp.ord (Sp.nx N E) N.length N.length).map fun p => Sp.rfs N p.2) e w') : OrD N E w e w' := by
  have hi := ord_iff (nx := Sp.nx N E) (L := N.length) (nx_lt N E) (nx_bd N E) hn
  obtain ⟨hb, h⟩ := h
  cases ho : Sp.ord (Sp.nx N E) N.length N.length with
  | none =>
    rw [ho] at h
    rcases h with ⟨_, rfl⟩ | ⟨l, gs, c, h, _⟩
    · exact ⟨[], none, 0, 141, rfl, ⟨fun _ => ⟨rfl, rfl⟩, fun g hg => by cases hg⟩, hb, fun _ => ⟨rfl, rfl⟩, fun hc => absurd (hi.1 ho) hc, by simp, fun h => by omega, fun i k x y _ h => by simp at h⟩
    · cases h
  | some bl =>
    obtain ⟨b, l0⟩ := bl
    have H := ord_I (nx_lt N E) hn N.length b l0 ho
    have hnc := ord_top (nx_bd N E) H
    rw [ho] at h
    rcases h with ⟨h, _⟩ | ⟨l, gs, c, h, rfl, hr, _⟩
    · cases h
    · simp at h
      subst h
      have hll : (Sp.rfs N l0).length = N.length := by simp [Sp.rfs]; exact H.len.2
      refine ⟨_, gs, c, 0, rfl, hr, hb, fun hc => absurd hc hnc, fun _ => rfl, by omega, fun _ => hll, fun i k x y hki hx hy hxy => ?_⟩
      unfold Sp.rfs at hx hy
      rw [List.getElem?_map] at hx hy
      obtain ⟨a, ha, rfl⟩ := Option.map_eq_some_iff.1 hx
      obtain ⟨c2, hc2, rfl⟩ := Option.map_eq_some_iff.1 hy
      have hmem := H.tp k c2 hc2 a (H.bd a (List.mem_of_getElem? ha)) (nx_mem.2 ⟨H.bd c2 (List.mem_of_getElem? hc2), hxy⟩)
      obtain ⟨j, hj, e⟩ := List.mem_iff_getElem.1 hmem
      simp at hj e
      have := nd_at H.nd ha (show l0[j]? = some a by rw [List.getElem?_eq_getElem (by omega), e])
      omega
theorem ring_ok {N : List Int} {E : List (Int × Int)} (hN : N.Pairwise (· < ·)) {R : List Int} (hR : Sp.rfs N (Sp.rgs (Sp.nx N E) N.length N.length) = R) : (0 < R.length ↔ Cyc (Sp.nx N E) N.length) ∧ R.length ≤ N.length ∧ ∀ (i : Nat) (x y : Int), R[i]? = some x → R[(i + 1) % R.length]? = some y → (x, y) ∈ E ∧ x ∉ R.take i := by
  have hi := rgs_iff (nx := Sp.nx N E) (L := N.length) (nx_lt N E) (nx_bd N E)
  have hlen : R.length = (Sp.rgs (Sp.nx N E) N.length N.length).length := by rw [← hR]; simp [Sp.rfs]
  have h0 : 0 < R.length ↔ Sp.rgs (Sp.nx N E) N.length N.length ≠ [] := by rw [hlen]; exact List.length_pos_iff
  by_cases hne : Sp.rgs (Sp.nx N E) N.length N.length = []
  · have hR0 : R = [] := List.length_eq_zero_iff.1 (by rw [hlen, hne]; rfl)
    exact ⟨by rw [h0, hi], by rw [hR0]; simp, fun i x y hx => by rw [hR0] at hx; simp at hx⟩
  · obtain ⟨a, p, ha, hw, hp⟩ := rgs_way (nx_lt N E) (nx_bd N E) hne
    refine ⟨by rw [h0, hi], by rw [hlen]; exact nd_len hw.nd hw.bd, fun i x y hx hy => ?_⟩
    rw [hlen] at hy
    rw [← hR] at hx hy ⊢
    generalize Sp.rgs (Sp.nx N E) N.length N.length = W at *
    unfold Sp.rfs at hx hy ⊢
    rw [List.getElem?_map] at hx hy
    obtain ⟨u, hu, rfl⟩ := Option.map_eq_some_iff.1 hx
    obtain ⟨v, hv, rfl⟩ := Option.map_eq_some_iff.1 hy
    have hil := (List.getElem?_eq_some_iff.1 hu).1
    refine ⟨?_, fun hm => ?_⟩
    · by_cases e : i + 1 < W.length
      · rw [Nat.mod_eq_of_lt e] at hv
        exact (nx_mem.1 (hw.ed i u v hu hv)).2
      · have hi1 : i = W.length - 1 := by omega
        rw [show i + 1 = W.length by omega, Nat.mod_self] at hv
        have h1 := hw.hd v hv
        simp at h1
        have h2 := hw.la
        rw [← hi1, hu] at h2
        injection h2 with h2
        subst h1 h2
        exact (nx_mem.1 hp).2
    · rw [← List.map_take] at hm
      obtain ⟨z, hz, hzu⟩ := List.mem_map.1 hm
      obtain ⟨j, hj, e⟩ := List.mem_iff_getElem.1 hz
      simp at hj e
      have huL := hw.bd u (List.mem_of_getElem? hu)
      have hzL := hw.bd z (List.mem_of_mem_take hz)
      have hzu2 : z = u := by
        have g1 : N[z]? = some (N.getD z 0) := by rw [List.getD_eq_getElem?_getD, List.getElem?_eq_getElem hzL]; rfl
        have g2 : N[u]? = some (N.getD u 0) := by rw [List.getD_eq_getElem?_getD, List.getElem?_eq_getElem huL]; rfl
        rw [hzu] at g1
        have := idx_at2 (lt_nd hN) g1
        have := idx_at2 (lt_nd hN) g2
        omega
      subst hzu2
      have := nd_at hw.nd hu (show W[j]? = some z by rw [List.getElem?_eq_getElem (by omega), e])
      omega
def Sp.sg (E : List (Int × Int)) (Q : List (List Int)) : Bool := Q.all fun r => decide (r.length = 1) && !decide ((r.getD 0 0, r.getD 0 0) ∈ E)
theorem sg_snoc {E : List (Int × Int)} {Q : List (List Int)} {i : Nat} {r : List Int} (h : Q[i]? = some r) : Sp.sg E (Q.take (i + 1)) = (Sp.sg E (Q.take i) && (decide (r.length = 1) && !decide ((r.getD 0 0, r.getD 0 0) ∈ E))) := by
  rw [List.take_add_one, h]; simp [Sp.sg, List.all_append]
theorem sg_iff {N : List Int} {E : List (Int × Int)} {Q : List (List Int)} (h : PrQ N E Q) : Sp.sg E Q = true ↔ ¬ Cyc (Sp.nx N E) N.length := by
  rw [← h.sg]
  unfold Sp.sg
  rw [List.all_eq_true]
  refine ⟨fun h r hr => ?_, fun h r hr => ?_⟩
  · have := h r hr
    simp only [Bool.and_eq_true, decide_eq_true_eq, Bool.not_eq_true', decide_eq_false_iff_not] at this
    obtain ⟨v, rfl⟩ := List.length_eq_one_iff.1 this.1
    exact ⟨v, rfl, by simpa using this.2⟩
  · obtain ⟨v, rfl, hv⟩ := h r hr
    simp [hv]
theorem not_yet {A r B : List Int} {k : Nat} {x : Int} (hn : (A ++ r ++ B).Nodup) (hx : r[k]? = some x) : x ∉ A ++ r.take k := fun h => by
  have hn2 : (A ++ r).Nodup := (List.nodup_append.1 hn).1
  have hkl := (List.getElem?_eq_some_iff.1 hx).1
  have e : A ++ r = (A ++ r.take k) ++ r.drop k := by rw [List.append_assoc, List.take_append_drop]
  rw [e, List.nodup_append] at hn2
  have hd : x ∈ r.drop k := by
    have : (r.drop k)[0]? = some x := by rw [List.getElem?_drop]; simpa using hx
    exact List.mem_of_getElem? this
  exact hn2.2.2 x h x hd rfl
theorem take_flat {Q : List (List Int)} {i : Nat} {r : List Int} (h : Q[i]? = some r) : (Q.take (i + 1)).flatten = (Q.take i).flatten ++ r := by
  rw [List.take_add_one, h]; simp
theorem flat_split {Q : List (List Int)} {i : Nat} {r : List Int} (h : Q[i]? = some r) : Q.flatten = (Q.take i).flatten ++ r ++ (Q.drop (i + 1)).flatten := by
  rw [← take_flat h, ← List.flatten_append, List.take_append_drop]
end Go.Proofs.YtikhpbidbcfedaaGreat

/- tenonlaw14.without: nodes and edges but for one node. -/
namespace Go.Proofs.YtikhpbidbcfedaaGreat
open Go.RowKit Go.ChangeMaps

def WtE (w : World) (nodes : List Int) (E : List (Int × Int)) (x : Int) (e : Ending) (w' : World) : Prop := ∃ ga ca ge ce, e = .returned (.tuple #[.slice (adr ga) (Sp.wN nodes x).length ca, .slice (adr ge) (Sp.wE E x).length ce]) ∧ NdR w' ga ca (Sp.wN nodes x) ∧ NdE w' ge ce (Sp.wE E x) ∧ Below w.heap.size w w'
theorem EgI.put {w wr w4 : World} {l : List (Int × Int)} {ge : Option Nat} {ce g' c' : Nat} {x y : Int} (h : EgI w l ge ce wr) (ho : OwnK w4 38 2 g' (l.length + 1) c' (ev (l ++ [(x, y)]))) (hg : (wr.alloc (.cells #[.int .u64 x, .int .u64 y] 38)).grownBy w4 ge) (hor : ge = some g' ∨ wr.heap.size < g') : EgI w (l ++ [(x, y)]) (some g') c' w4 := by
  have hb := h.bel.alloc h.bel.size (.cells #[.int .u64 x, .int .u64 y] 38)
  refine ⟨⟨(fun e => by cases e), fun g hgg => ?_⟩, fun g hgg => ?_, hb.grown hg hb.size (fun k hk => h.nw k hk)⟩
  · injection hgg with hgg; subst hgg
    simpa using ho
  · injection hgg with hgg; subst hgg
    rcases hor with h1 | h1
    · exact h.nw g' h1
    · have := h.bel.size; omega
end Go.Proofs.YtikhpbidbcfedaaGreat

/- Plain mathematics: a shortest way, its ends, and what is reached. -/
namespace Go.Proofs.YtikhpbidbcfedaaGreat
open Go.RowKit Go.ChangeMaps

section
variable {N : List Int} {nx : Nat → List Nat} (hN : N.Pairwise (· < ·)) (hb : ∀ i, ∀ x ∈ nx i, x < N.length) (hlt : ∀ i, (nx i).Pairwise (· < ·))
include hN hb hlt
omit hN hb hlt in
theorem WayF.fn {L a b : Nat} {p : List Nat} (h : WayF nx L [a] b p) : p.getD 0 0 = a ∧ p.getD (p.length - 1) 0 = b ∧ ∀ i, i < p.length - 1 → p.getD (i + 1) 0 ∈ nx (p.getD i 0) := by
  have hp := h.pos
  refine ⟨?_, by rw [List.getD_eq_getElem?_getD, h.la]; rfl, fun i hi => ?_⟩
  · have e : p[0]? = some (p[0]'hp) := List.getElem?_eq_getElem hp
    have := h.hd _ e
    rw [List.getD_eq_getElem?_getD, e]
    simpa using this
  · have e1 : p[i]? = some (p[i]'(by omega)) := List.getElem?_eq_getElem (by omega)
    have e2 : p[i + 1]? = some (p[i + 1]'(by omega)) := List.getElem?_eq_getElem (by omega)
    rw [List.getD_eq_getElem?_getD, List.getD_eq_getElem?_getD, e1, e2]
    exact h.ed i _ _ e1 e2
end
end Go.Proofs.YtikhpbidbcfedaaGreat

/- tenonlaw14.GraphKept returns true. -/
namespace Go.Proofs.YtikhpbidbcfedaaGreat
open Go.RowKit Go.ChangeMaps

theorem NdE.edges {w : World} {gs : Option Nat} {c : Nat} {l : List (Int × Int)} (h : NdE w gs c l) (hb : ∀ x ∈ l, (0 ≤ x.1 ∧ x.1 < 18446744073709551616) ∧ 0 ≤ x.2 ∧ x.2 < 18446744073709551616) : EdgesAt w w.heap.size (adr gs) l := by
  refine ⟨fun t u hu => ?_, fun _ => ?_, hb⟩
  · cases gs with
    | none => have := (h.1 rfl).1; subst this; simp at hu
    | some g =>
      have := ev_get l t u hu
      exact ⟨g, 0, rfl, (h.2 g rfl).lt, by simpa using (h.2 g rfl).cell this.1, by simpa using (h.2 g rfl).cell this.2⟩
  · cases gs with
    | none => exact .inl rfl
    | some g => exact .inr ⟨g, 0, rfl⟩

end Go.Proofs.YtikhpbidbcfedaaGreat

/- Plain mathematics: a walk whose visitor keeps who was entered, who was left, and who is still open. -/
namespace Go.Proofs.YtikhpbidbcfedaaGreat

structure On where
  i : List Nat
  o : List Nat
  p : List Nat
  k : Bool
def Sp.onE (nx : Nat → List Nat) (s : On) (j : Nat) : Bool := s.k && (!decide (j ∈ s.i) && (s.p.isEmpty || decide (j ∈ nx (s.p.getD (s.p.length - 1) 0))))
def Sp.onL (s : On) (j : Nat) : Bool := s.k && decide (s.p[s.p.length - 1]? = some j)
def Sp.on (nx : Nat → List Nat) : Vr On where
  enter s j := (some true, ⟨s.i ++ [j], s.o, s.p ++ [j], Sp.onE nx s j⟩)
  leave s j := (some true, ⟨s.i, s.o ++ [j], s.p.dropLast, Sp.onL s j⟩)
structure OnP (nx : Nat → List Nat) (L : Nat) (l : List Nat) (E : List Bool) (s : On) (r : Option Bool × Wst On) : Prop where
  ok : r.1 = some true
  mor : Mor E r.2.1
  all : ∀ x ∈ l, r.2.1.getD x false = true
  row : ∃ t u, r.2.2 = ⟨s.i ++ t, s.o ++ u, s.p, s.k⟩ ∧ t.Nodup ∧ t.length = u.length ∧ (∀ x, x ∈ t ↔ x ∈ u) ∧ (∀ x ∈ t, x < L ∧ E.getD x false = false ∧ r.2.1.getD x false = true ∧ Rch nx (-1) l x ∧ ∀ z ∈ nx x, r.2.1.getD z false = true) ∧ ∀ x, r.2.1.getD x false = true → E.getD x false = true ∨ x ∈ t
theorem Rch.more {nx : Nat → List Nat} {wo : Int} {l m : List Nat} (h : ∀ x ∈ l, x ∈ m) {x : Nat} (hx : Rch nx wo l x) : Rch nx wo m x := by
  induction hx with
  | base a b => exact .base (h _ a) b
  | step _ a b ih => exact .step ih a b
theorem Rch.next {nx : Nat → List Nat} {n x : Nat} (hx : Rch nx (-1) (nx n) x) : Rch nx (-1) [n] x := by
  induction hx with
  | base a b => exact .step (.base (by simp) (by omega)) a b
  | step _ a b ih => exact .step ih a b
end Go.Proofs.YtikhpbidbcfedaaGreat

/- tenonlaw14.GraphOnce's visitor: what lies in memory while one walks; two rows that grow in whatever order. -/
namespace Go.Proofs.YtikhpbidbcfedaaGreat
open Go.RowKit Go.ChangeMaps

theorem tkS {P : Program} {Q : Exit → Act → World → Prop} {md : Region.Mode} {S : World → Prop} {m : Nat} {l : List Oper} {i : Nat} {oi : Oper} {fuel : Nat} {listed : Array Bool} {a : Act} {w : World} (hi : l[i]? = some oi)
    (hb : ((m != i) && Region.noSelect l.toArray && Region.free md l.toArray listed i && (Region.ready md l.toArray listed).contains i) = true)
    (hw : Region.wanted oi (yielded l.toArray a.tmps) = false) (hS : listed.getD m false = true ∨ S w)
    (h : wpAnyM P md l.toArray Q S m fuel (listed.setIfInBounds i true) (a.put oi.dst undef) w) (hQ : ∀ c a w, Q (.panic c) (a.put oi.dst undef) w → Q (.panic c) a w := by exact fun _ _ _ h => h) : wpAnyM P md l.toArray Q S m (fuel + 1) listed a w := by
  simp only [Bool.and_eq_true] at hb
  obtain ⟨⟨⟨h1, h2⟩, h3⟩, h4⟩ := hb
  exact wpAnyM_free (ops := l.toArray) (by simpa using hi) h1 h2 h3 h4 hQ (Or.inr ⟨hw, rfl⟩) hS h
inductive Rst
  | a (gs : Option Nat) (c : Nat)
  | b (gs : Option Nat) (c blk : Nat)
  | d (g c : Nat)
def Rst.dom : Rst → Nat → Prop
  | .a gs _, k => gs = some k
  | .b gs _ blk, k => gs = some k ∨ k = blk
  | .d g _, k => k = g
def RwS (m0 : Nat) (l : List Int) (x : Int) (W : World) : Rst → Prop
  | .a gs c => NdR W gs c l ∧ ∀ g, gs = some g → m0 ≤ g
  | .b gs c blk => (NdR W gs c l ∧ ∀ g, gs = some g → m0 ≤ g) ∧ W.cell? ⟨blk, 0, none⟩ = some (.int .u64 x) ∧ m0 ≤ blk ∧ gs ≠ some blk
  | .d g c => OwnR W 25 g (l.length + 1) c (rv (l ++ [x])) ∧ m0 ≤ g
theorem RwS.keep {m0 : Nat} {l : List Int} {x : Int} {W W' : World} : ∀ {st : Rst}, RwS m0 l x W st → (∀ k, st.dom k → W'.heap[k]? = W.heap[k]?) → RwS m0 l x W' st
  | .a _ _, h, hk => ⟨h.1.keep (fun g hg => hk g hg), h.2⟩
  | .b _ _ blk, h, hk => ⟨⟨h.1.1.keep (fun g hg => hk g (.inl hg)), h.1.2⟩, by rw [World.cell?_of_block (w := W) (hk blk (.inr rfl))]; exact h.2.1, h.2.2⟩
  | .d _ _, h, hk => ⟨h.1.keep (hk _ rfl), h.2⟩
theorem RwS.lt {m0 : Nat} {l : List Int} {x : Int} {W : World} : ∀ {st : Rst}, RwS m0 l x W st → ∀ k, st.dom k → k < W.heap.size ∧ m0 ≤ k
  | .a _ _, h, k, hk => ⟨(h.1.2 k hk).lt, h.2 k hk⟩
  | .b _ _ blk, h, k, hk => by
    rcases hk with hk | hk
    · exact ⟨(h.1.1.2 k hk).lt, h.1.2 k hk⟩
    · subst hk; exact ⟨World.block_lt_of_cell? _ _ h.2.1, h.2.2.1⟩
  | .d _ _, h, k, hk => by subst hk; exact ⟨h.1.lt, h.2⟩
def Sp.onM (bi bo bp bk m0 k : Nat) (o : Option Obj) : Prop := k = bi ∨ k = bo ∨ k = bp ∨ k = bk ∨ (m0 ≤ k ∧ ∃ c f, o = some (.cells c 25 f))
def Sp.onR (F : Nat → Prop) (m0 k : Nat) (o : Option Obj) : Prop := m0 ≤ k ∧ ¬ F k ∧ ∃ c f, o = some (.cells c 25 f)
structure Two2 (F : Nat → Prop) (m0 : Nat) (l1 l2 : List Int) (x : Int) (w0 : World) (A B : Rst) (W : World) : Prop where
  r1 : RwS m0 l1 x W A
  r2 : RwS m0 l2 x W B
  ap : ∀ k, A.dom k → ¬ B.dom k
  kw : KwO (Sp.onR F m0) w0 W
  sz : m0 ≤ W.heap.size
  fb : ∀ k, F k → k < W.heap.size ∧ ¬ A.dom k ∧ ¬ B.dom k
section
variable {F : Nat → Prop} {m0 : Nat} {l1 l2 : List Int} {x : Int} {w0 : World} {A B : Rst} {W : World}
theorem Two2.swap (h : Two2 F m0 l1 l2 x w0 A B W) : Two2 F m0 l2 l1 x w0 B A W := ⟨h.r2, h.r1, fun k h1 h2 => h.ap k h2 h1, h.kw, h.sz, fun k hk => ⟨(h.fb k hk).1, (h.fb k hk).2.2, (h.fb k hk).2.1⟩⟩
end

structure OnI (N : List Int) (E : List (Int × Int)) (a2 : Option Addr) (cap2 be bi bo bp bk m0 : Nat) (s : On) (W : World) : Prop where
  k : W.heap[bk]? = some (.cells #[.bool s.k] 4 (0, 0))
  e : W.heap[be]? = some (.cells #[.slice a2 E.length cap2] 23 (0, 0))
  rows : ∃ gi ci go co gp cp, W.heap[bi]? = some (.cells #[.slice (adr gi) s.i.length ci] 22 (0, 0)) ∧ W.heap[bo]? = some (.cells #[.slice (adr go) s.o.length co] 22 (0, 0)) ∧ W.heap[bp]? = some (.cells #[.slice (adr gp) s.p.length cp] 22 (0, 0)) ∧
    NdR W gi ci (Sp.rfs N s.i) ∧ NdR W go co (Sp.rfs N s.o) ∧ NdR W gp cp (Sp.rfs N s.p) ∧ (∀ g, gi = some g ∨ go = some g ∨ gp = some g → m0 ≤ g) ∧ (∀ g, gi = some g → go ≠ some g ∧ gp ≠ some g) ∧ ∀ g, go = some g → gp ≠ some g
  ev : EgV W a2 E
  len : s.p.length ≤ s.i.length
  bd : ∀ x, x ∈ s.i ∨ x ∈ s.o ∨ x ∈ s.p → x < N.length
  sz : m0 ≤ W.heap.size
structure OnB (E : List (Int × Int)) (a2 : Option Addr) (be bi bo bp bk m0 : Nat) : Prop where
  old : ∀ (t : Nat) (x : Int × Int), E[t]? = some x → ∀ b o, a2 = some ⟨b, o, none⟩ → b < be
  ord : be < bi ∧ bi < bo ∧ bo < bp ∧ bp < bk ∧ bk < m0
theorem OnI.keep {N : List Int} {E : List (Int × Int)} {a2 : Option Addr} {cap2 be bi bo bp bk m0 : Nat} {s : On} {W W' : World} (h : OnI N E a2 cap2 be bi bo bp bk m0 s W) (hB : OnB E a2 be bi bo bp bk m0) (hs : W.heap.size ≤ W'.heap.size) (hk : ∀ j, j < W.heap.size → (j ≤ bk ∨ m0 ≤ j) → W'.heap[j]? = W.heap[j]?) : OnI N E a2 cap2 be bi bo bp bk m0 s W' := by
  obtain ⟨gi, ci, go, co, gp, cp, h1, h2, h3, h4, h5, h6, h7, h8⟩ := h.rows
  have lt : ∀ {b : Nat} {o : Obj}, W.heap[b]? = some o → b < W.heap.size := fun h => (Array.getElem?_eq_some_iff.1 h).1
  have ho := hB.ord
  refine ⟨(hk bk (lt h.k) (.inl (Nat.le_refl _))).trans h.k, (hk be (lt h.e) (.inl (by omega))).trans h.e, ⟨gi, ci, go, co, gp, cp, (hk bi (lt h1) (.inl (by omega))).trans h1, (hk bo (lt h2) (.inl (by omega))).trans h2, (hk bp (lt h3) (.inl (by omega))).trans h3, h4.keep (fun g hg => hk g (h4.2 g hg).lt (.inr (h7 g (.inl hg)))), h5.keep (fun g hg => hk g (h5.2 g hg).lt (.inr (h7 g (.inr (.inl hg))))), h6.keep (fun g hg => hk g (h6.2 g hg).lt (.inr (h7 g (.inr (.inr hg))))), h7, h8⟩, fun t x hx => ?_, h.len, h.bd, Nat.le_trans h.sz hs⟩
  obtain ⟨b, o, e, h9, h10⟩ := h.ev t x hx
  have hbl := hk b (World.block_lt_of_cell? _ _ h9) (.inl (by have := hB.old t x hx b o e; omega))
  exact ⟨b, o, e, by rw [World.cell?_of_block (w := W) hbl]; exact h9, by rw [World.cell?_of_block (w := W) hbl]; exact h10⟩
end Go.Proofs.YtikhpbidbcfedaaGreat

