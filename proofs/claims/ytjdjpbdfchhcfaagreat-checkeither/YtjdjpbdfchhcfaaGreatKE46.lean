/- A row that grows in a cell of a box of the call's own; slices.Clone of bools. -/
import Derived.Test.YtjdjpbdfchhcfaaGreatKE45
import Derived.Test.YtjdjpbdfchhcfaaGreatKE1
import Derived.Test.YtjdjpbdfchhcfaaGreatKE12
import Derived.Test.YtjdjpbdfchhcfaaGreatKE20
namespace Go.Proofs.YtjdjpbdfchhcfaaGreat
open Go.RowKit

def AB (w wr : World) (TB : Nat) (v : Value) : Nat → Prop := fun k => w.heap.size + 1 ≤ k ∧ k < wr.heap.size ∧ k ≠ TB ∧ some k ≠ v.ownBlock
structure RQ (e : TypeId) (sz off : Nat) (X : World → (Nat → Prop) → Prop) (w wr : World) (TB : Nat) (cs : Array Value) (v : Value) (j : Nat) (xs : List Value) : Prop where
  own : wr.ownsRow (w.heap.size + 1) e sz v j xs
  bx : wr.heap[TB]? = some (.cells (cs.setIfInBounds off v) 34 (0, 0))
  ne : v.ownBlock ≠ some TB
  tb : w.heap.size + 1 ≤ TB ∧ TB < wr.heap.size
  rb : ∃ z, z.size = 18 ∧ wr.heap[w.heap.size]? = some (.cells z 34 (0, 0))
  bel : Below w.heap.size w wr
  x : X wr (AB w wr TB v)

theorem RQ.step {e : TypeId} {sz off : Nat} {X X' : World → (Nat → Prop) → Prop} {w wr : World} {TB : Nat} {cs : Array Value} {v : Value} {j : Nat} {xs : List Value} (h : RQ e sz off X w wr TB cs v j xs) (hst : ∀ {W W' : World} {S S' : Nat → Prop}, X' W S → Same S W W' → (∀ k, S k → S' k) → X' W' S')
    {W2 w3 : World} {ys : List Value} {g' c' m : Nat} (b2 : Below wr.heap.size wr W2) (hx : X' W2 (fun k => AB w wr TB v k ∨ Fr wr W2 k)) (n3 : w3.ownsRow (w.heap.size + 1) e sz (.slice (some ⟨g', 0, none⟩) m c') m ys) (g3 : W2.grownBy w3 v.ownBlock) (o3 : v.ownBlock = some g' ∨ g' = W2.heap.size) :
    w3.heap[TB]? = some (.cells (cs.setIfInBounds off v) 34 (0, 0)) ∧ RQ e sz off X' w (w3.setCell ⟨TB, off, none⟩ (.slice (some ⟨g', 0, none⟩) m c')) TB cs (.slice (some ⟨g', 0, none⟩) m c') m ys := by
  have z2 := b2.size
  have z3 := g3.size
  have tb := h.tb
  have hbz := h.bel.size
  have on := h.own.lt
  have lg := n3.lt g' rfl
  have hvT : some TB ≠ v.ownBlock := fun e => h.ne e.symm
  have hv0 : some w.heap.size ≠ v.ownBlock := fun e => by have := on _ e.symm; omega
  have k3 : ∀ k, k < W2.heap.size → some k ≠ v.ownBlock → w3.heap[k]? = W2.heap[k]? := fun k h1 h2 => g3.block k h1 h2
  have bx3 : w3.heap[TB]? = some (.cells (cs.setIfInBounds off v) 34 (0, 0)) := by rw [k3 TB (by omega) hvT, b2.block TB (by omega)]; exact h.bx
  have hgT : g' ≠ TB := fun e => by
    rcases o3 with e' | e'
    · exact hvT (by rw [e', e])
    · omega
  refine ⟨bx3, ?_⟩
  obtain ⟨w4, hw4⟩ : ∃ w4, w4 = w3.setCell ⟨TB, off, none⟩ (.slice (some ⟨g', 0, none⟩) m c') := ⟨_, rfl⟩
  have oth : ∀ k, k ≠ TB → w4.heap[k]? = w3.heap[k]? := fun k hk => by rw [hw4, heap_setCell_other _ _ _ _ (by show k ≠ _; exact hk)]
  have sz4 : w4.heap.size = w3.heap.size := by rw [hw4]; simp
  obtain ⟨z, hz, hr⟩ := h.rb
  rw [← hw4]
  refine ⟨⟨n3.1, ?_⟩, ?_, ?_, ⟨tb.1, by omega⟩, ⟨z, hz, ?_⟩, ?_, ?_⟩
  · rcases n3.2 with hn | ⟨g0, cap, cur, e0, hb0, hc, r⟩
    · exact .inl hn
    · refine .inr ⟨g0, cap, cur, e0, hb0, ?_, r⟩
      have : g0 = g' := by injection e0 with e1; injection e1 with e1; injection e1 with e1; exact e1.symm
      rw [oth g0 (by omega)]; exact hc
  · rw [hw4]
    have := heap_setCell_same w3 TB off _ _ (.slice (some ⟨g', 0, none⟩) m c') bx3
    rw [this]
    simp
  · simp only [Value.ownBlock]; intro e; injection e with e; exact hgT e
  · rw [oth _ (by omega), k3 _ (by omega) hv0, b2.block _ (by omega)]; exact hr
  · have hb3 : Below w.heap.size w w3 := (h.bel.trans (b2.mono hbz)).grown g3 (by omega) (fun k e => by have := on k e; omega)
    rw [hw4]; exact hb3.setCell (p := ⟨TB, off, none⟩) (by show w.heap.size ≤ TB; omega) _
  · refine hst hx (fun k hk => ?_) (fun k hk => ?_)
    · rcases hk with ⟨h1, h2, h3, h4⟩ | hk
      · rw [oth k h3, k3 k (by omega) h4]
      · have hk1 := hk.1
        have hk2 := hk.2
        rw [oth k (by omega), k3 k hk2 (fun e => by have := on k e.symm; omega)]
    · rcases hk with ⟨h1, h2, h3, h4⟩ | hk
      · refine ⟨h1, by omega, h3, ?_⟩
        simp only [Value.ownBlock]; intro e; injection e with e
        rcases o3 with e' | e'
        · exact h4 (by rw [e', e])
        · omega
      · have hk1 := hk.1
        have hk2 := hk.2
        refine ⟨by omega, by omega, by omega, ?_⟩
        simp only [Value.ownBlock]; intro e; injection e with e
        rcases o3 with e' | e'
        · have := on g' e'; omega
        · omega

theorem bsl_up {P : Program} {Q : Exit → Act → World → Prop} {K : Act → World → Prop} {a : Act} {w w' : World} {ops : Array Oper} {d : Option Tmp} {ty T : TypeId} {n : Nat} {parts : Array (Nat × Operand)} {vs : Array (Nat × Value)} {ps : String} {af : Array Edge} {gd : Option (Nat × Bool)} {v : Value} {Z : Prop}
    (hw : Region.wanted (Oper.mk d (.buildSlice ty n parts) T ps af gd) (yielded ops a.tmps) = true) (hx : (parts.toList.map fun x => (x.1, a.eval x.2)) = vs.toList) (hl : (Instr.buildSlice ty n vs).run P w = .ok v w') (h : K (a.put d v) w') :
    if Region.wanted (Oper.mk d (.buildSlice ty n parts) T ps af gd) (yielded ops a.tmps) = true then Oper.wp P (Oper.mk d (.buildSlice ty n parts) T ps af gd) a w K Q else Z := by
  rw [if_pos hw]
  have hy : (parts.map fun (i, x) => (i, a.eval x)) = vs := Array.ext' (by rw [Array.toList_map]; exact hx)
  unfold Oper.wp execOp
  simp only [hy, Sem.run_bind, Result.andThen_ok, hl]
  exact h
theorem flat18 : (xs : List (Array Value)) → (∀ c ∈ xs, c.size = 18) → ∀ i c, xs[i]? = some c → ∀ x, x < 18 → (xs.flatMap (·.toList))[i * 18 + x]? = c[x]?
  | [], _, i, c, h, _, _ => by simp at h
  | d :: xs, hs, 0, c, h, x, hx => by
    simp at h; subst h
    have := hs d (by simp)
    rw [List.flatMap_cons, List.getElem?_append_left (by simp; omega)]
    simp
  | d :: xs, hs, i + 1, c, h, x, hx => by
    have hd := hs d (by simp)
    rw [List.flatMap_cons, List.getElem?_append_right (by simp; omega)]
    have := flat18 xs (fun c hc => hs c (by simp [hc])) i c (by simpa using h) x hx
    rw [← this]
    congr 1
    simp [hd]; omega
def TyL.PIn (W : World) (S : Nat → Prop) : TyL → List (Array Value) → Prop
  | .nil, [] => True
  | .cons t l, c :: cs => t.In W S c ∧ l.PIn W S cs
  | _, _ => False
theorem TyL.PIn_snoc {W : World} {S : Nat → Prop} {t : Ty} {c : Array Value} (ht : t.In W S c) : (l : TyL) → ∀ cs, l.PIn W S cs → (l.app (.cons t .nil)).PIn W S (cs ++ [c])
  | .nil, [], _ => ⟨ht, trivial⟩
  | .nil, _ :: _, h => by simp [TyL.PIn] at h
  | .cons _ _, [], h => by simp [TyL.PIn] at h
  | .cons u l, d :: cs, h => by
    simp only [TyL.PIn] at h
    exact ⟨h.1, TyL.PIn_snoc ht l cs h.2⟩
theorem TyL.PIn_same {W W' : World} {S S' : Nat → Prop} (hs : Same S W W') (hB : ∀ k, S k → S' k) : (l : TyL) → ∀ cs, l.PIn W S cs → l.PIn W' S' cs
  | .nil, [], _ => trivial
  | .nil, _ :: _, h => by simp [TyL.PIn] at h
  | .cons _ _, [], h => by simp [TyL.PIn] at h
  | .cons u l, d :: cs, h => by
    simp only [TyL.PIn] at h ⊢
    exact ⟨u.In_same hs hB d h.1, TyL.PIn_same hs hB l cs h.2⟩
theorem TyL.PIn_len {W : World} {S : Nat → Prop} : (l : TyL) → ∀ cs, l.PIn W S cs → cs.length = l.len ∧ ∀ c ∈ cs, c.size = 18
  | .nil, [], _ => by simp [TyL.len]
  | .nil, _ :: _, h => by simp [TyL.PIn] at h
  | .cons _ _, [], h => by simp [TyL.PIn] at h
  | .cons u l, d :: cs, h => by
    simp only [TyL.PIn] at h
    have ih := TyL.PIn_len l cs h.2
    have hd := (Ty.In_cells h.1).1
    refine ⟨by simp [TyL.len, ih.1], fun c hc => ?_⟩
    rcases List.mem_cons.1 hc with rfl | hc
    · exact hd
    · exact ih.2 c hc
theorem TyL.PIn_in {W : World} {S : Nat → Prop} {g o : Nat} (hg : S g) : (l : TyL) → ∀ cs j, l.PIn W S cs → (∀ i c, cs[i]? = some c → ∀ x, x < 18 → W.cell? ⟨g, o + (j + i) * 18 + x, none⟩ = c[x]?) → l.In W S (some ⟨g, o, none⟩) j
  | .nil, _, _, _, _ => by simp [TyL.In]
  | .cons _ _, [], _, h, _ => by simp [TyL.PIn] at h
  | .cons t l, c :: cs, j, h, hc => by
    simp only [TyL.PIn] at h
    simp only [TyL.In]
    refine ⟨g, o, c, rfl, hg, fun x hx => by have := hc 0 c (by simp) x hx; simpa using this, h.1, TyL.PIn_in hg l cs (j + 1) h.2 (fun i d hi x hx => ?_)⟩
    have := hc (i + 1) d (by simpa using hi) x hx
    rw [show j + 1 + i = j + (i + 1) by omega]; exact this
theorem TyL.al_app : (a a' b b' : TyL) → a.al a' → b.al b' → (a.app b).al (a'.app b')
  | .nil, .nil, b, b', _, h => h
  | .nil, .cons _ _, _, _, h, _ => by simp [TyL.al] at h
  | .cons _ _, .nil, _, _, h, _ => by simp [TyL.al] at h
  | .cons t l, .cons t2 l2, b, b', h, hb => by
    simp only [TyL.al] at h
    simp only [TyL.app, TyL.al]
    exact ⟨h.1, TyL.al_app l l2 b b' h.2 hb⟩
theorem nilB_run (c : Nat) (W : World) : Sem.run Tryz.prog (binOp BinOp.eql 32 (Value.slice none 0 c) (Value.slice none 0 0)) W = .ok (.bool true) W := by kernel_rfl
theorem someB_run (p : Addr) (n c : Nat) (W : World) : Sem.run Tryz.prog (binOp BinOp.eql 32 (Value.slice (some p) n c) (Value.slice none 0 0)) W = .ok (.bool false) W := by kernel_rfl
theorem appB_zero (ty : TypeId) (g : Nat) (ab : Option Addr) (cb : Nat) (w : World) : (Builtin.append_ #[32, 32] ty #[.slice (some ⟨g, 0, none⟩) 0 0, .slice ab 0 cb]).run Tryz.prog w = .ok (.slice (some ⟨g, 0, none⟩) 0 0) w := by
  cases ab <;> kernel_rfl
theorem Tryz.infoBl : (Tryz.prog.info? 4).map (fun i => (i.zero, i.size, i.bytes)) = some (some (.bool false), 1, 1) := by kernel_rfl
theorem Tryz.undBl : Tryz.prog.underlying 32 = some (.slice 4) := by kernel_rfl

set_option maxRecDepth 100000 in
set_option maxHeartbeats 1000000 in
theorem boolClone_any (l : List Bool) (ak : Option Addr) (ck : Nat) (B : Nat → Prop) (w : World) (hB : Sub B w) (hl : BoolsAt w B ak l) (hlen : l.length ≤ 1000000) :
    Calls Tryz.prog 58 #[.slice ak l.length ck] w fun e w' => ∃ a cap, e = .returned (.slice a l.length cap) ∧ Below w.heap.size w w' ∧ BoolsAt w' (Fr w w') a l := by
  obtain ⟨i0, hi, hz0, hz1, hz2⟩ := info_parts Tryz.infoBl
  by_cases h0 : l = []
  · subst h0
    have hl' : Hid (∀ W S a, BoolsAt W S a []) := fun W S a j s hj => by simp at hj
    clear hl hlen
    simp only [List.length_nil]
    cases ak with
    | none =>
      have hnil := nilB_run ck
      go_enter Tryz.func58, Tryz.ntmps58
      go_wp2_with fail
      go_ret
      exact ⟨_, _, rfl, Below.refl _ _, hl'.out _ _ _⟩
    | some p =>
      have hnil := someB_run p 0 ck
      go_enter Tryz.func58, Tryz.ntmps58
      go_wp2_with (at_builtin; refine wpList_ran _ rfl _ _ 32 rfl _ _ _ _ rfl rfl (appB_zero _ _ _ _ _) ?_)
      go_ret
      exact ⟨_, _, rfl, (Below.refl _ _).alloc (Nat.le_refl _) _, hl'.out _ _ _⟩
  · have hpos : 0 < l.length := List.length_pos_iff.2 h0
    obtain ⟨g, o, rfl, hg, -⟩ := hl 0 (l[0]'hpos) (List.getElem?_eq_getElem hpos)
    have hgl := hB _ hg
    have hc' : Hid (∀ W, Below w.heap.size w W → ∀ j u, (l.map Value.bool)[j]? = some u → W.cell? ((⟨g, o, none⟩ : Addr).add j) = some u) := fun W hW j u hj => by
      rw [List.getElem?_map] at hj
      cases hb : l[j]? with
      | none => rw [hb] at hj; simp at hj
      | some s =>
        rw [hb] at hj; simp at hj; subst hj
        obtain ⟨g', o', e, -, hc⟩ := hl j s hb
        simp only [Option.some.injEq, Addr.mk.injEq, and_true] at e
        obtain ⟨rfl, rfl⟩ := e
        rw [addr_add, hW.cell (p := ⟨g, o + j, none⟩) hgl]; exact hc
    have h1 : ∀ u ∈ l.map Value.bool, u.oneCell' = true := fun u hu => by
      simp only [List.mem_map] at hu
      obtain ⟨s, -, rfl⟩ := hu
      rfl
    obtain ⟨n, hn⟩ : ∃ n, n = l.length := ⟨_, rfl⟩
    have HN : Hid (n = l.length) := hn
    rw [← hn] at hpos hlen ⊢
    clear hl h0 hn
    have hnil := someB_run ⟨g, o, none⟩ n ck
    go_enter Tryz.func58, Tryz.ntmps58
    go_wp2_with (at_builtin; refine wpList_app _ rfl _ _ 32 rfl w.heap.size 4 i0 (.bool false) 1 1 Tryz.undBl hi hz0 hz1 hz2 rfl (by decide) _ 0 [] rfl ⟨rfl, .inr ⟨w.heap.size, 0, #[], rfl, Nat.le_refl _, heap_alloc_new w (.cells #[] 4), Nat.le_refl _, by simp [maxLen], rfl, rfl⟩⟩ ⟨g, o, none⟩ n ck (l.map Value.bool) rfl (by rw [HN.out]; simp) (hc'.out _ ((Below.refl _ _).alloc (Nat.le_refl _) _)) h1 hpos (by unfold maxLen; omega) (by omega) (by simp) ?_; intro g' cap' w3 hown' hgrow ho; have H3 : Hid (w3.ownsRow w.heap.size 4 1 (.slice (some ⟨g', 0, none⟩) (0 + n) cap') (0 + n) ([] ++ l.map Value.bool) ∧ Below w.heap.size w w3) := ⟨hown', ((Below.refl _ _).alloc (Nat.le_refl _) _).grown hgrow (by simp) (fun k e => by have e' : some w.heap.size = some k := e; injection e' with e'; omega)⟩; clear hown' hgrow ho)
    go_wp2_with fail
    go_ret
    refine ⟨some ⟨g', 0, none⟩, cap', by simp, H3.out.2, fun j s hj => ?_⟩
    have hlt := H3.out.1.lt g' rfl
    have hc2 := H3.out.1.cells (g := g') rfl j (.bool s) (by simp [hj])
    rw [addr_add] at hc2
    exact ⟨g', 0, rfl, ⟨by omega, hlt.2⟩, hc2⟩
end Go.Proofs.YtjdjpbdfchhcfaaGreat

/- check.typeOf of dicts: the walk; of every value that can be. -/
namespace Go.Proofs.YtjdjpbdfchhcfaaGreat
open Go.RowKit

theorem Tryz.infoBo : (Tryz.prog.info? 4).map (fun i => (i.zero, i.size, i.bytes)) = some (some (.bool false), 1, 1) := by kernel_rfl
theorem Tryz.undBs : Tryz.prog.underlying 32 = some (.slice 4) := by kernel_rfl
theorem str_one (n : ByteArray) : ∀ u ∈ [Value.string n], u.oneCell' = true := fun u hu => by simp at hu; subst hu; rfl
theorem ptr_one1 (b : Nat) : ∀ u ∈ [ptr b], u.oneCell' = true := fun u hu => by simp at hu; subst hu; rfl

theorem DQ.mid {L : Nat} {w wr : World} {vn vp : Value} {j : Nat} {ns : List ByteArray} {bs : List Nat} {T : TyL} (h : DQ L w wr vn vp j ns bs T) {W2 w3 : World} {n : ByteArray} {v : Value} (b2 : Below wr.heap.size wr W2) (hx : W2.heap[wr.heap.size]? = some (.cells #[.string n, v] 126 (0, 0))) (hz : W2.heap.size = wr.heap.size + 2) (g3 : W2.grownBy w3 vn.ownBlock) :
    w3.cell? ⟨wr.heap.size, 0, none⟩ = some (.string n) ∧ w3.cell? ⟨wr.heap.size, 1, none⟩ = some v ∧ w3.cell? ⟨w.heap.size + 1, 4, none⟩ = some vp ∧ w3.cell? ⟨w.heap.size + 1, 5, none⟩ = some vn ∧ Below w.heap.size w w3 ∧ w3.ownsRow (w.heap.size + 2) 60 1 vp j (bs.map ptr) ∧ wr.heap.size + 2 ≤ w3.heap.size := by
  obtain ⟨on, op⟩ := h.own
  have z0 := h.sz
  have z3 := g3.size
  have x3 : w3.heap[wr.heap.size]? = some (.cells #[.string n, v] 126 (0, 0)) := by
    rw [g3.block _ (by omega) (fun e => by have := on _ e.symm; omega)]; exact hx
  have y3 := h.bx
  rw [← b2.block (w.heap.size + 1) (by omega), ← g3.block (w.heap.size + 1) (by omega) (fun e => by have := on _ e.symm; omega)] at y3
  refine ⟨by rw [cell_of_row _ _ _ _ _ _ x3]; rfl, by rw [cell_of_row _ _ _ _ _ _ x3]; rfl, by rw [cell_of_row _ _ _ _ _ _ y3]; rfl, by rw [cell_of_row _ _ _ _ _ _ y3]; rfl, (h.bel.trans (b2.mono h.bel.size)).grown g3 (by omega) (fun k e => by have := on k e; omega), (owns_below b2 h.prow).kept g3 ?_, by omega⟩
  cases hv : vp.ownBlock with
  | none => exact .inl rfl
  | some k => exact .inr (fun e => h.apart k e.symm hv)
theorem DQ.names {L : Nat} {w wr : World} {vn vp : Value} {j : Nat} {ns : List ByteArray} {bs : List Nat} {T : TyL} (h : DQ L w wr vn vp j ns bs T) (hs : ∀ s ∈ ns, s.size ≤ 140737488355328) : ∃ an cn, vn = .slice an ns.length cn ∧ NamesAt wr (Fr w wr) an ns := by
  have hl := h.nrow.1
  simp at hl
  rcases h.nrow.2 with ⟨rfl, h0⟩ | ⟨g, cap, cur, rfl, hg, -⟩
  · have : ns = [] := List.eq_nil_of_length_eq_zero (by omega)
    subst this
    exact ⟨none, 0, rfl, fun j s hj => by simp at hj⟩
  · refine ⟨some ⟨g, 0, none⟩, cap, by rw [hl], fun i s hi => ?_⟩
    have hc := h.nrow.cells (g := g) rfl i (.string s) (by simp [hi])
    rw [addr_add] at hc
    exact ⟨g, 0, rfl, ⟨by omega, (h.nrow.lt g rfl).2⟩, hc, hs s (List.mem_of_getElem? hi)⟩
theorem DQ.parts {L : Nat} {w wr : World} {vn vp : Value} {j : Nat} {ns : List ByteArray} {bs : List Nat} {T : TyL} (h : DQ L w wr vn vp j ns bs T) : ∃ ap cp, vp = .slice ap T.len cp ∧ T.Sh wr (Fr w wr) ap 0 := by
  have hl := h.prow.1
  have hp := TyL.Pl_len _ _ h.pl
  simp at hl
  have hpl : T.Pl wr (Fr w wr) bs := TyL.Pl_same (Same.refl _ _) (fun k hk => ⟨by have := hk.1; omega, hk.2.1⟩) _ _ h.pl
  rcases h.prow.2 with ⟨rfl, h0⟩ | ⟨g, cap, cur, rfl, hg, -⟩
  · have h1 : T.len = 0 := by omega
    refine ⟨none, 0, by rw [h1], ?_⟩
    cases T with
    | nil => simp [TyL.Sh]
    | cons _ _ => simp [TyL.len] at h1
  · have hlt := h.prow.lt g rfl
    exact ⟨some ⟨g, 0, none⟩, cap, by rw [← hp, hl], own_sh (by rw [← hl] at h; simpa [hl] using h.prow) ⟨by omega, hlt.2⟩ hpl⟩
theorem DQ.lacks {L : Nat} {w wr : World} {vn vp : Value} {j : Nat} {ns : List ByteArray} {bs : List Nat} {T : TyL} (h : DQ L w wr vn vp j ns bs T) : BoolsAt wr (Fr w wr) (some ⟨w.heap.size, 0, none⟩) (List.replicate L false) := fun i s hi => by
  have hi' : i < L := by
    have := (List.getElem?_eq_some_iff.1 hi).1
    simpa using this
  have hs : s = false := by rw [List.getElem?_replicate, if_pos hi'] at hi; injection hi with hi; exact hi.symm
  subst hs
  refine ⟨w.heap.size, 0, rfl, ⟨Nat.le_refl _, by have := h.sz; omega⟩, ?_⟩
  rw [Nat.zero_add, cell_of_row _ _ _ _ _ _ h.lk, List.getElem?_toArray, List.getElem?_replicate, if_pos hi']

theorem TmF.names_small : (l : TmF) → ∀ (a : Option Addr) (j : Nat) (w : World) (B : Nat → Prop), l.V w B a j → l.len ≤ 4096 → Sp.named ByteArray.empty l.names = true → ∀ s ∈ l.names, s.size ≤ 140737488355328 := fun l a j w B _ _ hn s hs => by
  have : ∀ (L : List ByteArray) (a : ByteArray), Sp.named a L = true → ∀ s ∈ L, s.size ≤ 32 := by
    intro L
    induction L with
    | nil => intro a _ s hs; simp at hs
    | cons x L ih =>
      intro a hn s hs
      simp only [Sp.named, Bool.and_eq_true] at hn
      rcases List.mem_cons.1 hs with rfl | hs
      · have := hn.1.1; simp only [Sp.isNm, Bool.and_eq_true, decide_eq_true_eq] at this; exact this.1.2
      · exact ih x hn.2 s hs
  have := this l.names _ hn s hs
  omega

set_option maxRecDepth 100000 in
set_option maxHeartbeats 4000000 in
theorem typ_dict (N : Nat) (HC : TypC N) (F : TmF) (hN : F.sz ≤ N) (hgd : F.gd) (hlen : F.len ≤ 4096) (hsm : ∀ s ∈ F.names, s.size ≤ 140737488355328) (a : Option Addr) (cap B : Nat) (w : World) (hB : B ≤ w.heap.size) (hF : F.V w (Lo B) a 0) :
    Calls Tryz.prog 36 #[.iface 73 (.slice a F.len cap)] w fun e w' => ∃ b, e = .returned (.pointer (some ⟨b, 0, none⟩)) ∧ Below w.heap.size w w' ∧ (tyFs F.names F.typF).orA.Sh w' (Fr w w') b := by
  obtain ⟨i0, hi, hz0, hz1, hz2⟩ := info_parts Tryz.infoS
  obtain ⟨i1, ki, kz0, kz1, kz2⟩ := info_parts Tryz.infoP
  have HCH : Hid (TypC N) := HC
  have HL : Hid (F.V w (Lo B) a 0 ∧ F.gd ∧ B ≤ w.heap.size ∧ ∀ s ∈ F.names, s.size ≤ 140737488355328) := ⟨hF, hgd, hB, hsm⟩
  clear HC hF hgd hB hsm
  obtain ⟨i2, mi, mz0, mz1, mz2⟩ := info_parts Tryz.infoBo
  have hmake : ∀ W : World, (Instr.makeSlice 32 (.int .i64 (F.len : Int)) (.int .i64 (F.len : Int))).run Tryz.prog W = .ok (.slice (some ⟨W.heap.size, 0, none⟩) F.len F.len) (W.alloc (.cells (List.replicate F.len (Value.bool false)).toArray 4)) := fun W => by
    have h := run_make (P := Tryz.prog) W 32 4 i2 (.bool false) Tryz.undBs mi mz0 .i64 .i64 (F.len : Int) (F.len : Int) (by omega) (by omega) (by rw [mz2]; omega) (by omega)
    have e : madeCells (Value.bool false).cells (((F.len : Nat) : Int).toNat * i2.size) = (List.replicate F.len (Value.bool false)).toArray := by
      rw [mz1]; simp [madeCells, Value.cells, Array.ext_iff, Nat.mod_one]
    rw [e] at h; simpa using h
  have H0 : Hid (DQ F.len w ((w.alloc (.cells (List.replicate F.len (Value.bool false)).toArray 4)).alloc (.cells #[.int .i64 6, .int .i64 0, .nilIface, .int .i64 0, .slice none 0 0, .slice none 0 0, .slice (some ⟨w.heap.size, 0, none⟩) F.len F.len, .bool false, .string ByteArray.empty, .int .i64 0, .int .i64 0] 102)) (.slice none 0 0) (.slice none 0 0) 0 [] [] .nil) := by
    have hb := boxes_at (w := w) (o := .cells (List.replicate F.len (Value.bool false)).toArray 4) (p := .cells #[.int .i64 6, .int .i64 0, .nilIface, .int .i64 0, .slice none 0 0, .slice none 0 0, .slice (some ⟨w.heap.size, 0, none⟩) F.len F.len, .bool false, .string ByteArray.empty, .int .i64 0, .int .i64 0] 102) (Below.refl _ _)
    exact ⟨⟨rfl, .inl ⟨rfl, rfl⟩⟩, ⟨rfl, .inl ⟨rfl, rfl⟩⟩, fun k e => by simp [Value.ownBlock] at e, trivial, hb.2.2.1, hb.1, hb.2.1, hb.2.2.2⟩
  clear mi mz0 mz1 mz2
  go_enter Tryz.func36, Tryz.ntmps36
  go_wp2_with fail
  go_loopw [44] (fun i wr => ∃ (j : Nat) (l : TmF) (vn vp : Value) (ns : List ByteArray) (bs : List Nat) (T : TyL), i = .int .i64 (j : Int) ∧ l.len + j = F.len ∧ l.sz ≤ N ∧ Hid (DQ F.len w wr vn vp j ns bs T ∧ F.names = ns ++ l.names ∧ F.typF = T.app l.typF ∧ l.gd ∧ l.V w (Lo B) a j)) (fun i _ => F.len - (intOf i).toNat)
  case atStart => exact ⟨0, F, _, _, [], [], .nil, rfl, rfl, hN, ⟨H0.out, rfl, rfl, HL.out.2.1, HL.out.1⟩⟩
  case round =>
    obtain ⟨j, l, vn, vp, ns, bs, T, rfl, hj, hlN, HK⟩ := hrel
    clear H0 hmake
    cases l with
    | nil =>
      have hj' : F.len ≤ j := by simp [TmF.len] at hj; omega
      obtain ⟨hq, e1, e2, -, -⟩ := HK.out
      have e1 : F.names = ns := by simpa [TmF.names] using e1
      have e2 : F.typF = T := by rw [e2]; exact TyL.app_nil T
      have hns : ns.length = F.len := by rw [← e1, TmF.names_len]
      obtain ⟨an, cn, rfl, hna⟩ := hq.names (by rw [← e1]; exact HL.out.2.2.2)
      obtain ⟨ap, cp, rfl, hpa⟩ := hq.parts
      have hTl : T.len = F.len ∧ T.cnt ≤ 16384 * F.len ∧ T.dep ≤ 64 := by rw [← e2]; exact (TmF.typF_ok F HL.out.2.1).2
      rw [hns, hTl.1] at hq
      have hbx := hq.bx
      have HLd : Hid ((loadVar 102 ⟨w.heap.size + 1, 0, none⟩).run Tryz.prog wr = .ok (.agg #[.int .i64 6, .int .i64 0, .nilIface, .int .i64 0, .slice ap F.len cp, .slice an F.len cn, .slice (some ⟨w.heap.size, 0, none⟩) F.len F.len, .bool false, .string ByteArray.empty, .int .i64 0, .int .i64 0]) wr) := sld rfl hbx
      have HQ : Hid (Below w.heap.size w wr ∧ T.Sh wr (Fr w wr) ap 0 ∧ NamesAt wr (Fr w wr) an ns ∧ BoolsAt wr (Fr w wr) (some ⟨w.heap.size, 0, none⟩) (List.replicate F.len false) ∧ F.names = ns ∧ F.typF = T ∧ ns.length = F.len ∧ T.len = F.len ∧ T.cnt ≤ 16384 * F.len ∧ T.dep ≤ 64) := ⟨hq.bel, hpa, hna, hq.lacks, e1, e2, hns, hTl⟩
      clear hq e1 e2 hns hna hpa hTl hbx hj HK HCH
      go_wp2_with ((with_reducible refine ld_row ?_ ?_ HLd.out ?_); rfl; rfl)
      have hM := made_any (.int .i64 6) (.int .i64 0) .nilIface (.int .i64 0) ap T cp (.slice an F.len cn) (.slice (some ⟨w.heap.size, 0, none⟩) F.len F.len) (.bool false) (.string ByteArray.empty) (.int .i64 0) (.int .i64 0) (Fr w wr) wr (fun k hk => hk.2) HQ.out.2.1 (by rw [HQ.out.2.2.2.2.2.2.2.1]; omega) (by have := HQ.out.2.2.2.2.2.2.2.2.1; omega) (by have := HQ.out.2.2.2.2.2.2.2.2.2; omega)
      rw [HQ.out.2.2.2.2.2.2.2.1] at hM
      refine hM.mono ?_
      rintro e w3 ⟨rfl, hb3, hz3, hbx3⟩
      have hbw3 : Below w.heap.size w w3 := HQ.out.1.trans (hb3.mono HQ.out.1.size)
      have hzw := HQ.out.1.size
      have up : ∀ k, Fr w wr k → Fr w w3 k := fun k hk => ⟨hk.1, Nat.lt_of_lt_of_le hk.2 hb3.size⟩
      have sm : Same (Fr w wr) wr w3 := fun k hk => hb3.block k hk.2
      have hls : (tyFs ns T).Sh w3 (Fr w w3) wr.heap.size := by
        refine sh_dict (ap := ap) (an := an) (ak := some ⟨w.heap.size, 0, none⟩) (cp := cp) (cn := cn) (ck := F.len) ⟨by omega, by omega⟩ (by rw [HQ.out.2.2.2.2.2.2.2.1]; omega) (TyL.Sh_same sm up _ _ _ HQ.out.2.1) (HQ.out.2.2.1.same sm up) (by rw [HQ.out.2.2.2.2.2.2.1]; exact HQ.out.2.2.2.1.same sm up) ?_
        rw [HQ.out.2.2.2.2.2.2.1, HQ.out.2.2.2.2.2.2.2.1]; exact hbx3
      have HO2 : Hid (Calls Tryz.prog 70 #[.pointer (some ⟨wr.heap.size, 0, none⟩)] w3 fun e w' => ∃ b', e = .returned (.pointer (some ⟨b', 0, none⟩)) ∧ Below w3.heap.size w3 w' ∧ (tyFs ns T).orA.Sh w' (BF (Fr w w3) w3 w') b') := orAny_any (tyFs ns T) wr.heap.size (Fr w w3) w3 (fun k hk => hk.2) hls
      have HBW : Hid (Below w.heap.size w w3) := hbw3
      clear hb3 hz3 hbx3 hbw3 up sm hls hM HLd
      go_wp2_with fail
      refine HO2.out.mono ?_
      rintro e w4 ⟨b', rfl, hb4, hs4⟩
      have HF : Hid (Below w.heap.size w w4 ∧ (tyFs F.names F.typF).orA.Sh w4 (Fr w w4) b') := by
        refine ⟨HBW.out.trans (hb4.mono HBW.out.size), ?_⟩
        rw [HQ.out.2.2.2.2.1, HQ.out.2.2.2.2.2.1]
        have h1 := HBW.out.size
        exact Ty.Sh_same (Same.refl _ _) (fun k hk => by
          rcases hk with hk | hk
          · exact ⟨hk.1, Nat.lt_of_lt_of_le hk.2 hb4.size⟩
          · exact ⟨Nat.le_trans h1 hk.1, hk.2⟩) _ _ hs4
      clear hb4 hs4 HBW HO2
      go_wp2_with fail
      go_ret
      exact ⟨_, rfl, HF.out⟩
    | cons n t l =>
      obtain ⟨hq, e1, e2, hgl, hvl⟩ := HK.out
      simp only [TmF.V] at hvl
      obtain ⟨g, o', v', rfl, hg, hc, hd, hns, hv, hvl'⟩ := hvl
      have hj1 : j < F.len := by simp [TmF.len] at hj; omega
      have HJ : Hid (l.len + (j + 1) = F.len) := by show _ = _; simp [TmF.len] at hj; omega
      have hN1 : t.sz ≤ N ∧ l.sz ≤ N := by simp [TmF.sz] at hlN; omega
      have hBw := HL.out.2.2.1
      have hbw := hq.bel
      have hzw := hbw.size
      have hszr := hq.sz
      have hsame : Same (Lo B) w wr := fun k hk => hbw.block k (Nat.lt_of_lt_of_le hk hBw)
      have hgw : g < w.heap.size := Nat.lt_of_lt_of_le hg hBw
      have d0 : wr.cell? ⟨g, o' + j * 2, none⟩ = some (.string n) := by rw [hsame.cell (p := ⟨g, o' + j * 2, none⟩) hg]; exact hc
      have d1 : wr.cell? ⟨g, o' + j * 2 + 1, none⟩ = some v' := by rw [hsame.cell (p := ⟨g, o' + j * 2 + 1, none⟩) hg]; exact hd
      have HT : Hid (∀ W, Below w.heap.size w W → Calls Tryz.prog 36 #[v'] W (TypE t W)) := fun W hW => HCH.out t hN1.1 hgl.1 v' B W (Nat.le_trans hBw hW.size) (t.V_same (fun k hk => hW.block k (Nat.lt_of_lt_of_le hk hBw)) (fun _ h => h) v' hv)
      have hi0 : (0 : Int) ≤ (j : Int) := Int.natCast_nonneg _
      have hi1 : (j : Int) < (F.len : Int) := by omega
      have HN2 : Hid (F.names = ns ++ n :: l.names ∧ F.typF = T.app (.cons t.typ l.typF) ∧ l.gd ∧ l.V w (Lo B) (some ⟨g, o', none⟩) (j + 1)) := ⟨e1, e2, hgl.2, hvl'⟩
      have HQ : Hid (DQ F.len w wr vn vp j ns bs T) := hq
      have hsh := t.V_shape v' hv
      obtain ⟨q4, q5⟩ : wr.cell? ⟨w.heap.size + 1, 4, none⟩ = some vp ∧ wr.cell? ⟨w.heap.size + 1, 5, none⟩ = some vn := ⟨by rw [cell_of_row _ _ _ _ _ _ hq.bx]; rfl, by rw [cell_of_row _ _ _ _ _ _ hq.bx]; rfl⟩
      have HB2 : Hid (Below wr.heap.size wr ((wr.alloc (.cells #[.string n, v'] 126)).alloc (.cells #[.string n] 9)).drew) := (((Below.refl _ _).alloc (Nat.le_refl _) _).alloc (by simp) _).drew
      have HX2 : Hid (((wr.alloc (.cells #[.string n, v'] 126)).alloc (.cells #[.string n] 9)).drew.heap[wr.heap.size]? = some (.cells #[.string n, v'] 126 (0, 0)) ∧ ((wr.alloc (.cells #[.string n, v'] 126)).alloc (.cells #[.string n] 9)).drew.heap[wr.heap.size + 1]? = some (.cells #[.string n] 9 (0, 0)) ∧ ((wr.alloc (.cells #[.string n, v'] 126)).alloc (.cells #[.string n] 9)).drew.heap.size = wr.heap.size + 2) := by
        refine ⟨?_, ?_, ?_⟩
        · show ((wr.alloc _).alloc _).heap[wr.heap.size]? = _
          rw [Below.heap_alloc _ _ _ (by simp)]; exact heap_alloc_new wr _
        · show ((wr.alloc _).alloc _).heap[wr.heap.size + 1]? = _
          have := heap_alloc_new (wr.alloc (.cells #[.string n, v'] 126)) (.cells #[.string n] 9)
          simpa using this
        · show ((wr.alloc _).alloc _).heap.size = _
          simp
      have r5 : (wr.alloc (.cells #[.string n, v'] 126)).cell? ⟨w.heap.size + 1, 5, none⟩ = some vn := by rw [Below.cell ((Below.refl wr.heap.size wr).alloc (Nat.le_refl _) _) (p := ⟨w.heap.size + 1, 5, none⟩) (by show w.heap.size + 1 < _; omega)]; exact q5
      have r4 : (wr.alloc (.cells #[.string n, v'] 126)).cell? ⟨w.heap.size + 1, 4, none⟩ = some vp := by rw [Below.cell ((Below.refl wr.heap.size wr).alloc (Nat.le_refl _) _) (p := ⟨w.heap.size + 1, 4, none⟩) (by show w.heap.size + 1 < _; omega)]; exact q4
      have r4b : ((wr.alloc (.cells #[.string n, v'] 126)).alloc (.cells #[.string n] 9)).cell? ⟨w.heap.size + 1, 4, none⟩ = some vp := by rw [Below.cell (((Below.refl wr.heap.size wr).alloc (Nat.le_refl _) _).alloc (by simp) _) (p := ⟨w.heap.size + 1, 4, none⟩) (by show w.heap.size + 1 < _; omega)]; exact q4
      have r5b : ((wr.alloc (.cells #[.string n, v'] 126)).alloc (.cells #[.string n] 9)).cell? ⟨w.heap.size + 1, 5, none⟩ = some vn := by rw [Below.cell (((Below.refl wr.heap.size wr).alloc (Nat.le_refl _) _).alloc (by simp) _) (p := ⟨w.heap.size + 1, 5, none⟩) (by show w.heap.size + 1 < _; omega)]; exact q5
      have HH2 : Hid (((wr.alloc (.cells #[.string n, v'] 126)).alloc (.cells #[.string n] 9)).drew.cell? ⟨wr.heap.size, 0, none⟩ = some (.string n) ∧ ((wr.alloc (.cells #[.string n, v'] 126)).alloc (.cells #[.string n] 9)).drew.cell? ⟨wr.heap.size, 1, none⟩ = some v' ∧ ((wr.alloc (.cells #[.string n, v'] 126)).alloc (.cells #[.string n] 9)).drew.cell? ⟨w.heap.size + 1, 4, none⟩ = some vp ∧ ((wr.alloc (.cells #[.string n, v'] 126)).alloc (.cells #[.string n] 9)).drew.cell? ⟨w.heap.size + 1, 5, none⟩ = some vn) := ⟨by rw [cell_of_row _ _ _ _ _ _ HX2.out.1]; rfl, by rw [cell_of_row _ _ _ _ _ _ HX2.out.1]; rfl, r4b, r5b⟩
      obtain ⟨on, op⟩ := hq.own
      have HOW : Hid ((∀ k, vn.ownBlock = some k → w.heap.size + 2 ≤ k ∧ k < wr.heap.size) ∧ (∀ k, vp.ownBlock = some k → w.heap.size + 2 ≤ k ∧ k < wr.heap.size)) := ⟨on, op⟩
      clear hq e1 e2 hgl hvl' hbw hsame hv hc hd hj HK hlN hBw hns on op
      rcases hsh with rfl | ⟨Tx, y, rfl⟩
      · go_wp2_with fail
        refine wp_region_mark (fun W => W.cell? ⟨wr.heap.size, 0, none⟩ = some (.string n) ∧ W.cell? ⟨wr.heap.size, 1, none⟩ = some (.nilIface) ∧ W.cell? ⟨w.heap.size + 1, 4, none⟩ = some vp ∧ W.cell? ⟨w.heap.size + 1, 5, none⟩ = some vn) 14 (by kernel_rfl) ?_
        have hHeld : ((wr.alloc (.cells #[.string n, .nilIface] 126)).drew).cell? ⟨wr.heap.size, 0, none⟩ = some (.string n) ∧ ((wr.alloc (.cells #[.string n, .nilIface] 126)).drew).cell? ⟨wr.heap.size, 1, none⟩ = some (.nilIface) ∧ ((wr.alloc (.cells #[.string n, .nilIface] 126)).drew).cell? ⟨w.heap.size + 1, 4, none⟩ = some vp ∧ ((wr.alloc (.cells #[.string n, .nilIface] 126)).drew).cell? ⟨w.heap.size + 1, 5, none⟩ = some vn := ⟨by show (wr.alloc _).cell? _ = _; rw [cell_of_row _ _ _ _ _ _ (heap_alloc_new wr _)]; rfl, by show (wr.alloc _).cell? _ = _; rw [cell_of_row _ _ _ _ _ _ (heap_alloc_new wr _)]; rfl, r4, r5⟩
        refine tkF (i := 0) (v := ?_) rfl (by kernel_rfl) (by rfl) ?_ (.inr (by assumption)) ?_
        rotate_left
        · intro w hSw; go_simp; try (with_reducible rfl)
        simp only [Act.put, lsA, lsB, lsC]
        refine tkM (i := 1) (v := ?_) [12, 10, 5] rfl (by kernel_rfl) (by rfl) ?_ (by assumption) ?_
        rotate_left
        · intro w hSw; (try dsimp only at hSw); go_simp; try (with_reducible rfl)
        simp only [Act.put, lsA, lsB, lsC]
        refine tkF (i := 2) (v := ?_) rfl (by kernel_rfl) (by rfl) ?_ (.inr (by assumption)) ?_
        rotate_left
        · intro w hSw; go_simp; try (with_reducible rfl)
        simp only [Act.put, lsA, lsB, lsC]
        refine tkM (i := 3) (v := ?_) [12, 10, 5, 4] rfl (by kernel_rfl) (by rfl) ?_ (by assumption) ?_
        rotate_left
        · intro w hSw; (try dsimp only at hSw); go_simp; try (with_reducible rfl)
        simp only [Act.put, lsA, lsB, lsC]
        refine tkF (i := 6) (v := ?_) rfl (by kernel_rfl) (by rfl) ?_ (.inr (by assumption)) ?_
        rotate_left
        · intro w hSw; go_simp; try (with_reducible rfl)
        simp only [Act.put, lsA, lsB, lsC]
        refine tkM (i := 7) (v := ?_) [12] rfl (by kernel_rfl) (by rfl) ?_ (by assumption) ?_
        rotate_left
        · intro w hSw; (try dsimp only at hSw); go_simp; try (with_reducible rfl)
        simp only [Act.put, lsA, lsB, lsC]
        refine tkF (i := 8) (v := ?_) rfl (by kernel_rfl) (by rfl) ?_ (.inr (by assumption)) ?_
        rotate_left
        · intro w hSw; go_simp; try (with_reducible rfl)
        simp only [Act.put, lsA, lsB, lsC]
        refine tkM (i := 9) (v := ?_) [12, 10] rfl (by kernel_rfl) (by rfl) ?_ (by assumption) ?_
        rotate_left
        · intro w hSw; (try dsimp only at hSw); go_simp; try (with_reducible rfl)
        simp only [Act.put, lsA, lsB, lsC]
        refine tkO (i := 4) (by kernel_rfl) rfl (fun K hK => ?_)
        go_simp
        have hH2 : (((wr.alloc (.cells #[.string n, .nilIface] 126)).alloc (.cells #[.string n] 9)).drew).cell? ⟨wr.heap.size, 0, none⟩ = some (.string n) ∧ (((wr.alloc (.cells #[.string n, .nilIface] 126)).alloc (.cells #[.string n] 9)).drew).cell? ⟨wr.heap.size, 1, none⟩ = some (.nilIface) ∧ (((wr.alloc (.cells #[.string n, .nilIface] 126)).alloc (.cells #[.string n] 9)).drew).cell? ⟨w.heap.size + 1, 4, none⟩ = some vp ∧ (((wr.alloc (.cells #[.string n, .nilIface] 126)).alloc (.cells #[.string n] 9)).drew).cell? ⟨w.heap.size + 1, 5, none⟩ = some vn := HH2.out
        clear hHeld
        have hHeld := hH2
        refine hK.out _ _ (.inr hHeld) ?_
        clear hK K hH2
        refine tkO (i := 5) (by kernel_rfl) rfl (fun K hK => ?_)
        refine step_append_lies _ (by rfl) _ _ 31 (by rfl) (w.heap.size + 2) 9 i0 _ 1 16 Tryz.undStr hi hz0 hz1 hz2 rfl (by omega) vn j (ns.map Value.string) (by rfl) (owns_below HB2.out HQ.out.nrow) ⟨wr.heap.size + 1, 0, none⟩ 1 1 [.string n] (by rfl) (by rfl) (block_cells HX2.out.2.1) (str_one n) (by omega) (by unfold maxLen; omega) (by omega) (by rw [HX2.out.2.2]; omega) (wr.heap.size + 2) HX2.out.2.2 ?_
        intro g' c' w3 hown3 hgrow3 hor3 hlt3
        obtain ⟨f30, f31, f34, f35, hb3, hp3, hz3⟩ := HQ.out.mid HB2.out HX2.out.1 HX2.out.2.2 hgrow3
        have HB3 : Hid (Below w.heap.size w w3) := hb3
        have HP3 : Hid (w3.ownsRow (w.heap.size + 2) 60 1 vp j (bs.map ptr)) := hp3
        rw [← HX2.out.2.2] at hor3
        have H3 : Hid (w3.ownsRow (w.heap.size + 2) 9 1 (.slice (some ⟨g', 0, none⟩) (j + 1) c') (j + 1) (ns.map Value.string ++ [.string n])) := hown3
        have HG3 : Hid _ := hgrow3
        have HO3 : Hid _ := hor3
        clear hown3 hgrow3 hor3 hb3 hp3
        clear hHeld
        have hHeld := show (w3).cell? ⟨wr.heap.size, 0, none⟩ = some (.string n) ∧ (w3).cell? ⟨wr.heap.size, 1, none⟩ = some (.nilIface) ∧ (w3).cell? ⟨w.heap.size + 1, 4, none⟩ = some vp ∧ (w3).cell? ⟨w.heap.size + 1, 5, none⟩ = some vn from ⟨f30, f31, f34, f35⟩
        refine hK.out _ _ (.inr hHeld) ?_
        clear hK K
        clear f30 f31 f34 f35
        simp only [Act.put, lsA, lsB, lsC]
        refine tkF (i := 13) (v := ?_) rfl (by kernel_rfl) (by rfl) ?_ (.inr (by assumption)) ?_
        rotate_left
        · intro w hSw; go_simp; try (with_reducible rfl)
        simp only [Act.put, lsA, lsB, lsC]
        refine tkO (i := 10) (by kernel_rfl) rfl (fun K hK => ?_)
        go_simp
        refine (HT.out _ HB3.out).mono ?_
        rintro e w4 ⟨b, rfl, hb4, hs4⟩
        have hz4 := hb4.size
        have H4 : Hid (Below w3.heap.size w3 w4 ∧ t.typ.Sh w4 (Fr w3 w4) b) := ⟨hb4, hs4⟩
        have hH4 : (w4).cell? ⟨wr.heap.size, 0, none⟩ = some (.string n) ∧ (w4).cell? ⟨wr.heap.size, 1, none⟩ = some (.nilIface) ∧ (w4).cell? ⟨w.heap.size + 1, 4, none⟩ = some vp ∧ (w4).cell? ⟨w.heap.size + 1, 5, none⟩ = some vn := ⟨by rw [hb4.cell (p := ⟨wr.heap.size, 0, none⟩) (by show wr.heap.size < _; omega)]; exact hHeld.1, by rw [hb4.cell (p := ⟨wr.heap.size, 1, none⟩) (by show wr.heap.size < _; omega)]; exact hHeld.2.1, by rw [hb4.cell (p := ⟨w.heap.size + 1, 4, none⟩) (by show w.heap.size + 1 < _; omega)]; exact hHeld.2.2.1, by rw [hb4.cell (p := ⟨w.heap.size + 1, 5, none⟩) (by show w.heap.size + 1 < _; omega)]; exact hHeld.2.2.2⟩
        clear hb4 hs4
        go_wp2_with fail
        clear hHeld
        have hHeld := hH4
        refine hK.out _ _ (.inr hHeld) ?_
        clear hK K
        clear hH4
        refine tkO (i := 11) (by kernel_rfl) rfl (fun K hK => ?_)
        go_simp
        have hH5 : (w4.alloc (.cells #[.pointer (some ⟨b, 0, none⟩)] 60)).cell? ⟨wr.heap.size, 0, none⟩ = some (.string n) ∧ (w4.alloc (.cells #[.pointer (some ⟨b, 0, none⟩)] 60)).cell? ⟨wr.heap.size, 1, none⟩ = some (.nilIface) ∧ (w4.alloc (.cells #[.pointer (some ⟨b, 0, none⟩)] 60)).cell? ⟨w.heap.size + 1, 4, none⟩ = some vp ∧ (w4.alloc (.cells #[.pointer (some ⟨b, 0, none⟩)] 60)).cell? ⟨w.heap.size + 1, 5, none⟩ = some vn := ⟨by rw [World.cell?_alloc_some _ _ _ (by rw [hHeld.1]; rfl)]; exact hHeld.1, by rw [World.cell?_alloc_some _ _ _ (by rw [hHeld.2.1]; rfl)]; exact hHeld.2.1, by rw [World.cell?_alloc_some _ _ _ (by rw [hHeld.2.2.1]; rfl)]; exact hHeld.2.2.1, by rw [World.cell?_alloc_some _ _ _ (by rw [hHeld.2.2.2]; rfl)]; exact hHeld.2.2.2⟩
        clear hHeld
        have hHeld := hH5
        refine hK.out _ _ (.inr hHeld) ?_
        clear hK K
        clear hH5
        refine tkO (i := 12) (by kernel_rfl) rfl (fun K hK => ?_)
        refine step_append_lies _ (by rfl) _ _ 100 (by rfl) (w.heap.size + 2) 60 i1 _ 1 8 Tryz.undP ki kz0 kz1 kz2 rfl (by omega) vp j (bs.map ptr) (by rfl) ((owns_below H4.out.1 HP3.out).alloc _) ⟨w4.heap.size, 0, none⟩ 1 1 [ptr b] (by rfl) (by rfl) (block_cells (heap_alloc_new w4 _)) (ptr_one1 b) (by omega) (by unfold maxLen; omega) (by omega) (by simp; omega) (w4.heap.size + 1) (by simp) ?_
        intro g'' c'' w6 hown6 hgrow6 hor6 hlt6
        have HST := HQ.out.step HB2.out H3.out HG3.out HO3.out H4.out.1 H4.out.2 ((Below.refl _ _).alloc (Nat.le_refl _) _) hown6 hgrow6 (by simpa using hor6)
        have bx6 := HST.1
        have hg6 : ∀ p : Addr, p.block = wr.heap.size → w6.cell? p = (w4.alloc (.cells #[.pointer (some ⟨b, 0, none⟩)] 60)).cell? p := fun p hp => World.cell?_of_block (by rw [hp]; exact hgrow6.block _ (by simp; omega) (fun e => by have := HOW.out.2 _ e.symm; omega))
        have hH6 : (w6).cell? ⟨wr.heap.size, 0, none⟩ = some (.string n) ∧ (w6).cell? ⟨wr.heap.size, 1, none⟩ = some (.nilIface) ∧ (w6).cell? ⟨w.heap.size + 1, 4, none⟩ = some vp ∧ (w6).cell? ⟨w.heap.size + 1, 5, none⟩ = some vn := ⟨(hg6 _ rfl).trans hHeld.1, (hg6 _ rfl).trans hHeld.2.1, by rw [cell_of_row _ _ _ _ _ _ bx6]; rfl, by rw [cell_of_row _ _ _ _ _ _ bx6]; rfl⟩
        have z64 := Lib.frozen_of_heap bx6 4
        have z65 := Lib.frozen_of_heap bx6 5
        have HS6 : Hid _ := HST.2
        clear hown6 hgrow6 hor6 bx6 HST hg6
        clear hHeld
        have hHeld := hH6
        refine hK.out _ _ (.inr hHeld) ?_
        clear hK K
        have f64 := hHeld.2.2.1
        have f65 := hHeld.2.2.2
        simp only [Act.put, lsA, lsB, lsC]
        refine tkO (i := 14) (by kernel_rfl) rfl (fun K hK => ?_)
        go_simp
        refine hK.out _ _ (.inl (by kernel_rfl)) ?_
        clear hK K
        refine tkF (i := 15) (v := ?_) rfl (by kernel_rfl) (by rfl) ?_ (.inl (by kernel_rfl)) ?_
        rotate_left
        · intro w hSw; go_simp; try (with_reducible rfl)
        simp only [Act.put, lsA, lsB, lsC]
        refine tkO (i := 16) (by kernel_rfl) rfl (fun K hK => ?_)
        go_simp
        refine hK.out _ _ (.inl (by kernel_rfl)) ?_
        clear hK K
        refine wpAnyM_done (by kernel_rfl) ?_ _
        go_wp2_with fail
        go_roundw
        case rel => exact ⟨j + 1, l, _, _, ns ++ [n], bs ++ [b], T.app (.cons t.typ .nil), by go_num, HJ.out, hN1.2, ⟨HS6.out, by rw [HN2.out.1]; simp, by rw [HN2.out.2.1, TyL.app_assoc]; rfl, HN2.out.2.2.1, HN2.out.2.2.2⟩⟩
        case measure => simp [intOf]; omega
      · go_wp2_with fail
        refine wp_region_mark (fun W => W.cell? ⟨wr.heap.size, 0, none⟩ = some (.string n) ∧ W.cell? ⟨wr.heap.size, 1, none⟩ = some (.iface Tx y) ∧ W.cell? ⟨w.heap.size + 1, 4, none⟩ = some vp ∧ W.cell? ⟨w.heap.size + 1, 5, none⟩ = some vn) 14 (by kernel_rfl) ?_
        have hHeld : ((wr.alloc (.cells #[.string n, .iface Tx y] 126)).drew).cell? ⟨wr.heap.size, 0, none⟩ = some (.string n) ∧ ((wr.alloc (.cells #[.string n, .iface Tx y] 126)).drew).cell? ⟨wr.heap.size, 1, none⟩ = some (.iface Tx y) ∧ ((wr.alloc (.cells #[.string n, .iface Tx y] 126)).drew).cell? ⟨w.heap.size + 1, 4, none⟩ = some vp ∧ ((wr.alloc (.cells #[.string n, .iface Tx y] 126)).drew).cell? ⟨w.heap.size + 1, 5, none⟩ = some vn := ⟨by show (wr.alloc _).cell? _ = _; rw [cell_of_row _ _ _ _ _ _ (heap_alloc_new wr _)]; rfl, by show (wr.alloc _).cell? _ = _; rw [cell_of_row _ _ _ _ _ _ (heap_alloc_new wr _)]; rfl, r4, r5⟩
        refine tkF (i := 0) (v := ?_) rfl (by kernel_rfl) (by rfl) ?_ (.inr (by assumption)) ?_
        rotate_left
        · intro w hSw; go_simp; try (with_reducible rfl)
        simp only [Act.put, lsA, lsB, lsC]
        refine tkM (i := 1) (v := ?_) [12, 10, 5] rfl (by kernel_rfl) (by rfl) ?_ (by assumption) ?_
        rotate_left
        · intro w hSw; (try dsimp only at hSw); go_simp; try (with_reducible rfl)
        simp only [Act.put, lsA, lsB, lsC]
        refine tkF (i := 2) (v := ?_) rfl (by kernel_rfl) (by rfl) ?_ (.inr (by assumption)) ?_
        rotate_left
        · intro w hSw; go_simp; try (with_reducible rfl)
        simp only [Act.put, lsA, lsB, lsC]
        refine tkM (i := 3) (v := ?_) [12, 10, 5, 4] rfl (by kernel_rfl) (by rfl) ?_ (by assumption) ?_
        rotate_left
        · intro w hSw; (try dsimp only at hSw); go_simp; try (with_reducible rfl)
        simp only [Act.put, lsA, lsB, lsC]
        refine tkF (i := 6) (v := ?_) rfl (by kernel_rfl) (by rfl) ?_ (.inr (by assumption)) ?_
        rotate_left
        · intro w hSw; go_simp; try (with_reducible rfl)
        simp only [Act.put, lsA, lsB, lsC]
        refine tkM (i := 7) (v := ?_) [12] rfl (by kernel_rfl) (by rfl) ?_ (by assumption) ?_
        rotate_left
        · intro w hSw; (try dsimp only at hSw); go_simp; try (with_reducible rfl)
        simp only [Act.put, lsA, lsB, lsC]
        refine tkF (i := 8) (v := ?_) rfl (by kernel_rfl) (by rfl) ?_ (.inr (by assumption)) ?_
        rotate_left
        · intro w hSw; go_simp; try (with_reducible rfl)
        simp only [Act.put, lsA, lsB, lsC]
        refine tkM (i := 9) (v := ?_) [12, 10] rfl (by kernel_rfl) (by rfl) ?_ (by assumption) ?_
        rotate_left
        · intro w hSw; (try dsimp only at hSw); go_simp; try (with_reducible rfl)
        simp only [Act.put, lsA, lsB, lsC]
        refine tkO (i := 4) (by kernel_rfl) rfl (fun K hK => ?_)
        go_simp
        have hH2 : (((wr.alloc (.cells #[.string n, .iface Tx y] 126)).alloc (.cells #[.string n] 9)).drew).cell? ⟨wr.heap.size, 0, none⟩ = some (.string n) ∧ (((wr.alloc (.cells #[.string n, .iface Tx y] 126)).alloc (.cells #[.string n] 9)).drew).cell? ⟨wr.heap.size, 1, none⟩ = some (.iface Tx y) ∧ (((wr.alloc (.cells #[.string n, .iface Tx y] 126)).alloc (.cells #[.string n] 9)).drew).cell? ⟨w.heap.size + 1, 4, none⟩ = some vp ∧ (((wr.alloc (.cells #[.string n, .iface Tx y] 126)).alloc (.cells #[.string n] 9)).drew).cell? ⟨w.heap.size + 1, 5, none⟩ = some vn := HH2.out
        clear hHeld
        have hHeld := hH2
        refine hK.out _ _ (.inr hHeld) ?_
        clear hK K hH2
        refine tkO (i := 5) (by kernel_rfl) rfl (fun K hK => ?_)
        refine step_append_lies _ (by rfl) _ _ 31 (by rfl) (w.heap.size + 2) 9 i0 _ 1 16 Tryz.undStr hi hz0 hz1 hz2 rfl (by omega) vn j (ns.map Value.string) (by rfl) (owns_below HB2.out HQ.out.nrow) ⟨wr.heap.size + 1, 0, none⟩ 1 1 [.string n] (by rfl) (by rfl) (block_cells HX2.out.2.1) (str_one n) (by omega) (by unfold maxLen; omega) (by omega) (by rw [HX2.out.2.2]; omega) (wr.heap.size + 2) HX2.out.2.2 ?_
        intro g' c' w3 hown3 hgrow3 hor3 hlt3
        obtain ⟨f30, f31, f34, f35, hb3, hp3, hz3⟩ := HQ.out.mid HB2.out HX2.out.1 HX2.out.2.2 hgrow3
        have HB3 : Hid (Below w.heap.size w w3) := hb3
        have HP3 : Hid (w3.ownsRow (w.heap.size + 2) 60 1 vp j (bs.map ptr)) := hp3
        rw [← HX2.out.2.2] at hor3
        have H3 : Hid (w3.ownsRow (w.heap.size + 2) 9 1 (.slice (some ⟨g', 0, none⟩) (j + 1) c') (j + 1) (ns.map Value.string ++ [.string n])) := hown3
        have HG3 : Hid _ := hgrow3
        have HO3 : Hid _ := hor3
        clear hown3 hgrow3 hor3 hb3 hp3
        clear hHeld
        have hHeld := show (w3).cell? ⟨wr.heap.size, 0, none⟩ = some (.string n) ∧ (w3).cell? ⟨wr.heap.size, 1, none⟩ = some (.iface Tx y) ∧ (w3).cell? ⟨w.heap.size + 1, 4, none⟩ = some vp ∧ (w3).cell? ⟨w.heap.size + 1, 5, none⟩ = some vn from ⟨f30, f31, f34, f35⟩
        refine hK.out _ _ (.inr hHeld) ?_
        clear hK K
        clear f30 f31 f34 f35
        simp only [Act.put, lsA, lsB, lsC]
        refine tkF (i := 13) (v := ?_) rfl (by kernel_rfl) (by rfl) ?_ (.inr (by assumption)) ?_
        rotate_left
        · intro w hSw; go_simp; try (with_reducible rfl)
        simp only [Act.put, lsA, lsB, lsC]
        refine tkO (i := 10) (by kernel_rfl) rfl (fun K hK => ?_)
        go_simp
        refine (HT.out _ HB3.out).mono ?_
        rintro e w4 ⟨b, rfl, hb4, hs4⟩
        have hz4 := hb4.size
        have H4 : Hid (Below w3.heap.size w3 w4 ∧ t.typ.Sh w4 (Fr w3 w4) b) := ⟨hb4, hs4⟩
        have hH4 : (w4).cell? ⟨wr.heap.size, 0, none⟩ = some (.string n) ∧ (w4).cell? ⟨wr.heap.size, 1, none⟩ = some (.iface Tx y) ∧ (w4).cell? ⟨w.heap.size + 1, 4, none⟩ = some vp ∧ (w4).cell? ⟨w.heap.size + 1, 5, none⟩ = some vn := ⟨by rw [hb4.cell (p := ⟨wr.heap.size, 0, none⟩) (by show wr.heap.size < _; omega)]; exact hHeld.1, by rw [hb4.cell (p := ⟨wr.heap.size, 1, none⟩) (by show wr.heap.size < _; omega)]; exact hHeld.2.1, by rw [hb4.cell (p := ⟨w.heap.size + 1, 4, none⟩) (by show w.heap.size + 1 < _; omega)]; exact hHeld.2.2.1, by rw [hb4.cell (p := ⟨w.heap.size + 1, 5, none⟩) (by show w.heap.size + 1 < _; omega)]; exact hHeld.2.2.2⟩
        clear hb4 hs4
        go_wp2_with fail
        clear hHeld
        have hHeld := hH4
        refine hK.out _ _ (.inr hHeld) ?_
        clear hK K
        clear hH4
        refine tkO (i := 11) (by kernel_rfl) rfl (fun K hK => ?_)
        go_simp
        have hH5 : (w4.alloc (.cells #[.pointer (some ⟨b, 0, none⟩)] 60)).cell? ⟨wr.heap.size, 0, none⟩ = some (.string n) ∧ (w4.alloc (.cells #[.pointer (some ⟨b, 0, none⟩)] 60)).cell? ⟨wr.heap.size, 1, none⟩ = some (.iface Tx y) ∧ (w4.alloc (.cells #[.pointer (some ⟨b, 0, none⟩)] 60)).cell? ⟨w.heap.size + 1, 4, none⟩ = some vp ∧ (w4.alloc (.cells #[.pointer (some ⟨b, 0, none⟩)] 60)).cell? ⟨w.heap.size + 1, 5, none⟩ = some vn := ⟨by rw [World.cell?_alloc_some _ _ _ (by rw [hHeld.1]; rfl)]; exact hHeld.1, by rw [World.cell?_alloc_some _ _ _ (by rw [hHeld.2.1]; rfl)]; exact hHeld.2.1, by rw [World.cell?_alloc_some _ _ _ (by rw [hHeld.2.2.1]; rfl)]; exact hHeld.2.2.1, by rw [World.cell?_alloc_some _ _ _ (by rw [hHeld.2.2.2]; rfl)]; exact hHeld.2.2.2⟩
        clear hHeld
        have hHeld := hH5
        refine hK.out _ _ (.inr hHeld) ?_
        clear hK K
        clear hH5
        refine tkO (i := 12) (by kernel_rfl) rfl (fun K hK => ?_)
        refine step_append_lies _ (by rfl) _ _ 100 (by rfl) (w.heap.size + 2) 60 i1 _ 1 8 Tryz.undP ki kz0 kz1 kz2 rfl (by omega) vp j (bs.map ptr) (by rfl) ((owns_below H4.out.1 HP3.out).alloc _) ⟨w4.heap.size, 0, none⟩ 1 1 [ptr b] (by rfl) (by rfl) (block_cells (heap_alloc_new w4 _)) (ptr_one1 b) (by omega) (by unfold maxLen; omega) (by omega) (by simp; omega) (w4.heap.size + 1) (by simp) ?_
        intro g'' c'' w6 hown6 hgrow6 hor6 hlt6
        have HST := HQ.out.step HB2.out H3.out HG3.out HO3.out H4.out.1 H4.out.2 ((Below.refl _ _).alloc (Nat.le_refl _) _) hown6 hgrow6 (by simpa using hor6)
        have bx6 := HST.1
        have hg6 : ∀ p : Addr, p.block = wr.heap.size → w6.cell? p = (w4.alloc (.cells #[.pointer (some ⟨b, 0, none⟩)] 60)).cell? p := fun p hp => World.cell?_of_block (by rw [hp]; exact hgrow6.block _ (by simp; omega) (fun e => by have := HOW.out.2 _ e.symm; omega))
        have hH6 : (w6).cell? ⟨wr.heap.size, 0, none⟩ = some (.string n) ∧ (w6).cell? ⟨wr.heap.size, 1, none⟩ = some (.iface Tx y) ∧ (w6).cell? ⟨w.heap.size + 1, 4, none⟩ = some vp ∧ (w6).cell? ⟨w.heap.size + 1, 5, none⟩ = some vn := ⟨(hg6 _ rfl).trans hHeld.1, (hg6 _ rfl).trans hHeld.2.1, by rw [cell_of_row _ _ _ _ _ _ bx6]; rfl, by rw [cell_of_row _ _ _ _ _ _ bx6]; rfl⟩
        have z64 := Lib.frozen_of_heap bx6 4
        have z65 := Lib.frozen_of_heap bx6 5
        have HS6 : Hid _ := HST.2
        clear hown6 hgrow6 hor6 bx6 HST hg6
        clear hHeld
        have hHeld := hH6
        refine hK.out _ _ (.inr hHeld) ?_
        clear hK K
        have f64 := hHeld.2.2.1
        have f65 := hHeld.2.2.2
        simp only [Act.put, lsA, lsB, lsC]
        refine tkO (i := 14) (by kernel_rfl) rfl (fun K hK => ?_)
        go_simp
        refine hK.out _ _ (.inl (by kernel_rfl)) ?_
        clear hK K
        refine tkF (i := 15) (v := ?_) rfl (by kernel_rfl) (by rfl) ?_ (.inl (by kernel_rfl)) ?_
        rotate_left
        · intro w hSw; go_simp; try (with_reducible rfl)
        simp only [Act.put, lsA, lsB, lsC]
        refine tkO (i := 16) (by kernel_rfl) rfl (fun K hK => ?_)
        go_simp
        refine hK.out _ _ (.inl (by kernel_rfl)) ?_
        clear hK K
        refine wpAnyM_done (by kernel_rfl) ?_ _
        go_wp2_with fail
        go_roundw
        case rel => exact ⟨j + 1, l, _, _, ns ++ [n], bs ++ [b], T.app (.cons t.typ .nil), by go_num, HJ.out, hN1.2, ⟨HS6.out, by rw [HN2.out.1]; simp, by rw [HN2.out.2.1, TyL.app_assoc]; rfl, HN2.out.2.2.1, HN2.out.2.2.2⟩⟩
        case measure => simp [intOf]; omega
end Go.Proofs.YtjdjpbdfchhcfaaGreat

/- check.typeOf of every value that can be. -/
namespace Go.Proofs.YtjdjpbdfchhcfaaGreat
open Go.RowKit

theorem typ_any : ∀ N, TypC N
  | 0 => fun v h => by cases v; simp [Tm.sz] at h
  | N + 1 => fun v hN hg x B w hB hv => by
    cases v with
    | mk k b i f tx by' rf l fs c vr =>
      have hgp := Tm.good_parts hg
      by_cases h8 : k = 8
      · subst h8
        have hv' := hv
        simp only [Tm.V] at hv
        obtain ⟨a, cap, rfl, -, hL⟩ := hv.2.2.2.2.2.2.2.1 trivial
        have hlp := (hgp.1 rfl).2
        have hll := TmL.len_pn l
        refine (typ_list N (typ_any N) l (by simp only [Tm.sz] at hN; omega) (hgp.1 rfl).1 (by omega) a cap B w hB hL).mono ?_
        rintro e w' ⟨q, rfl, h1, h2⟩
        exact ⟨q, rfl, h1, by simpa [Tm.typ] using h2⟩
      by_cases h9 : k = 9
      · subst h9
        have hv' := hv
        simp only [Tm.V] at hv
        obtain ⟨a, cap, rfl, -, hF⟩ := hv.2.2.2.2.2.2.2.2.1 trivial
        have hnm := Tm.good_named hg
        simp only [Sp.namesFit, Bool.and_eq_true] at hnm
        refine (typ_dict N (typ_any N) fs (by simp only [Tm.sz] at hN; omega) (hgp.2 (.inl rfl)).1 (Tm.good_len hg) (TmF.names_small fs a 0 w _ hF (Tm.good_len hg) hnm.2) a cap B w hB hF).mono ?_
        rintro e w' ⟨q, rfl, h1, h2⟩
        exact ⟨q, rfl, h1, by simpa [Tm.typ] using h2⟩
      by_cases h10 : k = 10
      · subst h10
        exact typ_record b i f tx by' rf l fs c vr x (Lo B) w (Sub.lo hB) hv
      · exact typ_leaf _ x (Lo B) w hv hg ⟨h8, h9, h10⟩
end Go.Proofs.YtjdjpbdfchhcfaaGreat

