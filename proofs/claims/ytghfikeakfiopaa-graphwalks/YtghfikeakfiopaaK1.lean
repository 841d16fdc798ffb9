/- Rows of references that are being sorted: what holds of the world meanwhile. -/
import Derived.Test.YtghfikeakfiopaaProg
import Derived.WalkKit
import Derived.WalkSpells
import Derived.WalkLawsBesides
import Derived.Below
import Derived.Sort.Row
import Derived.Sort.AssemblyPlain
import Derived.CellFam
import Derived.BigGuard
import Derived.BigCall
import Derived.BigQuiet
import Derived.Deep.Draws
import Derived.Deep.QuietTactic
import Derived.OwnWalk
import Derived.Deep.AppendSrc
import Derived.Deep.DeepAppendWide
namespace Go.Proofs.Ytghfikeakfiopaa
open Go.RowKit

structure SR (w0 : World) (blk off : Nat) (d0 d : Array Int) (w : World) : Prop where
  sz : d.size = d0.size
  holds : Sort.Holds (Value.int .u64) w blk off d
  os : w.os = w0.os
  tape : w.tape = w0.tape
  output : w.output = w0.output
  size : w0.heap.size ≤ w.heap.size
  block : ∀ j, j < w0.heap.size → j ≠ blk → w.heap[j]? = w0.heap[j]?
  row : ∀ cs e fr, w0.heap[blk]? = some (.cells cs e fr) → ∃ cs', w.heap[blk]? = some (.cells cs' e fr) ∧ cs'.size = cs.size ∧ ∀ k, k < off ∨ off + d0.size ≤ k → cs'[k]? = cs[k]?
  lt : blk < w0.heap.size
section
variable {w0 w w' : World} {blk off : Nat} {d0 d d' : Array Int}
theorem SR.refl (h : Sort.Holds (Value.int .u64) w blk off d) (hb : blk < w.heap.size) : SR w blk off d d w := ⟨rfl, h, rfl, rfl, rfl, Nat.le_refl _, fun _ _ _ => rfl, fun cs _ _ h => ⟨cs, h, rfl, fun _ _ => rfl⟩, hb⟩
theorem SR.trans (h : SR w0 blk off d0 d w) (k : SR w blk off d d' w') : SR w0 blk off d0 d' w' := ⟨k.sz.trans h.sz, k.holds, k.os.trans h.os, k.tape.trans h.tape, k.output.trans h.output, Nat.le_trans h.size k.size, fun j h1 h2 => (k.block j (Nat.lt_of_lt_of_le h1 h.size) h2).trans (h.block j h1 h2), fun cs e fr h1 => by
    obtain ⟨c1, h2, h3, h4⟩ := h.row cs e fr h1
    obtain ⟨c2, h5, h6, h7⟩ := k.row c1 e fr h2
    exact ⟨c2, h5, h6.trans h3, fun j hj => (h7 j (by rw [h.sz]; exact hj)).trans (h4 j hj)⟩, h.lt⟩
theorem SR.drewN (h : SR w0 blk off d0 d w) (q : Nat) : SR w0 blk off d0 d (w.drewN q) := ⟨h.sz, h.holds, h.os, h.tape, h.output, h.size, h.block, h.row, h.lt⟩
theorem SR.drew (h : SR w0 blk off d0 d w) : SR w0 blk off d0 d w.drew := ⟨h.sz, h.holds, h.os, h.tape, h.output, h.size, h.block, h.row, h.lt⟩
theorem SR.blt (h : SR w0 blk off d0 d w) : blk < w.heap.size := Nat.lt_of_lt_of_le h.lt h.size
theorem SR.alloc (h : SR w0 blk off d0 d w) (o : Obj) : SR w0 blk off d0 d (w.alloc o) := by
  have e : ∀ j, j < w.heap.size → (w.alloc o).heap[j]? = w.heap[j]? := fun j hj => Below.heap_alloc w o j hj
  refine ⟨h.sz, fun j hj => ?_, h.os, h.tape, h.output, by simpa using Nat.le_trans h.size (Nat.le_succ _), fun j h1 h2 => (e j (Nat.lt_of_lt_of_le h1 h.size)).trans (h.block j h1 h2), fun cs ee fr h1 => ?_, h.lt⟩
  · have := h.holds j hj
    rw [World.cell?_of_block (w := w) (e blk h.blt), World.frozen?_of_block (w := w) (e blk h.blt)]; exact this
  · obtain ⟨c1, h2, h3⟩ := h.row cs ee fr h1
    exact ⟨c1, (e blk h.blt).trans h2, h3⟩
theorem SR.new (h : SR w0 blk off d0 d w) {c o : Nat} (hc : w0.heap.size ≤ c) (v : Value) : SR w0 blk off d0 d (w.setCell ⟨c, o, none⟩ v) := by
  have e : ∀ j, j ≠ c → (w.setCell ⟨c, o, none⟩ v).heap[j]? = w.heap[j]? := fun j hj => Below.heap_setCell w _ v j hj
  have hbc : blk ≠ c := fun x => by have := h.lt; omega
  refine ⟨h.sz, fun j hj => ?_, h.os, h.tape, h.output, by simpa [World.setCell] using h.size, fun j h1 h2 => (e j (by omega)).trans (h.block j h1 h2), fun cs ee fr h1 => ?_, h.lt⟩
  · have := h.holds j hj
    rw [World.cell?_of_block (w := w) (e blk hbc), World.frozen?_of_block (w := w) (e blk hbc)]; exact this
  · obtain ⟨c1, h2, h3⟩ := h.row cs ee fr h1
    exact ⟨c1, (e blk hbc).trans h2, h3⟩
theorem SR.set (h : SR w0 blk off d0 d w) {i : Nat} (hi : i < d.size) (x : Int) : SR w0 blk off d0 (d.setIfInBounds i x) (w.setCell ⟨blk, off + i, none⟩ (.int .u64 x)) := by
  have e : ∀ j, j ≠ blk → (w.setCell ⟨blk, off + i, none⟩ (.int .u64 x)).heap[j]? = w.heap[j]? := fun j hj => Below.heap_setCell w _ _ j hj
  refine ⟨by rw [Array.size_setIfInBounds]; exact h.sz, ?_, h.os, h.tape, h.output, by simpa [World.setCell] using h.size, fun j h1 h2 => (e j h2).trans (h.block j h1 h2), fun cs ee fr h1 => ?_, h.lt⟩
  · have e1 := Sort.putRow_set (Value.int .u64) w blk off d i x hi
    rw [Sort.putRow_self _ _ _ _ _ h.holds] at e1
    rw [e1]
    exact Sort.holds_putRow _ _ _ _ d _ h.holds (by simp)
  · obtain ⟨c1, h2, h3, h4⟩ := h.row cs ee fr h1
    refine ⟨c1.setIfInBounds (off + i) (.int .u64 x), ?_, by simpa using h3, fun k hk => ?_⟩
    · rw [Sort.setCell_eq]; show (w.heap.modify blk _)[blk]? = _
      rw [Array.getElem?_modify, if_pos rfl, h2]; rfl
    · rw [Array.getElem?_setIfInBounds, if_neg (by have := h.sz; omega)]; exact h4 k hk
theorem SR.swap (h : SR w0 blk off d0 d w) {i j : Nat} (hi : i < d.size) (hj : j < d.size) : SR w0 blk off d0 (Sort.swp d i j) ((w.setCell ⟨blk, off + i, none⟩ (.int .u64 d[j]!)).setCell ⟨blk, off + j, none⟩ (.int .u64 d[i]!)) :=
  (h.set hi d[j]!).set (by simpa using hj) d[i]!
end
theorem swo_ref : Sort.SWO Sort.ltInt := Sort.swo_ltInt
end Go.Proofs.Ytghfikeakfiopaa

/- Rows of one's own: how they lie, and 'append' of whatever source onto them. -/
namespace Go.Proofs.Ytghfikeakfiopaa
open Go.RowKit

def RowV (w : World) (D : Nat → Prop) (a : Option Addr) (xs : List Value) : Prop := ∀ t x, xs[t]? = some x → ∃ b o, a = some ⟨b, o, none⟩ ∧ D b ∧ w.cell? ⟨b, o + t, none⟩ = some x
theorem RowV.same {w w' : World} {D D' : Nat → Prop} {a : Option Addr} {xs : List Value} (h : RowV w D a xs) (hs : ∀ k, D k → w'.heap[k]? = w.heap[k]?) (hD : ∀ k, D k → D' k) : RowV w' D' a xs := fun t x hx => by
  obtain ⟨b, o, h1, h2, h3⟩ := h t x hx
  exact ⟨b, o, h1, hD b h2, by rw [World.cell?_of_block (w := w) (hs b h2)]; exact h3⟩
theorem RowV.ne {w : World} {D : Nat → Prop} {a : Option Addr} {xs : List Value} (h : RowV w D a xs) (hx : xs ≠ []) : ∃ b o, a = some ⟨b, o, none⟩ ∧ D b ∧ ∀ t x, xs[t]? = some x → w.cell? ⟨b, o + t, none⟩ = some x := by
  cases xs with
  | nil => exact absurd rfl hx
  | cons y l =>
    obtain ⟨b, o, rfl, h2, _⟩ := h 0 y rfl
    refine ⟨b, o, rfl, h2, fun t x ht => ?_⟩
    obtain ⟨b', o', e, _, h4⟩ := h t x ht
    simp at e
    obtain ⟨rfl, rfl⟩ := e
    exact h4
structure OwnR (w : World) (e : TypeId) (g n cap : Nat) (xs : List Value) : Prop where
  len : xs.length = n
  blk : ∃ cur : Array Value, w.heap[g]? = some (.cells cur e (0, 0)) ∧ n ≤ cap ∧ cap ≤ maxLen ∧ cur.size = cap ∧ xs = cur.toList.take n
theorem OwnR.of {w : World} {e : TypeId} {g n cap base : Nat} {xs : List Value} (h : w.ownsRow base e 1 (.slice (some ⟨g, 0, none⟩) n cap) n xs) : OwnR w e g n cap xs := by
  obtain ⟨h0, h⟩ := h
  rcases h with ⟨e1, _⟩ | ⟨g1, cap1, cur, e1, hbg, hg, hnc, hcm, hcs, htake⟩
  · simp at e1
  · simp only [Value.slice.injEq, Option.some.injEq, Addr.mk.injEq, and_true, true_and] at e1
    obtain ⟨rfl, rfl⟩ := e1
    exact ⟨by simpa using h0, cur, hg, hnc, hcm, by simpa using hcs, by simpa using htake.symm⟩
theorem OwnR.lt {w : World} {e : TypeId} {g n cap : Nat} {xs : List Value} (h : OwnR w e g n cap xs) : g < w.heap.size := by
  obtain ⟨cur, h1, _⟩ := h.blk
  exact (Array.getElem?_eq_some_iff.1 h1).1
theorem OwnR.cell {w : World} {e : TypeId} {g n cap : Nat} {xs : List Value} (h : OwnR w e g n cap xs) {t : Nat} {x : Value} (ht : xs[t]? = some x) : w.cell? ⟨g, t, none⟩ = some x := by
  obtain ⟨cur, h1, h2, h3, h4, h5⟩ := h.blk
  rw [h5, List.getElem?_take] at ht
  split at ht
  · simpa [World.cell?, h1] using ht
  · cases ht
theorem OwnR.free {w : World} {e : TypeId} {g n cap : Nat} {xs : List Value} (h : OwnR w e g n cap xs) (t : Nat) : w.frozen? ⟨g, t, none⟩ = false := by
  obtain ⟨cur, h1, _⟩ := h.blk
  simp [World.frozen?, h1]
theorem OwnR.keep {w w' : World} {e : TypeId} {g n cap : Nat} {xs : List Value} (h : OwnR w e g n cap xs) (hb : w'.heap[g]? = w.heap[g]?) : OwnR w' e g n cap xs := by
  obtain ⟨cur, h1, h2⟩ := h.blk
  exact ⟨h.len, cur, hb.trans h1, h2⟩
theorem OwnR.set {w : World} {e : TypeId} {g n cap : Nat} {xs : List Value} (h : OwnR w e g n cap xs) (t : Nat) (x : Value) : OwnR (w.setCell ⟨g, t, none⟩ x) e g n cap (xs.set t x) := by
  obtain ⟨cur, h1, h2, h3, h4, h5⟩ := h.blk
  refine ⟨by simpa using h.len, cur.setIfInBounds t x, ?_, h2, h3, by simpa using h4, ?_⟩
  · rw [Sort.setCell_eq]; show (w.heap.modify g _)[g]? = _
    rw [Array.getElem?_modify, if_pos rfl, h1]; rfl
  · rw [h5, Array.toList_setIfInBounds, List.take_set]
theorem OwnR.row {w : World} {e : TypeId} {g n cap : Nat} {xs : List Value} {D : Nat → Prop} (h : OwnR w e g n cap xs) (hD : D g) : RowV w D (some ⟨g, 0, none⟩) xs := fun t x hx => ⟨g, 0, rfl, hD, by simpa using h.cell hx⟩
theorem OwnR.alloc0 (w : World) (e : TypeId) : OwnR (w.alloc (.cells #[] e)) e w.heap.size 0 0 [] := ⟨rfl, #[], heap_alloc_new w _, Nat.le_refl _, by simp [maxLen], rfl, rfl⟩
theorem OwnR.holds {w : World} {e : TypeId} {g n cap : Nat} {l : List Int} (h : OwnR w e g n cap (l.map (Value.int .u64))) : Sort.Holds (Value.int .u64) w g 0 l.toArray := fun j hj => by
  have hj' : j < l.length := by simpa using hj
  refine ⟨?_, h.free _⟩
  rw [Nat.zero_add]
  rw [h.cell (t := j) (x := .int .u64 l[j]) (by simp [hj'])]
  simp [hj']

theorem addN (b o n : Nat) : (⟨b, o, none⟩ : Addr).add n = ⟨b, o + n, none⟩ := by
  unfold Addr.add; split
  · subst_vars; rfl
  · rfl
theorem run_appS {P : Program} (w : World) (t tx ty e : TypeId) (i : TypeInfo) (z : Value) (bytes : Nat) (ht : P.underlying t = some (.slice e)) (hi : P.info? e = some i) (hz : i.zero = some z)
    (hsize : i.size = 1) (hby : i.bytes = bytes) (hzs : z.cells.size = 1) (g n cap : Nat) (xs : List Value) (hown : OwnR w e g n cap xs)
    (x : Value) (m : Nat) (news : List Value) (hs : Src P 1 tx x m news w) (hbytes : ((n + m) + (n + m) / 4 + 192) * bytes ≤ 281474976710656) (hb1 : 1 ≤ bytes) :
    ∃ g' cap' w', (Builtin.append_ #[t, tx] ty #[.slice (some ⟨g, 0, none⟩) n cap, x]).run P w = .ok (.slice (some ⟨g', 0, none⟩) (n + m) cap') w' ∧ OwnR w' e g' (n + m) cap' (xs ++ news) ∧ w.grownBy w' (some g) ∧ (g' = g ∨ g' = w.heap.size) := by
  have hnm : n + m ≤ 281474976710656 := by
    have : (n + m) * 1 ≤ ((n + m) + (n + m) / 4 + 192) * bytes := Nat.mul_le_mul (by omega) hb1
    omega
  have h63 : n + m ≤ maxLen := by simp only [maxLen]; omega
  subst hby
  have hl : (xs ++ news).length = n + m := by rw [List.length_append, hown.len, hs.newsLen, Nat.mul_one]
  obtain ⟨cur, hg, hnc, hcm, hcs, htake⟩ := hown.blk
  by_cases hroom : n + m ≤ cap
  · have hnl : news.length = m := by rw [hs.newsLen, Nat.mul_one]
    have hst := run_storeCells_at P g n e news 0 cur w hg (by omega) hs.one
    simp only [Nat.add_zero] at hst
    have hr : (Builtin.append_ #[t, tx] ty #[.slice (some ⟨g, 0, none⟩) n cap, x]).run P w = .ok (.slice (some ⟨g, 0, none⟩) (n + m) cap) (w.setRow g (cur.toList.take n ++ news ++ cur.toList.drop (n + news.length)).toArray) := by
      rcases hs.kind with ⟨e', hk⟩ | hk <;> simp [Builtin.append_, run_underlying ht, run_underlying hk, sizeOf, typeInfo, hi, hsize, hs.len, hroom, hs.cells, Addr.add_lit, hst]
    refine ⟨g, cap, _, hr, ⟨hl, _, setRow_heap w g cur _ e _ hg, hroom, hcm, ?_, ?_⟩, ⟨rfl, rfl, rfl, by simp, fun k _ hk => setRow_other w g k _ (fun e => hk (by rw [e]))⟩, .inl rfl⟩
    · simp only [List.size_toArray, List.length_append, List.length_take, List.length_drop, Array.length_toList]
      omega
    · have e : cur.toList.take n ++ news ++ cur.toList.drop (n + news.length) = (xs ++ news) ++ cur.toList.drop (n + news.length) := by rw [htake]
      rw [e, ← hl]; exact List.take_left.symm
  · have holds : ∀ j u, xs[j]? = some u → w.cell? ((⟨g, 0, none⟩ : Addr).add j) = some u := fun j u hj => by rw [addN, Nat.zero_add]; exact hown.cell hj
    have hold : (Builtin.firstCells i.size n (.slice (some ⟨g, 0, none⟩) n cap)).run P w.drew = .ok xs.toArray w.drew := run_firstCells_some w.drew i.size n ⟨g, 0, none⟩ n cap xs (by rw [hsize, Nat.mul_one]; exact hown.len) (by simpa using holds)
    have hr := run_append_grow_src (P := P) w t tx ty e i z ht hi hz (some ⟨g, 0, none⟩) n cap xs hold x m news (by rw [hsize]; exact hs) (by omega) (by simp only [maxLen] at h63; omega) (growslice_fits_wide (by omega) hbytes)
    have hge := grownCap_ge w (n + m) cap e
    have hcm' : grownCap w (n + m) cap e ≤ maxLen := grownCap_le_maxLen w (n + m) cap e h63
    refine ⟨w.heap.size, _, _, hr, ⟨hl, _, heap_alloc_new w.drew _, hge, hcm', ?_, ?_⟩, ⟨rfl, rfl, rfl, by simp, fun k hk _ => heap_alloc_old w.drew _ hk⟩, .inr rfl⟩
    · simp only [Array.size_append, List.size_toArray, size_zeroCells, hzs, hl]
      omega
    · simp only [Array.toList_append]
      rw [← hl]
      exact List.take_left.symm
theorem wpList_appS {P : Program} (w : World) {ops : Array Oper} {rest : List Oper} {o : Oper} {a : Act} {Q : Exit → Act → World → Prop} (hgd : o.guard = none) (s x : Operand) (t tx : TypeId)
    (ho : o.op = .call { callee := .builtin .append, args := #[s, x], argTypes := #[t, tx] })
    (e : TypeId) (i : TypeInfo) (z : Value) (bytes : Nat) (ht : P.underlying t = some (.slice e)) (hi : P.info? e = some i) (hz : i.zero = some z)
    (hsize : i.size = 1) (hby : i.bytes = bytes) (hzs : z.cells.size = 1) (g n cap : Nat) (xs : List Value) (hs : a.eval s = .slice (some ⟨g, 0, none⟩) n cap) (hown : OwnR w e g n cap xs)
    (v : Value) (m : Nat) (news : List Value) (hx : a.eval x = v) (hsrc : Src P 1 tx v m news w) (hbytes : ((n + m) + (n + m) / 4 + 192) * bytes ≤ 281474976710656) (hb1 : 1 ≤ bytes)
    (h : ∀ g' cap' w', OwnR w' e g' (n + m) cap' (xs ++ news) → w.grownBy w' (some g) → (g' = g ∨ g' = w.heap.size) → wpList P ops Q rest (a.put o.dst (.slice (some ⟨g', 0, none⟩) (n + m) cap')) w') : wpList P ops Q (o :: rest) a w := by
  refine wpList_plain hgd fun K hK => ?_
  obtain ⟨g', cap', w', hr, h2, h3, h4⟩ := run_appS (P := P) w t tx o.type e i z bytes ht hi hz hsize hby hzs g n cap xs hown v m news hsrc hbytes hb1
  unfold Oper.wp execOp
  simp only [ho, resolve, invoke, builtin, Sem.run_bind, Sem.run_pure, Result.andThen_ok, List.map_toArray, List.map_cons, List.map_nil, hs, hx, hr]
  exact hK _ _ (h g' cap' w' h2 h3 h4)
theorem wpList_ranS {P : Program} (w : World) {ops : Array Oper} {rest : List Oper} {o : Oper} {a : Act} {Q : Exit → Act → World → Prop} (hgd : o.guard = none) (s x : Operand) (t tx : TypeId)
    (ho : o.op = .call { callee := .builtin .append, args := #[s, x], argTypes := #[t, tx] }) (v y v' : Value) (w' : World) (hs : a.eval s = v) (hx : a.eval x = y)
    (hr : (Builtin.append_ #[t, tx] o.type #[v, y]).run P w = .ok v' w') (h : wpList P ops Q rest (a.put o.dst v') w') : wpList P ops Q (o :: rest) a w := by
  refine wpList_plain hgd fun K hK => ?_
  unfold Oper.wp execOp
  simp only [ho, resolve, invoke, builtin, Sem.run_bind, Sem.run_pure, Result.andThen_ok, List.map_toArray, List.map_cons, List.map_nil, hs, hx, hr]
  exact hK _ _ h
theorem step_ran {P : Program} {w w' : World} {ops : Array Oper} {o : Oper} {a : Act} {K : Act → World → Prop} {Q : Exit → Act → World → Prop} {E : Prop} (hgd : o.guard = none) (s x : Operand) (t tx : TypeId)
    (ho : o.op = .call { callee := .builtin .append, args := #[s, x], argTypes := #[t, tx] }) (v y v' : Value) (hs : a.eval s = v) (hx : a.eval x = y)
    (hr : (Builtin.append_ #[t, tx] o.type #[v, y]).run P w = .ok v' w') (h : K (a.put o.dst v') w') : if Region.wanted o (yielded ops a.tmps) = true then Oper.wp P o a w K Q else E := by
  have hw : Region.wanted o (yielded ops a.tmps) = true := by simp [Region.wanted, hgd]
  rw [if_pos hw]
  unfold Oper.wp execOp
  simp only [ho, resolve, invoke, builtin, Sem.run_bind, Sem.run_pure, Result.andThen_ok, List.map_toArray, List.map_cons, List.map_nil, hs, hx, hr]
  exact h
theorem RowV.src {P : Program} {w : World} {D : Nat → Prop} {a : Option Addr} {xs : List Value} {tx e' : TypeId} (h : RowV w D a xs) (hk : P.underlying tx = some (.slice e')) (c : Nat) (h1 : ∀ u ∈ xs, u.oneCell' = true) (hn : xs = [] → a = none ∨ ∃ b o, a = some ⟨b, o, none⟩) :
    Src P 1 tx (.slice a xs.length c) xs.length xs w := by
  by_cases hx : xs = []
  · rcases hn hx with rfl | ⟨b, o, rfl⟩
    · subst hx; exact Src.ofNil _ hk c
    · subst hx; exact Src.ofSlice _ hk ⟨b, o, none⟩ 0 c [] rfl (fun j u hj => by simp at hj) (fun u hu => by simp at hu)
  · obtain ⟨b, o, rfl, _, h3⟩ := h.ne hx
    exact Src.ofSlice _ hk ⟨b, o, none⟩ xs.length c xs (by simp) (fun j u hj => by rw [addN]; exact h3 j u hj) h1
end Go.Proofs.Ytghfikeakfiopaa

