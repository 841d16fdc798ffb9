/- Rows of one's own: how they lie, and 'append' of whatever source onto them. -/
import Derived.Test.YtikhpbidbcfedaaGreatKp1
import Derived.OwnWalk
import Derived.Deep.AppendSrc
import Derived.Deep.DeepAppendWide
import Derived.Deep.RegionHeld3
import Derived.Maps.Keyed
import Derived.ChangeMaps
namespace Go.Proofs.YtikhpbidbcfedaaGreat
open Go.RowKit

def RowV (w : World) (D : Nat → Prop) (a : Option Addr) (xs : List Value) : Prop := ∀ t x, xs[t]? = some x → ∃ b o, a = some ⟨b, o, none⟩ ∧ D b ∧ w.cell? ⟨b, o + t, none⟩ = some x
theorem RowV.same {w w' : World} {D D' : Nat → Prop} {a : Option Addr} {xs : List Value} (h : RowV w D a xs) (hs : ∀ k, D k → w'.heap[k]? = w.heap[k]?) (hD : ∀ k, D k → D' k) : RowV w' D' a xs := fun t x hx => by
  obtain ⟨b, o, h1, h2, h3⟩ := h t x hx
  exact ⟨b, o, h1, hD b h2, by rw [World.cell?_of_block (w := w) (hs b h2)]; exact h3⟩
theorem RowV.ne {w : World} {D : Nat → Prop} {a : Option Addr} {xs : List Value} (h : RowV w D a xs) (hx : xs ≠ []) : ∃ b o, a = some ⟨b, o, none⟩ ∧ D b ∧ ∀ t x, xs[t]? = some x → w.cell? ⟨b, o + t, none⟩ = some x := by
  cases xs with
  | nil => exact absurd rfl hx
  | cons y l =>
    obtain ⟨b, o, rfl, h2, _⟩ := h 0 y rfl
    refine ⟨b, o, rfl, h2, fun t x ht => ?_⟩
    obtain ⟨b', o', e, _, h4⟩ := h t x ht
    simp at e
    obtain ⟨rfl, rfl⟩ := e
    exact h4
structure OwnR (w : World) (e : TypeId) (g n cap : Nat) (xs : List Value) : Prop where
  len : xs.length = n
  blk : ∃ cur : Array Value, w.heap[g]? = some (.cells cur e (0, 0)) ∧ n ≤ cap ∧ cap ≤ maxLen ∧ cur.size = cap ∧ xs = cur.toList.take n
theorem OwnR.of {w : World} {e : TypeId} {g n cap base : Nat} {xs : List Value} (h : w.ownsRow base e 1 (.slice (some ⟨g, 0, none⟩) n cap) n xs) : OwnR w e g n cap xs := by
  obtain ⟨h0, h⟩ := h
  rcases h with ⟨e1, _⟩ | ⟨g1, cap1, cur, e1, hbg, hg, hnc, hcm, hcs, htake⟩
  · simp at e1
  · simp only [Value.slice.injEq, Option.some.injEq, Addr.mk.injEq, and_true, true_and] at e1
    obtain ⟨rfl, rfl⟩ := e1
    exact ⟨by simpa using h0, cur, hg, hnc, hcm, by simpa using hcs, by simpa using htake.symm⟩
theorem OwnR.lt {w : World} {e : TypeId} {g n cap : Nat} {xs : List Value} (h : OwnR w e g n cap xs) : g < w.heap.size := by
  obtain ⟨cur, h1, _⟩ := h.blk
  exact (Array.getElem?_eq_some_iff.1 h1).1
theorem OwnR.cell {w : World} {e : TypeId} {g n cap : Nat} {xs : List Value} (h : OwnR w e g n cap xs) {t : Nat} {x : Value} (ht : xs[t]? = some x) : w.cell? ⟨g, t, none⟩ = some x := by
  obtain ⟨cur, h1, h2, h3, h4, h5⟩ := h.blk
  rw [h5, List.getElem?_take] at ht
  split at ht
  · simpa [World.cell?, h1] using ht
  · cases ht
theorem OwnR.free {w : World} {e : TypeId} {g n cap : Nat} {xs : List Value} (h : OwnR w e g n cap xs) (t : Nat) : w.frozen? ⟨g, t, none⟩ = false := by
  obtain ⟨cur, h1, _⟩ := h.blk
  simp [World.frozen?, h1]
theorem OwnR.keep {w w' : World} {e : TypeId} {g n cap : Nat} {xs : List Value} (h : OwnR w e g n cap xs) (hb : w'.heap[g]? = w.heap[g]?) : OwnR w' e g n cap xs := by
  obtain ⟨cur, h1, h2⟩ := h.blk
  exact ⟨h.len, cur, hb.trans h1, h2⟩
theorem OwnR.set {w : World} {e : TypeId} {g n cap : Nat} {xs : List Value} (h : OwnR w e g n cap xs) (t : Nat) (x : Value) : OwnR (w.setCell ⟨g, t, none⟩ x) e g n cap (xs.set t x) := by
  obtain ⟨cur, h1, h2, h3, h4, h5⟩ := h.blk
  refine ⟨by simpa using h.len, cur.setIfInBounds t x, ?_, h2, h3, by simpa using h4, ?_⟩
  · rw [Sort.setCell_eq]; show (w.heap.modify g _)[g]? = _
    rw [Array.getElem?_modify, if_pos rfl, h1]; rfl
  · rw [h5, Array.toList_setIfInBounds, List.take_set]
theorem OwnR.row {w : World} {e : TypeId} {g n cap : Nat} {xs : List Value} {D : Nat → Prop} (h : OwnR w e g n cap xs) (hD : D g) : RowV w D (some ⟨g, 0, none⟩) xs := fun t x hx => ⟨g, 0, rfl, hD, by simpa using h.cell hx⟩
theorem OwnR.alloc0 (w : World) (e : TypeId) : OwnR (w.alloc (.cells #[] e)) e w.heap.size 0 0 [] := ⟨rfl, #[], heap_alloc_new w _, Nat.le_refl _, by simp [maxLen], rfl, rfl⟩
theorem OwnR.holds {w : World} {e : TypeId} {g n cap : Nat} {l : List Int} (h : OwnR w e g n cap (l.map (Value.int .u64))) : Sort.Holds (Value.int .u64) w g 0 l.toArray := fun j hj => by
  have hj' : j < l.length := by simpa using hj
  refine ⟨?_, h.free _⟩
  rw [Nat.zero_add]
  rw [h.cell (t := j) (x := .int .u64 l[j]) (by simp [hj'])]
  simp [hj']

theorem addN (b o n : Nat) : (⟨b, o, none⟩ : Addr).add n = ⟨b, o + n, none⟩ := by
  unfold Addr.add; split
  · subst_vars; rfl
  · rfl
theorem run_appS {P : Program} (w : World) (t tx ty e : TypeId) (i : TypeInfo) (z : Value) (bytes : Nat) (ht : P.underlying t = some (.slice e)) (hi : P.info? e = some i) (hz : i.zero = some z)
    (hsize : i.size = 1) (hby : i.bytes = bytes) (hzs : z.cells.size = 1) (g n cap : Nat) (xs : List Value) (hown : OwnR w e g n cap xs)
    (x : Value) (m : Nat) (news : List Value) (hs : Src P 1 tx x m news w) (hbytes : ((n + m) + (n + m) / 4 + 192) * bytes ≤ 281474976710656) (hb1 : 1 ≤ bytes) :
    ∃ g' cap' w', (Builtin.append_ #[t, tx] ty #[.slice (some ⟨g, 0, none⟩) n cap, x]).run P w = .ok (.slice (some ⟨g', 0, none⟩) (n + m) cap') w' ∧ OwnR w' e g' (n + m) cap' (xs ++ news) ∧ w.grownBy w' (some g) ∧ (g' = g ∨ g' = w.heap.size) := by
  have hnm : n + m ≤ 281474976710656 := by
    have : (n + m) * 1 ≤ ((n + m) + (n + m) / 4 + 192) * bytes := Nat.mul_le_mul (by omega) hb1
    omega
  have h63 : n + m ≤ maxLen := by simp only [maxLen]; omega
  subst hby
  have hl : (xs ++ news).length = n + m := by rw [List.length_append, hown.len, hs.newsLen, Nat.mul_one]
  obtain ⟨cur, hg, hnc, hcm, hcs, htake⟩ := hown.blk
  by_cases hroom : n + m ≤ cap
  · have hnl : news.length = m := by rw [hs.newsLen, Nat.mul_one]
    have hst := run_storeCells_at P g n e news 0 cur w hg (by omega) hs.one
    simp only [Nat.add_zero] at hst
    have hr : (Builtin.append_ #[t, tx] ty #[.slice (some ⟨g, 0, none⟩) n cap, x]).run P w = .ok (.slice (some ⟨g, 0, none⟩) (n + m) cap) (w.setRow g (cur.toList.take n ++ news ++ cur.toList.drop (n + news.length)).toArray) := by
      rcases hs.kind with ⟨e', hk⟩ | hk <;> simp [Builtin.append_, run_underlying ht, run_underlying hk, sizeOf, typeInfo, hi, hsize, hs.len, hroom, hs.cells, Addr.add_lit, hst]
    refine ⟨g, cap, _, hr, ⟨hl, _, setRow_heap w g cur _ e _ hg, hroom, hcm, ?_, ?_⟩, ⟨rfl, rfl, rfl, by simp, fun k _ hk => setRow_other w g k _ (fun e => hk (by rw [e]))⟩, .inl rfl⟩
    · simp only [List.size_toArray, List.length_append, List.length_take, List.length_drop, Array.length_toList]
      omega
    · have e : cur.toList.take n ++ news ++ cur.toList.drop (n + news.length) = (xs ++ news) ++ cur.toList.drop (n + news.length) := by rw [htake]
      rw [e, ← hl]; exact List.take_left.symm
  · have holds : ∀ j u, xs[j]? = some u → w.cell? ((⟨g, 0, none⟩ : Addr).add j) = some u := fun j u hj => by rw [addN, Nat.zero_add]; exact hown.cell hj
    have hold : (Builtin.firstCells i.size n (.slice (some ⟨g, 0, none⟩) n cap)).run P w.drew = .ok xs.toArray w.drew := run_firstCells_some w.drew i.size n ⟨g, 0, none⟩ n cap xs (by rw [hsize, Nat.mul_one]; exact hown.len) (by simpa using holds)
    have hr := run_append_grow_src (P := P) w t tx ty e i z ht hi hz (some ⟨g, 0, none⟩) n cap xs hold x m news (by rw [hsize]; exact hs) (by omega) (by simp only [maxLen] at h63; omega) (growslice_fits_wide (by omega) hbytes)
    have hge := grownCap_ge w (n + m) cap e
    have hcm' : grownCap w (n + m) cap e ≤ maxLen := grownCap_le_maxLen w (n + m) cap e h63
    refine ⟨w.heap.size, _, _, hr, ⟨hl, _, heap_alloc_new w.drew _, hge, hcm', ?_, ?_⟩, ⟨rfl, rfl, rfl, by simp, fun k hk _ => heap_alloc_old w.drew _ hk⟩, .inr rfl⟩
    · simp only [Array.size_append, List.size_toArray, size_zeroCells, hzs, hl]
      omega
    · simp only [Array.toList_append]
      rw [← hl]
      exact List.take_left.symm
theorem wpList_appS {P : Program} (w : World) {ops : Array Oper} {rest : List Oper} {o : Oper} {a : Act} {Q : Exit → Act → World → Prop} (hgd : o.guard = none) (s x : Operand) (t tx : TypeId)
    (ho : o.op = .call { callee := .builtin .append, args := #[s, x], argTypes := #[t, tx] })
    (e : TypeId) (i : TypeInfo) (z : Value) (bytes : Nat) (ht : P.underlying t = some (.slice e)) (hi : P.info? e = some i) (hz : i.zero = some z)
    (hsize : i.size = 1) (hby : i.bytes = bytes) (hzs : z.cells.size = 1) (g n cap : Nat) (xs : List Value) (hs : a.eval s = .slice (some ⟨g, 0, none⟩) n cap) (hown : OwnR w e g n cap xs)
    (v : Value) (m : Nat) (news : List Value) (hx : a.eval x = v) (hsrc : Src P 1 tx v m news w) (hbytes : ((n + m) + (n + m) / 4 + 192) * bytes ≤ 281474976710656) (hb1 : 1 ≤ bytes)
    (h : ∀ g' cap' w', OwnR w' e g' (n + m) cap' (xs ++ news) → w.grownBy w' (some g) → (g' = g ∨ g' = w.heap.size) → wpList P ops Q rest (a.put o.dst (.slice (some ⟨g', 0, none⟩) (n + m) cap')) w') : wpList P ops Q (o :: rest) a w := by
  refine wpList_plain hgd fun K hK => ?_
  obtain ⟨g', cap', w', hr, h2, h3, h4⟩ := run_appS (P := P) w t tx o.type e i z bytes ht hi hz hsize hby hzs g n cap xs hown v m news hsrc hbytes hb1
  unfold Oper.wp execOp
  simp only [ho, resolve, invoke, builtin, Sem.run_bind, Sem.run_pure, Result.andThen_ok, List.map_toArray, List.map_cons, List.map_nil, hs, hx, hr]
  exact hK _ _ (h g' cap' w' h2 h3 h4)
theorem wpList_ranS {P : Program} (w : World) {ops : Array Oper} {rest : List Oper} {o : Oper} {a : Act} {Q : Exit → Act → World → Prop} (hgd : o.guard = none) (s x : Operand) (t tx : TypeId)
    (ho : o.op = .call { callee := .builtin .append, args := #[s, x], argTypes := #[t, tx] }) (v y v' : Value) (w' : World) (hs : a.eval s = v) (hx : a.eval x = y)
    (hr : (Builtin.append_ #[t, tx] o.type #[v, y]).run P w = .ok v' w') (h : wpList P ops Q rest (a.put o.dst v') w') : wpList P ops Q (o :: rest) a w := by
  refine wpList_plain hgd fun K hK => ?_
  unfold Oper.wp execOp
  simp only [ho, resolve, invoke, builtin, Sem.run_bind, Sem.run_pure, Result.andThen_ok, List.map_toArray, List.map_cons, List.map_nil, hs, hx, hr]
  exact hK _ _ h
theorem step_ran {P : Program} {w w' : World} {ops : Array Oper} {o : Oper} {a : Act} {K : Act → World → Prop} {Q : Exit → Act → World → Prop} {E : Prop} (hgd : o.guard = none) (s x : Operand) (t tx : TypeId)
    (ho : o.op = .call { callee := .builtin .append, args := #[s, x], argTypes := #[t, tx] }) (v y v' : Value) (hs : a.eval s = v) (hx : a.eval x = y)
    (hr : (Builtin.append_ #[t, tx] o.type #[v, y]).run P w = .ok v' w') (h : K (a.put o.dst v') w') : if Region.wanted o (yielded ops a.tmps) = true then Oper.wp P o a w K Q else E := by
  have hw : Region.wanted o (yielded ops a.tmps) = true := by simp [Region.wanted, hgd]
  rw [if_pos hw]
  unfold Oper.wp execOp
  simp only [ho, resolve, invoke, builtin, Sem.run_bind, Sem.run_pure, Result.andThen_ok, List.map_toArray, List.map_cons, List.map_nil, hs, hx, hr]
  exact h
theorem RowV.src {P : Program} {w : World} {D : Nat → Prop} {a : Option Addr} {xs : List Value} {tx e' : TypeId} (h : RowV w D a xs) (hk : P.underlying tx = some (.slice e')) (c : Nat) (h1 : ∀ u ∈ xs, u.oneCell' = true) (hn : xs = [] → a = none ∨ ∃ b o, a = some ⟨b, o, none⟩) :
    Src P 1 tx (.slice a xs.length c) xs.length xs w := by
  by_cases hx : xs = []
  · rcases hn hx with rfl | ⟨b, o, rfl⟩
    · subst hx; exact Src.ofNil _ hk c
    · subst hx; exact Src.ofSlice _ hk ⟨b, o, none⟩ 0 c [] rfl (fun j u hj => by simp at hj) (fun u hu => by simp at hu)
  · obtain ⟨b, o, rfl, _, h3⟩ := h.ne hx
    exact Src.ofSlice _ hk ⟨b, o, none⟩ xs.length c xs (by simp) (fun j u hj => by rw [addN]; exact h3 j u hj) h1
end Go.Proofs.YtikhpbidbcfedaaGreat

/- tenonlaw14.hand and left, slices.Clone at references. -/
namespace Go.Proofs.YtikhpbidbcfedaaGreat
open Go.RowKit

theorem Tryz.infoRf : (Tryz.prog.info? 25).map (fun i => (i.zero, i.size, i.bytes)) = some (some (.int .u64 0), 1, 8) := by kernel_rfl
theorem Tryz.undRs : Tryz.prog.underlying 22 = some (.slice 25) := by kernel_rfl
abbrev rv (l : List Int) : List Value := l.map (Value.int .u64)
theorem rv_one (l : List Int) : ∀ u ∈ rv l, u.oneCell' = true := fun u hu => by
  obtain ⟨x, _, rfl⟩ := List.mem_map.1 hu; rfl
structure RefsAt (w : World) (B : Nat) (a : Option Addr) (l : List Int) : Prop where
  row : RowV w (· < B) a (rv l)
  nil : l = [] → a = none ∨ ∃ b o, a = some ⟨b, o, none⟩
  bd : ∀ x ∈ l, 0 ≤ x ∧ x < 18446744073709551616
theorem RefsAt.keep {w w' : World} {B : Nat} {a : Option Addr} {l : List Int} (h : RefsAt w B a l) (hb : Below B w w') : RefsAt w' B a l := ⟨h.row.same (fun k hk => hb.block k hk) (fun _ h => h), h.nil, h.bd⟩

theorem nilR_run (c : Nat) (W : World) : Sem.run Tryz.prog (binOp BinOp.eql 22 (Value.slice none 0 c) (Value.slice none 0 0)) W = .ok (.bool true) W := by kernel_rfl
theorem someR_run (p : Addr) (n c : Nat) (W : World) : Sem.run Tryz.prog (binOp BinOp.eql 22 (Value.slice (some p) n c) (Value.slice none 0 0)) W = .ok (.bool false) W := by kernel_rfl
set_option maxRecDepth 100000 in
set_option maxHeartbeats 4000000 in
theorem clone_any (a : Option Addr) (cap : Nat) (l : List Int) (B : Nat) (w : World) (h : RefsAt w B a l) (hB : B ≤ w.heap.size) (hl : l.length * 8 ≤ 140737488355328) :
    Calls Tryz.prog 47 #[.slice a l.length cap] w fun e w' => ∃ a' c, e = .returned (.slice a' l.length c) ∧ ((a' = none ∧ l = [] ∧ w' = w) ∨ ∃ g, a' = some ⟨g, 0, none⟩ ∧ w.heap.size ≤ g ∧ OwnR w' 25 g l.length c (rv l)) ∧ Below w.heap.size w w' := by
  obtain ⟨i0, hi, hz0, hz1, hz2⟩ := info_parts Tryz.infoRf
  have HL : Hid (l.length * 8 ≤ 140737488355328) := hl
  have hlv : (rv l).length = l.length := by simp
  cases a with
  | none =>
    have hn : l = [] := by
      cases l with
      | nil => rfl
      | cons x l =>
        obtain ⟨b, o, e, _⟩ := h.row 0 (.int .u64 x) (by simp)
        cases e
    subst hn
    have heq := nilR_run cap
    go_enter Tryz.func47, Tryz.ntmps47
    go_wp2
    go_ret
    exact ⟨none, 0, rfl, .inl ⟨rfl, by trivial, rfl⟩, Below.refl _ _⟩
  | some ad =>
    have H0 : Hid (Src Tryz.prog 1 22 (.slice (some ad) l.length cap) l.length (rv l) (w.alloc (.cells #[] 25))) := by
      have hr : RowV (w.alloc (.cells #[] 25)) (· < B) (some ad) (rv l) := h.row.same (fun k hk => Below.heap_alloc w _ k (by omega)) (fun _ h => h)
      have := hr.src (P := Tryz.prog) Tryz.undRs cap (rv_one l) (fun e => h.nil (by simpa using e))
      rw [hlv] at this; exact this
    clear h hl hlv
    have heq := someR_run ad l.length cap
    go_enter Tryz.func47, Tryz.ntmps47
    go_wp2_with (at_builtin; have hq := HL.out; refine wpList_appS _ rfl _ _ 22 22 rfl 25 i0 (.int .u64 0) 8 Tryz.undRs hi hz0 hz1 hz2 rfl w.heap.size 0 0 [] rfl (OwnR.alloc0 w _) _ l.length (rv l) rfl H0.out (by omega) (by decide) ?_; intro g1 c1 w1 ho1 hg1 hor1)
    go_ret
    have hsz : (w.alloc (.cells #[] 25)).heap.size = w.heap.size + 1 := by simp
    have b1 : Below w.heap.size w w1 := ((Below.refl _ _).alloc (Nat.le_refl _) _).grown hg1 (by omega) (fun k hk => by simp at hk; omega)
    refine ⟨some ⟨g1, 0, none⟩, c1, by simp, .inr ⟨g1, rfl, by omega, ?_⟩, b1⟩
    have := ho1
    simp only [Nat.zero_add, List.nil_append] at this
    exact this
end Go.Proofs.YtikhpbidbcfedaaGreat

/- A Go map from references to places. -/
namespace Go.Proofs.YtikhpbidbcfedaaGreat
open Go.RowKit Go.ChangeMaps

theorem Tryz.undRef : Tryz.prog.underlying 25 = some (.int .u64) := by kernel_rfl
theorem Tryz.undMi : Tryz.prog.underlying 69 = some (.map 25 3) := by kernel_rfl
theorem refK : Go.Maps.Keyed Tryz.prog 25 := Go.Maps.int_keyed Tryz.undRef
theorem keyR {x : Int} (h0 : 0 ≤ x) (h1 : x < 18446744073709551616) : keyOf Tryz.prog 25 (.int .u64 x) = some (.int .u64 x) := Go.Maps.keyOf_int_mk Tryz.undRef (by simp [Lit.wf, IntKind.min, IntKind.max, IntKind.signed, IntKind.bits]; omega)
theorem setG_same {w : World} {b : Nat} {o o' : Obj} (h : w.heap[b]? = some o) : (setBlock w b o').heap[b]? = some o' := by
  have hb : b < w.heap.size := (Array.getElem?_eq_some_iff.1 h).1
  simp [setBlock, hb]
theorem setG_other {w : World} {b k : Nat} {o : Obj} (h : k ≠ b) : (setBlock w b o).heap[k]? = w.heap[k]? := by
  simp [setBlock, Ne.symm h]
theorem setG_size (w : World) (b : Nat) (o : Obj) : (setBlock w b o).heap.size = w.heap.size := by simp [setBlock]

structure MpI (w : World) (m : Nat) (G : List (Int × Int)) (es : Array MapEntry) (clock : Nat) : Prop where
  blk : w.heap[m]? = some (.map es clock)
  len : es.toList.length = G.length
  ent : ∀ (j : Nat) x g, es.toList[j]? = some x → G[j]? = some g → x.key = .int .u64 g.1 ∧ (0 ≤ g.1 ∧ g.1 < 18446744073709551616) ∧ x.val = .int .i64 g.2
  apart : (G.map (·.1)).Nodup
theorem MpI.keep {w w' : World} {m : Nat} {G : List (Int × Int)} {es : Array MapEntry} {clock : Nat} (h : MpI w m G es clock) (hb : w'.heap[m]? = w.heap[m]?) : MpI w' m G es clock := ⟨hb.trans h.blk, h.len, h.ent, h.apart⟩
section
variable {w : World} {m : Nat} {G : List (Int × Int)} {es : Array MapEntry} {clock : Nat}
theorem MpI.keys (h : MpI w m G es clock) : ∀ e ∈ es.toList, ∃ l, keyOf Tryz.prog 25 e.key = some l := fun e he => by
  obtain ⟨j, hj, rfl⟩ := List.mem_iff_getElem.1 he
  obtain ⟨h1, h2, _⟩ := h.ent j _ (G[j]'(by rw [← h.len]; exact hj)) (List.getElem?_eq_getElem hj) (List.getElem?_eq_getElem _)
  exact ⟨_, by rw [h1]; exact keyR h2.1 h2.2⟩
theorem MpI.find (h : MpI w m G es clock) {x : Int} (h0 : 0 ≤ x) (h1 : x < 18446744073709551616) (w' : World) :
    ((Instr.findKey 25 (.int .u64 x) es.toList).run Tryz.prog w' = .ok none w' ∧ ∀ g ∈ G, g.1 ≠ x) ∨ ∃ (j : Nat) (e : MapEntry) (v : Int), (Instr.findKey 25 (.int .u64 x) es.toList).run Tryz.prog w' = .ok (some (j, e.val)) w' ∧ e.val = .int .i64 v ∧ es.toList[j]? = some e ∧ e.key = .int .u64 x ∧ G[j]? = some (x, v) := by
  rcases refK.find w' (keyR h0 h1) es.toList h.keys with ⟨h1, h2⟩ | ⟨j, e, h1, h2, h3⟩
  · refine .inl ⟨h1, fun g hg e => ?_⟩
    obtain ⟨j, hj, rfl⟩ := List.mem_iff_getElem.1 hg
    have hj' : j < es.toList.length := by rw [h.len]; exact hj
    obtain ⟨k1, _, _⟩ := h.ent j _ _ (List.getElem?_eq_getElem hj') (List.getElem?_eq_getElem hj)
    exact h2 _ (List.getElem_mem hj') (by rw [k1, e])
  · have hj : j < es.toList.length := (List.getElem?_eq_some_iff.1 h2).1
    have hj' : j < G.length := by rw [← h.len]; exact hj
    obtain ⟨k1, _, k3⟩ := h.ent j _ _ h2 (List.getElem?_eq_getElem hj')
    have h4 := h3
    rw [k1] at h4
    injection h4 with _ h4
    refine .inr ⟨j, e, (G[j]).2, h1, k3, h2, h3, ?_⟩
    rw [List.getElem?_eq_getElem hj', ← h4]
theorem MpI.lookup (h : MpI w m G es clock) {x : Int} (h0 : 0 ≤ x) (h1 : x < 18446744073709551616) :
    ((Instr.lookup 69 (.map (some m)) (.int .u64 x) true).run Tryz.prog w = .ok (.tuple #[.int .i64 0, .bool false]) w ∧ ∀ g ∈ G, g.1 ≠ x) ∨ ∃ v, (Instr.lookup 69 (.map (some m)) (.int .u64 x) true).run Tryz.prog w = .ok (.tuple #[.int .i64 v, .bool true]) w ∧ (x, v) ∈ G := by
  rcases h.find h0 h1 w with ⟨h1', h2⟩ | ⟨j, e, v, h1', h2, _, _, h3⟩
  · exact .inl ⟨by simp [Instr.lookup, run_underlying Tryz.undMi, MapKept.run_getObj_map h.blk, refK.check w _ (keyR h0 h1), h1', Result.andThen], h2⟩
  · exact .inr ⟨v, by simp [Instr.lookup, run_underlying Tryz.undMi, MapKept.run_getObj_map h.blk, refK.check w _ (keyR h0 h1), h1', h2, Result.andThen], List.mem_of_getElem? h3⟩
theorem MpI.update (h : MpI w m G es clock) {x : Int} (h0 : 0 ≤ x) (h1 : x < 18446744073709551616) (y : Int) :
    ∃ G' es' clock', (Instr.mapUpdate 69 (.map (some m)) (.int .u64 x) (.int .i64 y)).run Tryz.prog w = .ok () (setBlock w m (.map es' clock')) ∧ MpI (setBlock w m (.map es' clock')) m G' es' clock' ∧
      (∀ k v, (k, v) ∈ G' ↔ (k = x ∧ v = y) ∨ (k ≠ x ∧ (k, v) ∈ G)) ∧ G'.length = G.length + (if x ∈ G.map (·.1) then 0 else 1) := by
  have hsz : es.size = G.length := by rw [← h.len]; simp
  rcases h.find h0 h1 w with ⟨h1', h2⟩ | ⟨j, e, v, h1', h2, h3, h4, h5⟩
  · have hno : x ∉ G.map (·.1) := fun hx => by
      obtain ⟨g, hg, e⟩ := List.mem_map.1 hx
      exact h2 g hg e
    refine ⟨G ++ [(x, y)], es.push ⟨.int .u64 x, .int .i64 y, clock⟩, clock + 1, ?_, ⟨setG_same h.blk, ?_, ?_, ?_⟩, fun k v => ?_, by simp [if_neg hno]⟩
    · simp [Instr.mapUpdate, run_underlying Tryz.undMi, MapKept.run_getObj_map h.blk, refK.check w false (keyR h0 h1), h1', MapKept.run_setObj_map _ h.blk, Result.andThen, setBlock]
    · simp [hsz]
    · intro j z g hz hg
      rw [Array.toList_push] at hz
      by_cases hj : j < G.length
      · rw [List.getElem?_append_left (by rw [h.len]; exact hj)] at hz
        rw [List.getElem?_append_left hj] at hg
        exact h.ent j z g hz hg
      · rw [List.getElem?_append_right (by rw [h.len]; omega), h.len] at hz
        rw [List.getElem?_append_right (by omega)] at hg
        by_cases hj0 : j - G.length = 0
        · rw [hj0] at hz hg
          simp at hz hg
          subst hz hg
          exact ⟨rfl, ⟨h0, h1⟩, rfl⟩
        · rw [List.getElem?_eq_none (by simp; omega)] at hz; cases hz
    · rw [List.map_append, List.nodup_append]
      exact ⟨h.apart, by simp, fun a ha b hb => by simp at hb; subst hb; exact fun e => hno (e ▸ ha)⟩
    · simp only [List.mem_append, List.mem_singleton, Prod.mk.injEq]
      constructor
      · rintro (h | h)
        · exact .inr ⟨fun e => h2 _ h e, h⟩
        · exact .inl h
      · rintro (h | h)
        · exact .inr h
        · exact .inl h.2
  · have hj : j < es.toList.length := (List.getElem?_eq_some_iff.1 h3).1
    have hjG : j < G.length := by rw [← h.len]; exact hj
    have hjs : es[j]? = some e := by simpa using h3
    have hyes : x ∈ G.map (·.1) := List.mem_map.2 ⟨_, List.mem_of_getElem? h5, rfl⟩
    have hlist : (es.modify j (fun e' => { e' with key := .int .u64 x, val := .int .i64 y })).toList = es.toList.set j { e with key := .int .u64 x, val := .int .i64 y } := by
      rw [Array.toList_modify]
      apply List.ext_getElem?
      intro k
      rw [List.getElem?_modify, List.getElem?_set]
      by_cases hk : j = k
      · subst hk; rw [if_pos rfl, if_pos hj, h3]; simp
      · rw [if_neg hk]; simp [hk]
    have hmap : (G.set j (x, y)).map (·.1) = G.map (·.1) := by
      apply List.ext_getElem?
      intro k
      rw [List.getElem?_map, List.getElem?_map, List.getElem?_set]
      by_cases hk : j = k
      · subst hk; rw [if_pos rfl, if_pos hjG, h5]; rfl
      · rw [if_neg hk]
    refine ⟨G.set j (x, y), es.modify j (fun e' => { e' with key := .int .u64 x, val := .int .i64 y }), clock, ?_, ⟨setG_same h.blk, ?_, ?_, ?_⟩, fun k v' => ?_, by simp [if_pos hyes]⟩
    · simp [Instr.mapUpdate, run_underlying Tryz.undMi, MapKept.run_getObj_map h.blk, refK.check w false (keyR h0 h1), h1', MapKept.run_setObj_map _ h.blk, Result.andThen, setBlock, hjs, h4, refK.stays w (keyR h0 h1)]
    · rw [hlist]; simp [hsz]
    · rw [hlist]
      intro i z g hz hg
      by_cases hij : j = i
      · subst hij
        rw [List.getElem?_set_self hj] at hz
        rw [List.getElem?_set_self hjG] at hg
        injection hz with hz; injection hg with hg
        subst hz hg
        exact ⟨rfl, ⟨h0, h1⟩, rfl⟩
      · rw [List.getElem?_set_ne hij] at hz hg
        exact h.ent i z g hz hg
    · rw [hmap]; exact h.apart
    · have hu : ∀ i k v', G[i]? = some (k, v') → k = x → i = j := fun i k v' hi e => by
        have hil := (List.getElem?_eq_some_iff.1 hi).1
        have e1 : (G.map (·.1))[i]? = some x := by rw [List.getElem?_map, hi, ← e]; rfl
        have e2 : (G.map (·.1))[j]? = some x := by rw [List.getElem?_map, h5]; rfl
        exact (List.getElem?_inj (by simpa using hil) h.apart).1 (e1.trans e2.symm)
      constructor
      · intro hm
        obtain ⟨i, hi⟩ := List.mem_iff_getElem?.1 hm
        rw [List.getElem?_set] at hi
        by_cases hij : j = i
        · rw [if_pos hij, if_pos hjG] at hi
          injection hi with hi; injection hi with a b
          exact .inl ⟨a.symm, b.symm⟩
        · rw [if_neg hij] at hi
          exact .inr ⟨fun e => hij (hu i k v' hi e).symm, List.mem_of_getElem? hi⟩
      · rintro (⟨rfl, rfl⟩ | ⟨hk, hm⟩)
        · exact List.mem_of_getElem? (i := j) (by rw [List.getElem?_set_self hjG])
        · obtain ⟨i, hi⟩ := List.mem_iff_getElem?.1 hm
          have hij : j ≠ i := fun e => by subst e; rw [h5] at hi; injection hi with hi; injection hi with a; exact hk a.symm
          exact List.mem_of_getElem? (i := i) (by rw [List.getElem?_set_ne hij]; exact hi)
end
theorem mk_mapI (w : World) : (Instr.makeMap 69 none).run Tryz.prog w = .ok (.map (some w.heap.size)) (w.alloc (.map #[] 0)) := by
  simp [Instr.makeMap, Result.andThen]
theorem MpI.new (w : World) : MpI (w.alloc (.map #[] 0)) w.heap.size [] #[] 0 := ⟨heap_alloc_new w _, rfl, fun j x g h => by simp at h, List.nodup_nil⟩
theorem len_mapI {w : World} {m : Nat} {G : List (Int × Int)} {es : Array MapEntry} {clock : Nat} (h : MpI w m G es clock) (ty : TypeId) : (Builtin.len_ #[69] ty #[.map (some m)]).run Tryz.prog w = .ok (.int .i64 G.length) w := by
  have hsz : es.size = G.length := by rw [← h.len]; simp
  simp [Builtin.len_, MapKept.run_getObj_map h.blk, Result.andThen, hsz, goInt]
end Go.Proofs.YtikhpbidbcfedaaGreat

