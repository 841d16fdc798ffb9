/- A Go map from references to places. -/
import Derived.Test.YtikhpbidbcfedaaGreatKk2
import Derived.Maps.Keyed
import Derived.ChangeMaps
import Derived.Sort.LotA
import Derived.Laws.Runes
import Derived.Test.YtikhpbidbcfedaaGreatKk1
namespace Go.Proofs.YtikhpbidbcfedaaGreat
open Go.RowKit Go.ChangeMaps

theorem Tryz.undRef : Tryz.prog.underlying 25 = some (.int .u64) := by kernel_rfl
theorem Tryz.undMi : Tryz.prog.underlying 69 = some (.map 25 3) := by kernel_rfl
theorem refK : Go.Maps.Keyed Tryz.prog 25 := Go.Maps.int_keyed Tryz.undRef
theorem keyR {x : Int} (h0 : 0 ≤ x) (h1 : x < 18446744073709551616) : keyOf Tryz.prog 25 (.int .u64 x) = some (.int .u64 x) := Go.Maps.keyOf_int_mk Tryz.undRef (by simp [Lit.wf, IntKind.min, IntKind.max, IntKind.signed, IntKind.bits]; omega)
theorem setG_same {w : World} {b : Nat} {o o' : Obj} (h : w.heap[b]? = some o) : (setBlock w b o').heap[b]? = some o' := by
  have hb : b < w.heap.size := (Array.getElem?_eq_some_iff.1 h).1
  simp [setBlock, hb]
theorem setG_other {w : World} {b k : Nat} {o : Obj} (h : k ≠ b) : (setBlock w b o).heap[k]? = w.heap[k]? := by
  simp [setBlock, Ne.symm h]
theorem setG_size (w : World) (b : Nat) (o : Obj) : (setBlock w b o).heap.size = w.heap.size := by simp [setBlock]

structure MpI (w : World) (m : Nat) (G : List (Int × Int)) (es : Array MapEntry) (clock : Nat) : Prop where
  blk : w.heap[m]? = some (.map es clock)
  len : es.toList.length = G.length
  ent : ∀ (j : Nat) x g, es.toList[j]? = some x → G[j]? = some g → x.key = .int .u64 g.1 ∧ (0 ≤ g.1 ∧ g.1 < 18446744073709551616) ∧ x.val = .int .i64 g.2
  apart : (G.map (·.1)).Nodup
theorem MpI.keep {w w' : World} {m : Nat} {G : List (Int × Int)} {es : Array MapEntry} {clock : Nat} (h : MpI w m G es clock) (hb : w'.heap[m]? = w.heap[m]?) : MpI w' m G es clock := ⟨hb.trans h.blk, h.len, h.ent, h.apart⟩
section
variable {w : World} {m : Nat} {G : List (Int × Int)} {es : Array MapEntry} {clock : Nat}
theorem MpI.keys (h : MpI w m G es clock) : ∀ e ∈ es.toList, ∃ l, keyOf Tryz.prog 25 e.key = some l := fun e he => by
  obtain ⟨j, hj, rfl⟩ := List.mem_iff_getElem.1 he
  obtain ⟨h1, h2, _⟩ := h.ent j _ (G[j]'(by rw [← h.len]; exact hj)) (List.getElem?_eq_getElem hj) (List.getElem?_eq_getElem _)
  exact ⟨_, by rw [h1]; exact keyR h2.1 h2.2⟩
theorem MpI.find (h : MpI w m G es clock) {x : Int} (h0 : 0 ≤ x) (h1 : x < 18446744073709551616) (w' : World) :
    ((Instr.findKey 25 (.int .u64 x) es.toList).run Tryz.prog w' = .ok none w' ∧ ∀ g ∈ G, g.1 ≠ x) ∨ ∃ (j : Nat) (e : MapEntry) (v : Int), (Instr.findKey 25 (.int .u64 x) es.toList).run Tryz.prog w' = .ok (some (j, e.val)) w' ∧ e.val = .int .i64 v ∧ es.toList[j]? = some e ∧ e.key = .int .u64 x ∧ G[j]? = some (x, v) := by
  rcases refK.find w' (keyR h0 h1) es.toList h.keys with ⟨h1, h2⟩ | ⟨j, e, h1, h2, h3⟩
  · refine .inl ⟨h1, fun g hg e => ?_⟩
    obtain ⟨j, hj, rfl⟩ := List.mem_iff_getElem.1 hg
    have hj' : j < es.toList.length := by rw [h.len]; exact hj
    obtain ⟨k1, _, _⟩ := h.ent j _ _ (List.getElem?_eq_getElem hj') (List.getElem?_eq_getElem hj)
    exact h2 _ (List.getElem_mem hj') (by rw [k1, e])
  · have hj : j < es.toList.length := (List.getElem?_eq_some_iff.1 h2).1
    have hj' : j < G.length := by rw [← h.len]; exact hj
    obtain ⟨k1, _, k3⟩ := h.ent j _ _ h2 (List.getElem?_eq_getElem hj')
    have h4 := h3
    rw [k1] at h4
    injection h4 with _ h4
    refine .inr ⟨j, e, (G[j]).2, h1, k3, h2, h3, ?_⟩
    rw [List.getElem?_eq_getElem hj', ← h4]
theorem MpI.lookup (h : MpI w m G es clock) {x : Int} (h0 : 0 ≤ x) (h1 : x < 18446744073709551616) :
    ((Instr.lookup 69 (.map (some m)) (.int .u64 x) true).run Tryz.prog w = .ok (.tuple #[.int .i64 0, .bool false]) w ∧ ∀ g ∈ G, g.1 ≠ x) ∨ ∃ v, (Instr.lookup 69 (.map (some m)) (.int .u64 x) true).run Tryz.prog w = .ok (.tuple #[.int .i64 v, .bool true]) w ∧ (x, v) ∈ G := by
  rcases h.find h0 h1 w with ⟨h1', h2⟩ | ⟨j, e, v, h1', h2, _, _, h3⟩
  · exact .inl ⟨by simp [Instr.lookup, run_underlying Tryz.undMi, MapKept.run_getObj_map h.blk, refK.check w _ (keyR h0 h1), h1', Result.andThen], h2⟩
  · exact .inr ⟨v, by simp [Instr.lookup, run_underlying Tryz.undMi, MapKept.run_getObj_map h.blk, refK.check w _ (keyR h0 h1), h1', h2, Result.andThen], List.mem_of_getElem? h3⟩
theorem MpI.update (h : MpI w m G es clock) {x : Int} (h0 : 0 ≤ x) (h1 : x < 18446744073709551616) (y : Int) :
    ∃ G' es' clock', (Instr.mapUpdate 69 (.map (some m)) (.int .u64 x) (.int .i64 y)).run Tryz.prog w = .ok () (setBlock w m (.map es' clock')) ∧ MpI (setBlock w m (.map es' clock')) m G' es' clock' ∧
      (∀ k v, (k, v) ∈ G' ↔ (k = x ∧ v = y) ∨ (k ≠ x ∧ (k, v) ∈ G)) ∧ G'.length = G.length + (if x ∈ G.map (·.1) then 0 else 1) := by
  have hsz : es.size = G.length := by rw [← h.len]; simp
  rcases h.find h0 h1 w with ⟨h1', h2⟩ | ⟨j, e, v, h1', h2, h3, h4, h5⟩
  · have hno : x ∉ G.map (·.1) := fun hx => by
      obtain ⟨g, hg, e⟩ := List.mem_map.1 hx
      exact h2 g hg e
    refine ⟨G ++ [(x, y)], es.push ⟨.int .u64 x, .int .i64 y, clock⟩, clock + 1, ?_, ⟨setG_same h.blk, ?_, ?_, ?_⟩, fun k v => ?_, by simp [if_neg hno]⟩
    · simp [Instr.mapUpdate, run_underlying Tryz.undMi, MapKept.run_getObj_map h.blk, refK.check w false (keyR h0 h1), h1', MapKept.run_setObj_map _ h.blk, Result.andThen, setBlock]
    · simp [hsz]
    · intro j z g hz hg
      rw [Array.toList_push] at hz
      by_cases hj : j < G.length
      · rw [List.getElem?_append_left (by rw [h.len]; exact hj)] at hz
        rw [List.getElem?_append_left hj] at hg
        exact h.ent j z g hz hg
      · rw [List.getElem?_append_right (by rw [h.len]; omega), h.len] at hz
        rw [List.getElem?_append_right (by omega)] at hg
        by_cases hj0 : j - G.length = 0
        · rw [hj0] at hz hg
          simp at hz hg
          subst hz hg
          exact ⟨rfl, ⟨h0, h1⟩, rfl⟩
        · rw [List.getElem?_eq_none (by simp; omega)] at hz; cases hz
    · rw [List.map_append, List.nodup_append]
      exact ⟨h.apart, by simp, fun a ha b hb => by simp at hb; subst hb; exact fun e => hno (e ▸ ha)⟩
    · simp only [List.mem_append, List.mem_singleton, Prod.mk.injEq]
      constructor
      · rintro (h | h)
        · exact .inr ⟨fun e => h2 _ h e, h⟩
        · exact .inl h
      · rintro (h | h)
        · exact .inr h
        · exact .inl h.2
  · have hj : j < es.toList.length := (List.getElem?_eq_some_iff.1 h3).1
    have hjG : j < G.length := by rw [← h.len]; exact hj
    have hjs : es[j]? = some e := by simpa using h3
    have hyes : x ∈ G.map (·.1) := List.mem_map.2 ⟨_, List.mem_of_getElem? h5, rfl⟩
    have hlist : (es.modify j (fun e' => { e' with key := .int .u64 x, val := .int .i64 y })).toList = es.toList.set j { e with key := .int .u64 x, val := .int .i64 y } := by
      rw [Array.toList_modify]
      apply List.ext_getElem?
      intro k
      rw [List.getElem?_modify, List.getElem?_set]
      by_cases hk : j = k
      · subst hk; rw [if_pos rfl, if_pos hj, h3]; simp
      · rw [if_neg hk]; simp [hk]
    have hmap : (G.set j (x, y)).map (·.1) = G.map (·.1) := by
      apply List.ext_getElem?
      intro k
      rw [List.getElem?_map, List.getElem?_map, List.getElem?_set]
      by_cases hk : j = k
      · subst hk; rw [if_pos rfl, if_pos hjG, h5]; rfl
      · rw [if_neg hk]
    refine ⟨G.set j (x, y), es.modify j (fun e' => { e' with key := .int .u64 x, val := .int .i64 y }), clock, ?_, ⟨setG_same h.blk, ?_, ?_, ?_⟩, fun k v' => ?_, by simp [if_pos hyes]⟩
    · simp [Instr.mapUpdate, run_underlying Tryz.undMi, MapKept.run_getObj_map h.blk, refK.check w false (keyR h0 h1), h1', MapKept.run_setObj_map _ h.blk, Result.andThen, setBlock, hjs, h4, refK.stays w (keyR h0 h1)]
    · rw [hlist]; simp [hsz]
    · rw [hlist]
      intro i z g hz hg
      by_cases hij : j = i
      · subst hij
        rw [List.getElem?_set_self hj] at hz
        rw [List.getElem?_set_self hjG] at hg
        injection hz with hz; injection hg with hg
        subst hz hg
        exact ⟨rfl, ⟨h0, h1⟩, rfl⟩
      · rw [List.getElem?_set_ne hij] at hz hg
        exact h.ent i z g hz hg
    · rw [hmap]; exact h.apart
    · have hu : ∀ i k v', G[i]? = some (k, v') → k = x → i = j := fun i k v' hi e => by
        have hil := (List.getElem?_eq_some_iff.1 hi).1
        have e1 : (G.map (·.1))[i]? = some x := by rw [List.getElem?_map, hi, ← e]; rfl
        have e2 : (G.map (·.1))[j]? = some x := by rw [List.getElem?_map, h5]; rfl
        exact (List.getElem?_inj (by simpa using hil) h.apart).1 (e1.trans e2.symm)
      constructor
      · intro hm
        obtain ⟨i, hi⟩ := List.mem_iff_getElem?.1 hm
        rw [List.getElem?_set] at hi
        by_cases hij : j = i
        · rw [if_pos hij, if_pos hjG] at hi
          injection hi with hi; injection hi with a b
          exact .inl ⟨a.symm, b.symm⟩
        · rw [if_neg hij] at hi
          exact .inr ⟨fun e => hij (hu i k v' hi e).symm, List.mem_of_getElem? hi⟩
      · rintro (⟨rfl, rfl⟩ | ⟨hk, hm⟩)
        · exact List.mem_of_getElem? (i := j) (by rw [List.getElem?_set_self hjG])
        · obtain ⟨i, hi⟩ := List.mem_iff_getElem?.1 hm
          have hij : j ≠ i := fun e => by subst e; rw [h5] at hi; injection hi with hi; injection hi with a; exact hk a.symm
          exact List.mem_of_getElem? (i := i) (by rw [List.getElem?_set_ne hij]; exact hi)
end
theorem mk_mapI (w : World) : (Instr.makeMap 69 none).run Tryz.prog w = .ok (.map (some w.heap.size)) (w.alloc (.map #[] 0)) := by
  simp [Instr.makeMap, Result.andThen]
theorem MpI.new (w : World) : MpI (w.alloc (.map #[] 0)) w.heap.size [] #[] 0 := ⟨heap_alloc_new w _, rfl, fun j x g h => by simp at h, List.nodup_nil⟩
theorem len_mapI {w : World} {m : Nat} {G : List (Int × Int)} {es : Array MapEntry} {clock : Nat} (h : MpI w m G es clock) (ty : TypeId) : (Builtin.len_ #[69] ty #[.map (some m)]).run Tryz.prog w = .ok (.int .i64 G.length) w := by
  have hsz : es.size = G.length := by rw [← h.len]; simp
  simp [Builtin.len_, MapKept.run_getObj_map h.blk, Result.andThen, hsz, goInt]
end Go.Proofs.YtikhpbidbcfedaaGreat

/- Plain mathematics of graphs: nodes in order, who leads where, walks with visitors. -/
namespace Go.Proofs.YtikhpbidbcfedaaGreat

def Sp.srt (l : List Int) : List Int := l.mergeSort fun x y => decide (x ≤ y)
theorem srt_perm (l : List Int) : (Sp.srt l).Perm l := List.mergeSort_perm _ _
theorem srt_len (l : List Int) : (Sp.srt l).length = l.length := (srt_perm l).length_eq
theorem srt_mem {l : List Int} {x : Int} : x ∈ Sp.srt l ↔ x ∈ l := (srt_perm l).mem_iff
theorem srt_le (l : List Int) : (Sp.srt l).Pairwise (· ≤ ·) := by
  have h := List.pairwise_mergeSort (le := fun x y : Int => decide (x ≤ y)) (by intro a b c h1 h2; simp at *; omega) (by intro a b; simp; omega) l
  exact h.imp (by intro a b h; simpa using h)
theorem srt_lt {l : List Int} (hn : l.Nodup) : (Sp.srt l).Pairwise (· < ·) := by
  have h1 := srt_le l
  have h2 : (Sp.srt l).Nodup := (srt_perm l).nodup_iff.2 hn
  exact (h1.and h2).imp (by intro a b ⟨h, k⟩; omega)

theorem ext_ltI : ∀ {l m : List Int}, l.Pairwise (· < ·) → m.Pairwise (· < ·) → (∀ x, x ∈ l ↔ x ∈ m) → l = m
  | [], [], _, _, _ => rfl
  | [], y :: m, _, _, h => absurd ((h y).2 (by simp)) (by simp)
  | x :: l, [], _, _, h => absurd ((h x).1 (by simp)) (by simp)
  | x :: l, y :: m, hl, hm, h => by
    rw [List.pairwise_cons] at hl hm
    have e : x = y := by
      rcases List.mem_cons.1 ((h x).1 (by simp)) with h1 | h1
      · exact h1
      · rcases List.mem_cons.1 ((h y).2 (by simp)) with h2 | h2
        · exact h2.symm
        · have := hl.1 y h2; have := hm.1 x h1; omega
    subst e
    rw [ext_ltI hl.2 hm.2 fun z => ⟨fun hz => ?_, fun hz => ?_⟩]
    · rcases List.mem_cons.1 ((h z).1 (List.mem_cons_of_mem _ hz)) with h1 | h1
      · have := hl.1 z hz; omega
      · exact h1
    · rcases List.mem_cons.1 ((h z).2 (List.mem_cons_of_mem _ hz)) with h1 | h1
      · have := hm.1 z hz; omega
      · exact h1
def Sp.nx (N : List Int) (E : List (Int × Int)) (i : Nat) : List Nat := (List.range N.length).filter fun j => decide ((N.getD i 0, N.getD j 0) ∈ E)
theorem nx_lt (N : List Int) (E : List (Int × Int)) (i : Nat) : (Sp.nx N E i).Pairwise (· < ·) := List.Pairwise.filter _ List.pairwise_lt_range
theorem nx_mem {N : List Int} {E : List (Int × Int)} {i j : Nat} : j ∈ Sp.nx N E i ↔ j < N.length ∧ (N.getD i 0, N.getD j 0) ∈ E := by simp [Sp.nx]

def Sp.mkE (nodes : List Int) (E : List (Int × Int)) : Int :=
  if 4096 < nodes.length ∨ 16384 < E.length then 2 else if (0 : Int) ∈ nodes ∨ ¬ nodes.Nodup then 1 else if ∃ e ∈ E, e.1 ∉ nodes ∨ e.2 ∉ nodes then 140 else 0
def Sp.pls (N : List Int) : List Int → Option (List Nat)
  | [] => some []
  | x :: l => if x ∈ N then (Sp.pls N l).map (N.idxOf x :: ·) else none

/-! ### walks -/
structure Vr (σ : Type) where
  enter : σ → Nat → Option Bool × σ
  leave : σ → Nat → Option Bool × σ
section
variable {σ : Type} (V : Vr σ) (nx : Nat → List Nat)
abbrev Wst (σ : Type) := List Bool × σ
def wLeave (n : Nat) (st : Wst σ) : Option Bool × Wst σ := ((V.leave st.2 n).1, (st.1, (V.leave st.2 n).2))
def wAll (one : Nat → Wst σ → Option Bool × Wst σ) : List Nat → Wst σ → Option Bool × Wst σ
  | [], st => (some true, st)
  | n :: l, st => if st.1.getD n false = true then wAll one l st else if (one n st).1 = some true then wAll one l (one n st).2 else one n st
def wOne : Nat → Nat → Wst σ → Option Bool × Wst σ
  | 0, _, st => (none, st)
  | f + 1, n, st =>
    if (V.enter st.2 n).1 = some true then
      (if (wAll (wOne f) (nx n) (st.1.set n true, (V.enter st.2 n).2)).1 = some true then wLeave V n (wAll (wOne f) (nx n) (st.1.set n true, (V.enter st.2 n).2)).2
       else wAll (wOne f) (nx n) (st.1.set n true, (V.enter st.2 n).2))
    else if (V.enter st.2 n).1 = some false then wLeave V n (st.1.set n true, (V.enter st.2 n).2)
    else (none, (st.1.set n true, (V.enter st.2 n).2))

def Mor (E E' : List Bool) : Prop := E'.length = E.length ∧ ∀ i, E.getD i false = true → E'.getD i false = true
theorem Mor.refl (E : List Bool) : Mor E E := ⟨rfl, fun _ h => h⟩
theorem Mor.trans {a b c : List Bool} (h : Mor a b) (k : Mor b c) : Mor a c := ⟨k.1.trans h.1, fun i hi => k.2 i (h.2 i hi)⟩
theorem Mor.set (E : List Bool) (n : Nat) : Mor E (E.set n true) := by
  refine ⟨by simp, fun i hi => ?_⟩
  simp only [List.getD_eq_getElem?_getD, List.getElem?_set] at hi ⊢
  split
  · split <;> simp_all
  · exact hi
theorem wAll_mor {one : Nat → Wst σ → Option Bool × Wst σ} (h : ∀ n st, Mor st.1 (one n st).2.1) : ∀ l st, Mor st.1 (wAll one l st).2.1
  | [], st => Mor.refl _
  | n :: l, st => by
    rw [wAll]
    split
    · exact wAll_mor h l st
    · split
      · exact (h n st).trans (wAll_mor h l _)
      · exact h n st
theorem wOne_mor : ∀ f n (st : Wst σ), Mor st.1 (wOne V nx f n st).2.1
  | 0, _, st => Mor.refl _
  | f + 1, n, st => by
    rw [wOne]
    have h1 := Mor.set st.1 n
    have h2 := wAll_mor (fun n st => wOne_mor f n st) (nx n) (st.1.set n true, (V.enter st.2 n).2)
    split
    · split
      · exact h1.trans h2
      · exact h1.trans h2
    · split
      · exact h1
      · exact h1
def Sp.cf (E : List Bool) : Nat := E.count false
theorem Mor.cf : ∀ {E E' : List Bool}, Mor E E' → Sp.cf E' ≤ Sp.cf E
  | [], [], _ => Nat.le_refl _
  | [], b :: E', h => absurd h.1 (by simp)
  | a :: E, [], h => absurd h.1 (by simp)
  | a :: E, b :: E', h => by
    have ih : Sp.cf E' ≤ Sp.cf E := Mor.cf ⟨by simpa using h.1, fun i hi => by simpa using h.2 (i + 1) (by simpa using hi)⟩
    have h0 := h.2 0
    unfold Sp.cf at *
    cases a <;> cases b <;> simp_all
    omega
theorem cf_set : ∀ {E : List Bool} {n : Nat}, E[n]? = some false → Sp.cf (E.set n true) + 1 = Sp.cf E
  | [], n, h => by simp at h
  | b :: E, 0, h => by simp at h; subst h; simp [Sp.cf]
  | b :: E, n + 1, h => by
    have ih := cf_set (E := E) (n := n) (by simpa using h)
    unfold Sp.cf at *
    cases b <;> simp at * <;> omega
end

/-! ### the visitor of the statements -/
structure VS where
  calls : List (Int × Bool)
  en : Nat
  le : Nat
def Sp.opt (l : List Bool) (k : Nat) : Option Bool := if IntKind.i64.wrap ((k + 1 : Nat) : Int) ≤ 0 then none else some (l.getD ((IntKind.i64.wrap ((k + 1 : Nat) : Int)).toNat - 1) true)
def Sp.vis (N : List Int) (En Le : List Bool) (P : Int) : Vr VS where
  enter s n := if IntKind.i64.wrap ((s.calls.length + 1 : Nat) : Int) = P then (none, ⟨s.calls ++ [(N.getD n 0, false)], s.en, s.le⟩) else (Sp.opt En s.en, ⟨s.calls ++ [(N.getD n 0, false)], s.en + 1, s.le⟩)
  leave s n := if IntKind.i64.wrap ((s.calls.length + 1 : Nat) : Int) = P then (none, ⟨s.calls ++ [(N.getD n 0, true)], s.en, s.le⟩) else (Sp.opt Le s.le, ⟨s.calls ++ [(N.getD n 0, true)], s.en, s.le + 1⟩)
def wVis {σ : Type} (one : Nat → Wst σ → Option Bool × Wst σ) (n : Nat) (st : Wst σ) : Option Bool × Wst σ := if st.1.getD n false = true then (some true, st) else one n st
end Go.Proofs.YtikhpbidbcfedaaGreat

/- cmp.Less at references. -/
namespace Go.Proofs.YtikhpbidbcfedaaGreat
open Go.RowKit

set_option maxHeartbeats 1000000 in
theorem nan_ref (x : Int) (w : World) : Calls Tryz.prog 83 #[.int .u64 x] w fun e w' => e = .returned (.bool false) ∧ w' = w := by
  go_enter Tryz.func83, Tryz.ntmps83
  go_wp2
  go_ret
  exact ⟨by simp, rfl⟩
set_option maxHeartbeats 1000000 in
theorem less_ref (x y : Int) (w : World) : Calls Tryz.prog 91 #[.int .u64 x, .int .u64 y] w fun e w' => e = .returned (.bool (Sort.ltInt x y)) ∧ w' = w := by
  go_enter Tryz.func91, Tryz.ntmps91
  go_wp2_with (go_at_call 83; refine (nan_ref _ _).mono ?_; rintro e w' ⟨rfl, rfl⟩)
  go_ret
  exact ⟨rfl, rfl⟩
end Go.Proofs.YtikhpbidbcfedaaGreat

