/- tenonlaw14.hand and left, slices.Clone at references. -/
import Derived.Test.YtghfikeakfiopaaK1
import Derived.Deep.RegionHeld3
import Derived.Maps.Keyed
import Derived.ChangeMaps
namespace Go.Proofs.Ytghfikeakfiopaa
open Go.RowKit

theorem Try.infoRf : (Try.prog.info? 36).map (fun i => (i.zero, i.size, i.bytes)) = some (some (.int .u64 0), 1, 8) := by kernel_rfl
theorem Try.undRs : Try.prog.underlying 22 = some (.slice 36) := by kernel_rfl
abbrev rv (l : List Int) : List Value := l.map (Value.int .u64)
theorem rv_one (l : List Int) : ∀ u ∈ rv l, u.oneCell' = true := fun u hu => by
  obtain ⟨x, _, rfl⟩ := List.mem_map.1 hu; rfl
structure RefsAt (w : World) (B : Nat) (a : Option Addr) (l : List Int) : Prop where
  row : RowV w (· < B) a (rv l)
  nil : l = [] → a = none ∨ ∃ b o, a = some ⟨b, o, none⟩
  bd : ∀ x ∈ l, 0 ≤ x ∧ x < 18446744073709551616
theorem RefsAt.keep {w w' : World} {B : Nat} {a : Option Addr} {l : List Int} (h : RefsAt w B a l) (hb : Below B w w') : RefsAt w' B a l := ⟨h.row.same (fun k hk => hb.block k hk) (fun _ h => h), h.nil, h.bd⟩

set_option maxRecDepth 100000 in
set_option maxHeartbeats 4000000 in
theorem hand_any (a : Option Addr) (cap : Nat) (l : List Int) (B : Nat) (w : World) (h : RefsAt w B a l) (hB : B ≤ w.heap.size) (hl : l.length * 8 ≤ 140737488355328) :
    Calls Try.prog 8 #[.slice a l.length cap] w fun e w' => ∃ g c, e = .returned (.slice (some ⟨g, 0, none⟩) (l.length + 1) c) ∧ w.heap.size ≤ g ∧ OwnR w' 36 g (l.length + 1) c (rv (l ++ [99])) ∧ Below w.heap.size w w' := by
  obtain ⟨i0, hi, hz0, hz1, hz2⟩ := info_parts Try.infoRf
  have HH : Hid (RefsAt w B a l) := h
  have HL : Hid (l.length * 8 ≤ 140737488355328) := hl
  have hlv : (rv l).length = l.length := by simp
  have H0 : Hid (Src Try.prog 1 22 (.slice a l.length cap) l.length (rv l) (w.alloc (.cells #[] 36))) := by
    have hr : RowV (w.alloc (.cells #[] 36)) (· < B) a (rv l) := h.row.same (fun k hk => Below.heap_alloc w _ k (by omega)) (fun _ h => h)
    have := hr.src (P := Try.prog) Try.undRs cap (rv_one l) (fun e => h.nil (by simpa using e))
    rw [hlv] at this; exact this
  clear h hl hlv
  go_enter Try.func8, Try.ntmps8
  go_wp2_with (first
    | (at_builtin; have hq := HO1.out; have hl2 := HL.out; refine wpList_appS _ rfl _ _ 22 22 rfl 36 i0 (.int .u64 0) 8 Try.undRs hi hz0 hz1 hz2 rfl g1 _ c1 _ rfl (HO1.out.keep (Below.heap_alloc _ _ _ HO1.out.lt)) _ 1 [.int .u64 99] rfl (Src.ofSlice _ Try.undRs ⟨_, 0, none⟩ 1 1 [.int .u64 99] rfl (cell_one_new _ _ _) (fun u hu => by simp at hu; subst hu; rfl)) (by omega) (by decide) ?_; intro g2 c2 w2 ho2 hg2 hor2)
    | (at_builtin; have hq := HL.out; refine wpList_appS _ rfl _ _ 22 22 rfl 36 i0 (.int .u64 0) 8 Try.undRs hi hz0 hz1 hz2 rfl w.heap.size 0 0 [] rfl (OwnR.alloc0 w _) _ l.length (rv l) rfl H0.out (by omega) (by decide) ?_; intro g1 c1 w1 ho1 hg1 hor1; have HO1 : Hid (OwnR w1 36 g1 l.length c1 (rv l)) := (by rw [Nat.zero_add, List.nil_append] at ho1; exact ho1); have HG1 : Hid ((w.alloc (.cells #[] 36)).grownBy w1 (some w.heap.size) ∧ (g1 = w.heap.size ∨ g1 = (w.alloc (.cells #[] 36)).heap.size)) := ⟨hg1, hor1⟩; clear ho1 hg1 hor1))
  go_ret
  have hsz : (w.alloc (.cells #[] 36)).heap.size = w.heap.size + 1 := by simp
  have b1 : Below w.heap.size w w1 := ((Below.refl _ _).alloc (Nat.le_refl _) _).grown HG1.out.1 (by omega) (fun k hk => by simp at hk; omega)
  have b2 : Below w.heap.size w (w1.alloc (.cells #[.int .u64 99] 36)) := b1.alloc b1.size _
  have hg1 : w.heap.size ≤ g1 := by have := HG1.out.2; omega
  have b3 : Below w.heap.size w w2 := b2.grown hg2 b2.size (fun k hk => by simp at hk; omega)
  refine ⟨g2, c2, by simp, ?_, ?_, b3⟩
  · rcases hor2 with h | h
    · omega
    · rw [h]; exact b2.size
  · simpa using ho2

theorem nilR_run (c : Nat) (W : World) : Sem.run Try.prog (binOp BinOp.eql 22 (Value.slice none 0 c) (Value.slice none 0 0)) W = .ok (.bool true) W := by kernel_rfl
theorem someR_run (p : Addr) (n c : Nat) (W : World) : Sem.run Try.prog (binOp BinOp.eql 22 (Value.slice (some p) n c) (Value.slice none 0 0)) W = .ok (.bool false) W := by kernel_rfl
set_option maxRecDepth 100000 in
set_option maxHeartbeats 4000000 in
theorem clone_any (a : Option Addr) (cap : Nat) (l : List Int) (B : Nat) (w : World) (h : RefsAt w B a l) (hB : B ≤ w.heap.size) (hl : l.length * 8 ≤ 140737488355328) :
    Calls Try.prog 35 #[.slice a l.length cap] w fun e w' => ∃ a' c, e = .returned (.slice a' l.length c) ∧ ((a' = none ∧ l = [] ∧ w' = w) ∨ ∃ g, a' = some ⟨g, 0, none⟩ ∧ w.heap.size ≤ g ∧ OwnR w' 36 g l.length c (rv l)) ∧ Below w.heap.size w w' := by
  obtain ⟨i0, hi, hz0, hz1, hz2⟩ := info_parts Try.infoRf
  have HL : Hid (l.length * 8 ≤ 140737488355328) := hl
  have hlv : (rv l).length = l.length := by simp
  cases a with
  | none =>
    have hn : l = [] := by
      cases l with
      | nil => rfl
      | cons x l =>
        obtain ⟨b, o, e, _⟩ := h.row 0 (.int .u64 x) (by simp)
        cases e
    subst hn
    have heq := nilR_run cap
    go_enter Try.func35, Try.ntmps35
    go_wp2
    go_ret
    exact ⟨none, 0, rfl, .inl ⟨rfl, by trivial, rfl⟩, Below.refl _ _⟩
  | some ad =>
    have H0 : Hid (Src Try.prog 1 22 (.slice (some ad) l.length cap) l.length (rv l) (w.alloc (.cells #[] 36))) := by
      have hr : RowV (w.alloc (.cells #[] 36)) (· < B) (some ad) (rv l) := h.row.same (fun k hk => Below.heap_alloc w _ k (by omega)) (fun _ h => h)
      have := hr.src (P := Try.prog) Try.undRs cap (rv_one l) (fun e => h.nil (by simpa using e))
      rw [hlv] at this; exact this
    clear h hl hlv
    have heq := someR_run ad l.length cap
    go_enter Try.func35, Try.ntmps35
    go_wp2_with (at_builtin; have hq := HL.out; refine wpList_appS _ rfl _ _ 22 22 rfl 36 i0 (.int .u64 0) 8 Try.undRs hi hz0 hz1 hz2 rfl w.heap.size 0 0 [] rfl (OwnR.alloc0 w _) _ l.length (rv l) rfl H0.out (by omega) (by decide) ?_; intro g1 c1 w1 ho1 hg1 hor1)
    go_ret
    have hsz : (w.alloc (.cells #[] 36)).heap.size = w.heap.size + 1 := by simp
    have b1 : Below w.heap.size w w1 := ((Below.refl _ _).alloc (Nat.le_refl _) _).grown hg1 (by omega) (fun k hk => by simp at hk; omega)
    refine ⟨some ⟨g1, 0, none⟩, c1, by simp, .inr ⟨g1, rfl, by omega, ?_⟩, b1⟩
    have := ho1
    simp only [Nat.zero_add, List.nil_append] at this
    exact this
end Go.Proofs.Ytghfikeakfiopaa

/- A Go map from references to places. -/
namespace Go.Proofs.Ytghfikeakfiopaa
open Go.RowKit Go.ChangeMaps

theorem Try.undRef : Try.prog.underlying 36 = some (.int .u64) := by kernel_rfl
theorem Try.undMi : Try.prog.underlying 66 = some (.map 36 3) := by kernel_rfl
theorem refK : Go.Maps.Keyed Try.prog 36 := Go.Maps.int_keyed Try.undRef
theorem keyR {x : Int} (h0 : 0 ≤ x) (h1 : x < 18446744073709551616) : keyOf Try.prog 36 (.int .u64 x) = some (.int .u64 x) := Go.Maps.keyOf_int_mk Try.undRef (by simp [Lit.wf, IntKind.min, IntKind.max, IntKind.signed, IntKind.bits]; omega)
theorem setG_same {w : World} {b : Nat} {o o' : Obj} (h : w.heap[b]? = some o) : (setBlock w b o').heap[b]? = some o' := by
  have hb : b < w.heap.size := (Array.getElem?_eq_some_iff.1 h).1
  simp [setBlock, hb]
theorem setG_other {w : World} {b k : Nat} {o : Obj} (h : k ≠ b) : (setBlock w b o).heap[k]? = w.heap[k]? := by
  simp [setBlock, Ne.symm h]
theorem setG_size (w : World) (b : Nat) (o : Obj) : (setBlock w b o).heap.size = w.heap.size := by simp [setBlock]

structure MpI (w : World) (m : Nat) (G : List (Int × Int)) (es : Array MapEntry) (clock : Nat) : Prop where
  blk : w.heap[m]? = some (.map es clock)
  len : es.toList.length = G.length
  ent : ∀ (j : Nat) x g, es.toList[j]? = some x → G[j]? = some g → x.key = .int .u64 g.1 ∧ (0 ≤ g.1 ∧ g.1 < 18446744073709551616) ∧ x.val = .int .i64 g.2
  apart : (G.map (·.1)).Nodup
theorem MpI.keep {w w' : World} {m : Nat} {G : List (Int × Int)} {es : Array MapEntry} {clock : Nat} (h : MpI w m G es clock) (hb : w'.heap[m]? = w.heap[m]?) : MpI w' m G es clock := ⟨hb.trans h.blk, h.len, h.ent, h.apart⟩
section
variable {w : World} {m : Nat} {G : List (Int × Int)} {es : Array MapEntry} {clock : Nat}
theorem MpI.keys (h : MpI w m G es clock) : ∀ e ∈ es.toList, ∃ l, keyOf Try.prog 36 e.key = some l := fun e he => by
  obtain ⟨j, hj, rfl⟩ := List.mem_iff_getElem.1 he
  obtain ⟨h1, h2, _⟩ := h.ent j _ (G[j]'(by rw [← h.len]; exact hj)) (List.getElem?_eq_getElem hj) (List.getElem?_eq_getElem _)
  exact ⟨_, by rw [h1]; exact keyR h2.1 h2.2⟩
theorem MpI.find (h : MpI w m G es clock) {x : Int} (h0 : 0 ≤ x) (h1 : x < 18446744073709551616) (w' : World) :
    ((Instr.findKey 36 (.int .u64 x) es.toList).run Try.prog w' = .ok none w' ∧ ∀ g ∈ G, g.1 ≠ x) ∨ ∃ (j : Nat) (e : MapEntry) (v : Int), (Instr.findKey 36 (.int .u64 x) es.toList).run Try.prog w' = .ok (some (j, e.val)) w' ∧ e.val = .int .i64 v ∧ es.toList[j]? = some e ∧ e.key = .int .u64 x ∧ G[j]? = some (x, v) := by
  rcases refK.find w' (keyR h0 h1) es.toList h.keys with ⟨h1, h2⟩ | ⟨j, e, h1, h2, h3⟩
  · refine .inl ⟨h1, fun g hg e => ?_⟩
    obtain ⟨j, hj, rfl⟩ := List.mem_iff_getElem.1 hg
    have hj' : j < es.toList.length := by rw [h.len]; exact hj
    obtain ⟨k1, _, _⟩ := h.ent j _ _ (List.getElem?_eq_getElem hj') (List.getElem?_eq_getElem hj)
    exact h2 _ (List.getElem_mem hj') (by rw [k1, e])
  · have hj : j < es.toList.length := (List.getElem?_eq_some_iff.1 h2).1
    have hj' : j < G.length := by rw [← h.len]; exact hj
    obtain ⟨k1, _, k3⟩ := h.ent j _ _ h2 (List.getElem?_eq_getElem hj')
    have h4 := h3
    rw [k1] at h4
    injection h4 with _ h4
    refine .inr ⟨j, e, (G[j]).2, h1, k3, h2, h3, ?_⟩
    rw [List.getElem?_eq_getElem hj', ← h4]
theorem MpI.lookup (h : MpI w m G es clock) {x : Int} (h0 : 0 ≤ x) (h1 : x < 18446744073709551616) :
    ((Instr.lookup 66 (.map (some m)) (.int .u64 x) true).run Try.prog w = .ok (.tuple #[.int .i64 0, .bool false]) w ∧ ∀ g ∈ G, g.1 ≠ x) ∨ ∃ v, (Instr.lookup 66 (.map (some m)) (.int .u64 x) true).run Try.prog w = .ok (.tuple #[.int .i64 v, .bool true]) w ∧ (x, v) ∈ G := by
  rcases h.find h0 h1 w with ⟨h1', h2⟩ | ⟨j, e, v, h1', h2, _, _, h3⟩
  · exact .inl ⟨by simp [Instr.lookup, run_underlying Try.undMi, MapKept.run_getObj_map h.blk, refK.check w _ (keyR h0 h1), h1', Result.andThen], h2⟩
  · exact .inr ⟨v, by simp [Instr.lookup, run_underlying Try.undMi, MapKept.run_getObj_map h.blk, refK.check w _ (keyR h0 h1), h1', h2, Result.andThen], List.mem_of_getElem? h3⟩
theorem MpI.update (h : MpI w m G es clock) {x : Int} (h0 : 0 ≤ x) (h1 : x < 18446744073709551616) (y : Int) :
    ∃ G' es' clock', (Instr.mapUpdate 66 (.map (some m)) (.int .u64 x) (.int .i64 y)).run Try.prog w = .ok () (setBlock w m (.map es' clock')) ∧ MpI (setBlock w m (.map es' clock')) m G' es' clock' ∧
      (∀ k v, (k, v) ∈ G' ↔ (k = x ∧ v = y) ∨ (k ≠ x ∧ (k, v) ∈ G)) ∧ G'.length = G.length + (if x ∈ G.map (·.1) then 0 else 1) := by
  have hsz : es.size = G.length := by rw [← h.len]; simp
  rcases h.find h0 h1 w with ⟨h1', h2⟩ | ⟨j, e, v, h1', h2, h3, h4, h5⟩
  · have hno : x ∉ G.map (·.1) := fun hx => by
      obtain ⟨g, hg, e⟩ := List.mem_map.1 hx
      exact h2 g hg e
    refine ⟨G ++ [(x, y)], es.push ⟨.int .u64 x, .int .i64 y, clock⟩, clock + 1, ?_, ⟨setG_same h.blk, ?_, ?_, ?_⟩, fun k v => ?_, by simp [if_neg hno]⟩
    · simp [Instr.mapUpdate, run_underlying Try.undMi, MapKept.run_getObj_map h.blk, refK.check w false (keyR h0 h1), h1', MapKept.run_setObj_map _ h.blk, Result.andThen, setBlock]
    · simp [hsz]
    · intro j z g hz hg
      rw [Array.toList_push] at hz
      by_cases hj : j < G.length
      · rw [List.getElem?_append_left (by rw [h.len]; exact hj)] at hz
        rw [List.getElem?_append_left hj] at hg
        exact h.ent j z g hz hg
      · rw [List.getElem?_append_right (by rw [h.len]; omega), h.len] at hz
        rw [List.getElem?_append_right (by omega)] at hg
        by_cases hj0 : j - G.length = 0
        · rw [hj0] at hz hg
          simp at hz hg
          subst hz hg
          exact ⟨rfl, ⟨h0, h1⟩, rfl⟩
        · rw [List.getElem?_eq_none (by simp; omega)] at hz; cases hz
    · rw [List.map_append, List.nodup_append]
      exact ⟨h.apart, by simp, fun a ha b hb => by simp at hb; subst hb; exact fun e => hno (e ▸ ha)⟩
    · simp only [List.mem_append, List.mem_singleton, Prod.mk.injEq]
      constructor
      · rintro (h | h)
        · exact .inr ⟨fun e => h2 _ h e, h⟩
        · exact .inl h
      · rintro (h | h)
        · exact .inr h
        · exact .inl h.2
  · have hj : j < es.toList.length := (List.getElem?_eq_some_iff.1 h3).1
    have hjG : j < G.length := by rw [← h.len]; exact hj
    have hjs : es[j]? = some e := by simpa using h3
    have hyes : x ∈ G.map (·.1) := List.mem_map.2 ⟨_, List.mem_of_getElem? h5, rfl⟩
    have hlist : (es.modify j (fun e' => { e' with key := .int .u64 x, val := .int .i64 y })).toList = es.toList.set j { e with key := .int .u64 x, val := .int .i64 y } := by
      rw [Array.toList_modify]
      apply List.ext_getElem?
      intro k
      rw [List.getElem?_modify, List.getElem?_set]
      by_cases hk : j = k
      · subst hk; rw [if_pos rfl, if_pos hj, h3]; simp
      · rw [if_neg hk]; simp [hk]
    have hmap : (G.set j (x, y)).map (·.1) = G.map (·.1) := by
      apply List.ext_getElem?
      intro k
      rw [List.getElem?_map, List.getElem?_map, List.getElem?_set]
      by_cases hk : j = k
      · subst hk; rw [if_pos rfl, if_pos hjG, h5]; rfl
      · rw [if_neg hk]
    refine ⟨G.set j (x, y), es.modify j (fun e' => { e' with key := .int .u64 x, val := .int .i64 y }), clock, ?_, ⟨setG_same h.blk, ?_, ?_, ?_⟩, fun k v' => ?_, by simp [if_pos hyes]⟩
    · simp [Instr.mapUpdate, run_underlying Try.undMi, MapKept.run_getObj_map h.blk, refK.check w false (keyR h0 h1), h1', MapKept.run_setObj_map _ h.blk, Result.andThen, setBlock, hjs, h4, refK.stays w (keyR h0 h1)]
    · rw [hlist]; simp [hsz]
    · rw [hlist]
      intro i z g hz hg
      by_cases hij : j = i
      · subst hij
        rw [List.getElem?_set_self hj] at hz
        rw [List.getElem?_set_self hjG] at hg
        injection hz with hz; injection hg with hg
        subst hz hg
        exact ⟨rfl, ⟨h0, h1⟩, rfl⟩
      · rw [List.getElem?_set_ne hij] at hz hg
        exact h.ent i z g hz hg
    · rw [hmap]; exact h.apart
    · have hu : ∀ i k v', G[i]? = some (k, v') → k = x → i = j := fun i k v' hi e => by
        have hil := (List.getElem?_eq_some_iff.1 hi).1
        have e1 : (G.map (·.1))[i]? = some x := by rw [List.getElem?_map, hi, ← e]; rfl
        have e2 : (G.map (·.1))[j]? = some x := by rw [List.getElem?_map, h5]; rfl
        exact (List.getElem?_inj (by simpa using hil) h.apart).1 (e1.trans e2.symm)
      constructor
      · intro hm
        obtain ⟨i, hi⟩ := List.mem_iff_getElem?.1 hm
        rw [List.getElem?_set] at hi
        by_cases hij : j = i
        · rw [if_pos hij, if_pos hjG] at hi
          injection hi with hi; injection hi with a b
          exact .inl ⟨a.symm, b.symm⟩
        · rw [if_neg hij] at hi
          exact .inr ⟨fun e => hij (hu i k v' hi e).symm, List.mem_of_getElem? hi⟩
      · rintro (⟨rfl, rfl⟩ | ⟨hk, hm⟩)
        · exact List.mem_of_getElem? (i := j) (by rw [List.getElem?_set_self hjG])
        · obtain ⟨i, hi⟩ := List.mem_iff_getElem?.1 hm
          have hij : j ≠ i := fun e => by subst e; rw [h5] at hi; injection hi with hi; injection hi with a; exact hk a.symm
          exact List.mem_of_getElem? (i := i) (by rw [List.getElem?_set_ne hij]; exact hi)
end
theorem mk_mapI (w : World) : (Instr.makeMap 66 none).run Try.prog w = .ok (.map (some w.heap.size)) (w.alloc (.map #[] 0)) := by
  simp [Instr.makeMap, Result.andThen]
theorem MpI.new (w : World) : MpI (w.alloc (.map #[] 0)) w.heap.size [] #[] 0 := ⟨heap_alloc_new w _, rfl, fun j x g h => by simp at h, List.nodup_nil⟩
theorem len_mapI {w : World} {m : Nat} {G : List (Int × Int)} {es : Array MapEntry} {clock : Nat} (h : MpI w m G es clock) (ty : TypeId) : (Builtin.len_ #[66] ty #[.map (some m)]).run Try.prog w = .ok (.int .i64 G.length) w := by
  have hsz : es.size = G.length := by rw [← h.len]; simp
  simp [Builtin.len_, MapKept.run_getObj_map h.blk, Result.andThen, hsz, goInt]
end Go.Proofs.Ytghfikeakfiopaa

