/- A Go map under texts, whose values are values: what it holds, in the order of its entries. -/
import Derived.Test.YtadcbhdhgobknaaL17
import Derived.Maps.Keyed
namespace Go.Proofs.Ytadcbhdhgobknaa
open Go.RowKit Go.ChangeMaps

theorem Try.undStr : Try.prog.underlying 9 = some .string := by kernel_rfl
theorem Try.undMp : Try.prog.underlying 66 = some (.map 9 20) := by kernel_rfl
theorem strK : Go.Maps.Keyed Try.prog 9 := Go.Maps.string_keyed Try.undStr
theorem keyS {s : ByteArray} (hs : s.size ≤ maxLen) : keyOf Try.prog 9 (.string s) = some (.string s.data.toList) := Go.WideMaps.keyOf_string_mk Try.undStr hs

/-- what an entry holds -/
def ER (w : World) (S : Nat → Prop) (x : MapEntry) (g : ByteArray × Tm) : Prop := x.key = .string g.1 ∧ g.1.size ≤ maxLen ∧ g.2.V w S x.val
/-- no two keys are one -/
def Apart (G : List (ByteArray × Tm)) : Prop := G.Pairwise fun a b => a.1 ≠ b.1
/-- block b is a map that holds G -/
structure MapR (w : World) (S : Nat → Prop) (b : Nat) (G : List (ByteArray × Tm)) (es : Array MapEntry) (clock : Nat) : Prop where
  blk : w.heap[b]? = some (.map es clock)
  len : es.toList.length = G.length
  ent : ∀ (j : Nat) x g, es.toList[j]? = some x → G[j]? = some g → ER w S x g
  apart : Apart G
theorem MapR.keys {w : World} {S : Nat → Prop} {b : Nat} {G : List (ByteArray × Tm)} {es : Array MapEntry} {clock : Nat} (h : MapR w S b G es clock) : ∀ e ∈ es.toList, ∃ l, keyOf Try.prog 9 e.key = some l := fun e he => by
  obtain ⟨j, hj, rfl⟩ := List.mem_iff_getElem.1 he
  obtain ⟨h1, h2, _⟩ := h.ent j _ (G[j]'(by rw [← h.len]; exact hj)) (List.getElem?_eq_getElem hj) (List.getElem?_eq_getElem _)
  exact ⟨_, by rw [h1]; exact keyS h2⟩
/-- what is kept under a text -/
def Sp.look (G : List (ByteArray × Tm)) (s : ByteArray) : Option Tm := match G with
  | [] => none
  | g :: G => if g.1 = s then some g.2 else Sp.look G s
def Sp.put (G : List (ByteArray × Tm)) (s : ByteArray) (t : Tm) : List (ByteArray × Tm) := match G with
  | [] => [(s, t)]
  | g :: G => if g.1 = s then (s, t) :: G else g :: Sp.put G s t
def Sp.del (G : List (ByteArray × Tm)) (s : ByteArray) : List (ByteArray × Tm) := match G with
  | [] => []
  | g :: G => if g.1 = s then G else g :: Sp.del G s
theorem look_none : ∀ (G : List (ByteArray × Tm)) (s : ByteArray), (∀ g ∈ G, g.1 ≠ s) → Sp.look G s = none ∧ (∀ t, Sp.put G s t = G ++ [(s, t)]) ∧ Sp.del G s = G
  | [], _, _ => ⟨rfl, fun _ => rfl, rfl⟩
  | g :: G, s, h => by
    have h1 := h g (List.mem_cons_self ..)
    obtain ⟨i1, i2, i3⟩ := look_none G s (fun x hx => h x (List.mem_cons_of_mem _ hx))
    simp only [Sp.look, Sp.put, Sp.del, if_neg h1, i1, i2, i3]
    exact ⟨trivial, fun _ => rfl, trivial⟩
theorem look_at : ∀ (G : List (ByteArray × Tm)) (s : ByteArray) (j : Nat) (g : ByteArray × Tm), Apart G → G[j]? = some g → g.1 = s → Sp.look G s = some g.2 ∧ (∀ t, Sp.put G s t = G.set j (s, t)) ∧ Sp.del G s = G.eraseIdx j
  | [], _, j, g, _, h, _ => by simp at h
  | x :: G, s, 0, g, _, h, hs => by
    simp at h; subst h
    simp [Sp.look, Sp.put, Sp.del, hs]
  | x :: G, s, j + 1, g, ha, h, hs => by
    simp only [List.getElem?_cons_succ] at h
    simp only [Apart, List.pairwise_cons] at ha
    have hne : x.1 ≠ s := by rw [← hs]; exact ha.1 g (List.mem_of_getElem? h)
    obtain ⟨i1, i2, i3⟩ := look_at G s j g ha.2 h hs
    simp only [Sp.look, Sp.put, Sp.del, if_neg hne, i1, i2, i3, List.set_cons_succ, List.eraseIdx_cons_succ]
    exact ⟨trivial, fun _ => trivial, trivial⟩
theorem MapR.find {w : World} {S : Nat → Prop} {b : Nat} {G : List (ByteArray × Tm)} {es : Array MapEntry} {clock : Nat} (h : MapR w S b G es clock) {s : ByteArray} (hs : s.size ≤ maxLen) (w' : World) :
    ((Instr.findKey 9 (.string s) es.toList).run Try.prog w' = .ok none w' ∧ ∀ g ∈ G, g.1 ≠ s) ∨ ∃ j e g, (Instr.findKey 9 (.string s) es.toList).run Try.prog w' = .ok (some (j, e.val)) w' ∧ es.toList[j]? = some e ∧ e.key = .string s ∧ G[j]? = some g ∧ g.1 = s ∧ g.2.V w S e.val := by
  rcases strK.find w' (keyS hs) es.toList h.keys with ⟨h1, h2⟩ | ⟨j, e, h1, h2, h3⟩
  · refine .inl ⟨h1, fun g hg e => ?_⟩
    obtain ⟨j, hj, rfl⟩ := List.mem_iff_getElem.1 hg
    have hj' : j < es.toList.length := by rw [h.len]; exact hj
    obtain ⟨k1, _, _⟩ := h.ent j _ _ (List.getElem?_eq_getElem hj') (List.getElem?_eq_getElem hj)
    exact h2 _ (List.getElem_mem hj') (by rw [k1, e])
  · have hj : j < es.toList.length := (List.getElem?_eq_some_iff.1 h2).1
    have hj' : j < G.length := by rw [← h.len]; exact hj
    obtain ⟨k1, _, k3⟩ := h.ent j _ _ h2 (List.getElem?_eq_getElem hj')
    refine .inr ⟨j, e, G[j], h1, h2, h3, List.getElem?_eq_getElem hj', ?_, k3⟩
    rw [k1] at h3; injection h3
theorem MapR.lookup {w : World} {S : Nat → Prop} {b : Nat} {G : List (ByteArray × Tm)} {es : Array MapEntry} {clock : Nat} (h : MapR w S b G es clock) {s : ByteArray} (hs : s.size ≤ maxLen) :
    ((Instr.lookup 66 (.map (some b)) (.string s) true).run Try.prog w = .ok (.tuple #[.nilIface, .bool false]) w ∧ Sp.look G s = none) ∨ ∃ t v, (Instr.lookup 66 (.map (some b)) (.string s) true).run Try.prog w = .ok (.tuple #[v, .bool true]) w ∧ Sp.look G s = some t ∧ t.V w S v := by
  rcases h.find hs w with ⟨h1, h2⟩ | ⟨j, e, g, h1, h2, h3, h4, h5, h6⟩
  · exact .inl ⟨by simp [Instr.lookup, run_underlying Try.undMp, MapKept.run_getObj_map h.blk, strK.check w _ (keyS hs), h1, Result.andThen], (look_none G s h2).1⟩
  · exact .inr ⟨g.2, e.val, by simp [Instr.lookup, run_underlying Try.undMp, MapKept.run_getObj_map h.blk, strK.check w _ (keyS hs), h1, Result.andThen], (look_at G s j g h.apart h4 h5).1, h6⟩
/-- the world with another object in block b -/
theorem setB_same {w : World} {b : Nat} {o o' : Obj} (h : w.heap[b]? = some o) : (setBlock w b o').heap[b]? = some o' := by
  have hb : b < w.heap.size := by
    by_cases hb : b < w.heap.size
    · exact hb
    · rw [Array.getElem?_eq_none (by omega)] at h; exact absurd h (by simp)
  simp [setBlock, hb]
theorem setB_other {w : World} {b k : Nat} {o : Obj} (h : k ≠ b) : (setBlock w b o).heap[k]? = w.heap[k]? := by
  simp [setBlock, Ne.symm h]
theorem setB_size (w : World) (b : Nat) (o : Obj) : (setBlock w b o).heap.size = w.heap.size := by simp [setBlock]
theorem apart_put : ∀ (G : List (ByteArray × Tm)) (s : ByteArray) (t : Tm), Apart G → Apart (Sp.put G s t) ∧ ∀ g ∈ Sp.put G s t, g.1 = s ∨ g ∈ G
  | [], s, t, _ => ⟨by simp [Sp.put, Apart], fun g hg => by simp [Sp.put] at hg; exact .inl (by rw [hg])⟩
  | x :: G, s, t, h => by
    simp only [Apart, List.pairwise_cons] at h
    rw [Sp.put]
    by_cases e : x.1 = s
    · rw [if_pos e]
      refine ⟨?_, fun g hg => ?_⟩
      · simp only [Apart, List.pairwise_cons]
        exact ⟨fun g hg => by rw [← e]; exact h.1 g hg, h.2⟩
      · rcases List.mem_cons.1 hg with rfl | hg
        · exact .inl rfl
        · exact .inr (List.mem_cons_of_mem _ hg)
    · rw [if_neg e]
      obtain ⟨i1, i2⟩ := apart_put G s t h.2
      refine ⟨?_, fun g hg => ?_⟩
      · simp only [Apart, List.pairwise_cons]
        refine ⟨fun g hg => ?_, i1⟩
        rcases i2 g hg with e2 | hg
        · rw [e2]; exact e
        · exact h.1 g hg
      · rcases List.mem_cons.1 hg with rfl | hg
        · exact .inr (List.mem_cons_self ..)
        · exact (i2 g hg).imp id (List.mem_cons_of_mem _)
theorem apart_del : ∀ (G : List (ByteArray × Tm)) (s : ByteArray), Apart G → Apart (Sp.del G s) ∧ ∀ g ∈ Sp.del G s, g.1 ≠ s ∧ g ∈ G
  | [], s, _ => ⟨by simp [Sp.del, Apart], fun g hg => by simp [Sp.del] at hg⟩
  | x :: G, s, h => by
    simp only [Apart, List.pairwise_cons] at h
    rw [Sp.del]
    by_cases e : x.1 = s
    · rw [if_pos e]
      exact ⟨h.2, fun g hg => ⟨fun e2 => h.1 g hg (by rw [e, e2]), List.mem_cons_of_mem _ hg⟩⟩
    · rw [if_neg e]
      obtain ⟨i1, i2⟩ := apart_del G s h.2
      refine ⟨?_, fun g hg => ?_⟩
      · simp only [Apart, List.pairwise_cons]
        exact ⟨fun g hg => h.1 g (i2 g hg).2, i1⟩
      · rcases List.mem_cons.1 hg with rfl | hg
        · exact ⟨e, List.mem_cons_self ..⟩
        · exact ⟨(i2 g hg).1, List.mem_cons_of_mem _ (i2 g hg).2⟩
theorem MapR.update {w : World} {S : Nat → Prop} {b : Nat} {G : List (ByteArray × Tm)} {es : Array MapEntry} {clock : Nat} (h : MapR w S b G es clock) (hS : ∀ k, S k → k ≠ b) {s : ByteArray} (hs : s.size ≤ maxLen) {t : Tm} {v : Value} (hv : t.V w S v) :
    ∃ es' clock', (Instr.mapUpdate 66 (.map (some b)) (.string s) v).run Try.prog w = .ok () (setBlock w b (.map es' clock')) ∧ MapR (setBlock w b (.map es' clock')) S b (Sp.put G s t) es' clock' := by
  have hV : ∀ o (t : Tm) (v : Value), t.V w S v → t.V (setBlock w b o) S v := fun o t v hv => t.V_same (fun k hk => setB_other (hS k hk)) (fun _ h => h) v hv
  have hsz : es.size = G.length := by rw [← h.len]; simp
  rcases h.find hs w with ⟨h1, h2⟩ | ⟨j, e, g, h1, h2, h3, h4, h5, h6⟩
  · refine ⟨es.push ⟨.string s, v, clock⟩, clock + 1, ?_, ⟨setB_same h.blk, ?_, ?_, (apart_put G s t h.apart).1⟩⟩
    · simp [Instr.mapUpdate, run_underlying Try.undMp, MapKept.run_getObj_map h.blk, strK.check w false (keyS hs), h1, MapKept.run_setObj_map _ h.blk, Result.andThen, setBlock]
    · rw [(look_none G s h2).2.1]; simp [hsz]
    · rw [(look_none G s h2).2.1]
      intro j x g hx hg
      rw [Array.toList_push] at hx
      by_cases hj : j < G.length
      · rw [List.getElem?_append_left (by rw [h.len]; exact hj)] at hx
        rw [List.getElem?_append_left hj] at hg
        obtain ⟨k1, k2, k3⟩ := h.ent j x g hx hg
        exact ⟨k1, k2, hV _ _ _ k3⟩
      · rw [List.getElem?_append_right (by rw [h.len]; omega), h.len] at hx
        rw [List.getElem?_append_right (by omega)] at hg
        by_cases hj0 : j - G.length = 0
        · rw [hj0] at hx hg
          simp at hx hg
          subst hx hg
          exact ⟨rfl, hs, hV _ _ _ hv⟩
        · rw [List.getElem?_eq_none (by simp; omega)] at hx; cases hx
  · have hj : j < es.toList.length := (List.getElem?_eq_some_iff.1 h2).1
    have hjs : es[j]? = some e := by simpa using h2
    have hlist : (es.modify j (fun e' => { e' with key := .string s, val := v })).toList = es.toList.set j { e with key := .string s, val := v } := by rw [Array.toList_modify, modify_eq_set _ _ _ _ h2]
    refine ⟨es.modify j (fun e' => { e' with key := .string s, val := v }), clock, ?_, ⟨setB_same h.blk, ?_, ?_, (apart_put G s t h.apart).1⟩⟩
    · simp [Instr.mapUpdate, run_underlying Try.undMp, MapKept.run_getObj_map h.blk, strK.check w false (keyS hs), h1, MapKept.run_setObj_map _ h.blk, Result.andThen, setBlock, hjs, h3, strK.stays w (keyS hs)]
    · rw [(look_at G s j g h.apart h4 h5).2.1, hlist]; simp [hsz]
    · rw [(look_at G s j g h.apart h4 h5).2.1, hlist]
      intro i x y hx hy
      by_cases hij : j = i
      · subst hij
        rw [List.getElem?_set_self hj] at hx
        rw [List.getElem?_set_self (by rw [← h.len]; exact hj)] at hy
        injection hx with hx; injection hy with hy
        subst hx hy
        exact ⟨rfl, hs, hV _ _ _ hv⟩
      · rw [List.getElem?_set_ne hij] at hx hy
        obtain ⟨k1, k2, k3⟩ := h.ent i x y hx hy
        exact ⟨k1, k2, hV _ _ _ k3⟩
theorem MapR.delete {w : World} {S : Nat → Prop} {b : Nat} {G : List (ByteArray × Tm)} {es : Array MapEntry} {clock : Nat} (h : MapR w S b G es clock) (hS : ∀ k, S k → k ≠ b) {s : ByteArray} (hs : s.size ≤ maxLen) :
    ∃ es', (∀ ty, (Builtin.delete_ #[66, 9] ty #[.map (some b), .string s]).run Try.prog w = .ok (.tuple #[]) (setBlock w b (.map es' clock))) ∧ MapR (setBlock w b (.map es' clock)) S b (Sp.del G s) es' clock := by
  have hV : ∀ o (t : Tm) (v : Value), t.V w S v → t.V (setBlock w b o) S v := fun o t v hv => t.V_same (fun k hk => setB_other (hS k hk)) (fun _ h => h) v hv
  rcases h.find hs w with ⟨h1, h2⟩ | ⟨j, e, g, h1, h2, h3, h4, h5, h6⟩
  · refine ⟨es, ?_, ⟨setB_same h.blk, ?_, ?_, (apart_del G s h.apart).1⟩⟩
    · intro ty; simp [Builtin.delete_, run_underlying Try.undMp, MapKept.run_getObj_map h.blk, strK.check w _ (keyS hs), h1, MapKept.run_setObj_map _ h.blk, Result.andThen, setBlock]
    · rw [(look_none G s h2).2.2]; exact h.len
    · rw [(look_none G s h2).2.2]
      intro j x g hx hg
      obtain ⟨k1, k2, k3⟩ := h.ent j x g hx hg
      exact ⟨k1, k2, hV _ _ _ k3⟩
  · have hj : j < es.toList.length := (List.getElem?_eq_some_iff.1 h2).1
    have hjs : j < es.size := by simpa using hj
    have hsub : (es.eraseIdxIfInBounds j).toList = es.toList.eraseIdx j := by
      unfold Array.eraseIdxIfInBounds
      rw [dif_pos hjs]
      simp
    refine ⟨es.eraseIdxIfInBounds j, ?_, ⟨setB_same h.blk, ?_, ?_, (apart_del G s h.apart).1⟩⟩
    · intro ty; simp [Builtin.delete_, run_underlying Try.undMp, MapKept.run_getObj_map h.blk, strK.check w _ (keyS hs), h1, MapKept.run_setObj_map _ h.blk, Result.andThen, setBlock]
    · rw [(look_at G s j g h.apart h4 h5).2.2, hsub, List.length_eraseIdx, List.length_eraseIdx, h.len]
    · rw [(look_at G s j g h.apart h4 h5).2.2, hsub]
      intro i x y hx hy
      rw [List.getElem?_eraseIdx] at hx hy
      by_cases hij : i < j
      · rw [if_pos hij] at hx hy
        obtain ⟨k1, k2, k3⟩ := h.ent i x y hx hy
        exact ⟨k1, k2, hV _ _ _ k3⟩
      · rw [if_neg hij] at hx hy
        obtain ⟨k1, k2, k3⟩ := h.ent (i + 1) x y hx hy
        exact ⟨k1, k2, hV _ _ _ k3⟩
/-- the blocks but the map's own two -/
def Ex (w : World) (b mb : Nat) : Nat → Prop := fun k => k < w.heap.size ∧ k ≠ b ∧ k ≠ mb
/-- a digest.Map lies at mb, and keeps G -/
structure DM (w : World) (mb : Nat) (G : List (ByteArray × Tm)) : Prop where
  can : ∀ g ∈ G, g.2.all.e = 0 ∧ g.2.Bdd
  lies : ∃ kv, w.heap[mb]? = some (.cells #[kv] 68 (0, 0)) ∧ ((kv = .map none ∧ G = []) ∨ ∃ b es clock, kv = .map (some b) ∧ mb < b ∧ MapR w (Ex w b mb) b G es clock)
theorem heap_lt {w : World} {k : Nat} {o : Obj} (h : w.heap[k]? = some o) : k < w.heap.size := by
  by_cases hk : k < w.heap.size
  · exact hk
  · rw [Array.getElem?_eq_none (by omega)] at h; exact absurd h (by simp)
theorem DM.lt {w : World} {mb : Nat} {G : List (ByteArray × Tm)} (h : DM w mb G) : mb < w.heap.size := by obtain ⟨kv, h1, _⟩ := h.lies; exact heap_lt h1
theorem DM.call {w w' : World} {mb : Nat} {G : List (ByteArray × Tm)} (h : DM w mb G) (hb : Below w.heap.size w w') : DM w' mb G := by
  refine ⟨h.can, ?_⟩
  obtain ⟨kv, h1, h2⟩ := h.lies
  refine ⟨kv, by rw [hb.block _ (heap_lt h1)]; exact h1, ?_⟩
  rcases h2 with h2 | ⟨b, es, clock, e, hne, hm⟩
  · exact .inl h2
  · refine .inr ⟨b, es, clock, e, hne, ⟨by rw [hb.block _ (heap_lt hm.blk)]; exact hm.blk, hm.len, fun j x g hx hg => ?_, hm.apart⟩⟩
    obtain ⟨k1, k2, k3⟩ := hm.ent j x g hx hg
    exact ⟨k1, k2, g.2.V_same (B := Ex w b mb) (fun k hk => hb.block k hk.1) (fun k hk => ⟨Nat.lt_of_lt_of_le hk.1 hb.size, hk.2⟩) _ k3⟩
theorem look_can {G : List (ByteArray × Tm)} {s : ByteArray} {t : Tm} : (∀ g ∈ G, g.2.all.e = 0 ∧ g.2.Bdd) → Sp.look G s = some t → t.all.e = 0 ∧ t.Bdd := by
  induction G with
  | nil => intro _ h; simp [Sp.look] at h
  | cons g G ih =>
    intro hc h
    rw [Sp.look] at h
    split at h
    · injection h with h; subst h; exact hc g (List.mem_cons_self ..)
    · exact ih (fun x hx => hc x (List.mem_cons_of_mem _ hx)) h
theorem put_mem : ∀ (G : List (ByteArray × Tm)) (s : ByteArray) (t : Tm), ∀ g ∈ Sp.put G s t, g = (s, t) ∨ g ∈ G
  | [], s, t, g, hg => by simp [Sp.put] at hg; exact .inl hg
  | x :: G, s, t, g, hg => by
    rw [Sp.put] at hg
    split at hg
    · rcases List.mem_cons.1 hg with rfl | hg
      · exact .inl rfl
      · exact .inr (List.mem_cons_of_mem _ hg)
    · rcases List.mem_cons.1 hg with rfl | hg
      · exact .inr (List.mem_cons_self ..)
      · exact (put_mem G s t g hg).imp id (List.mem_cons_of_mem _)
end Go.Proofs.Ytadcbhdhgobknaa

