/- graph.connect: how the rows of where nodes lead lie, and how they grow. -/
import Derived.Test.YtikhpbidbcfedaaGreatKp9
import Derived.Deep.Cut
import Derived.Test.YtikhpbidbcfedaaGreatKp7
namespace Go.Proofs.YtikhpbidbcfedaaGreat
open Go.RowKit Go.ChangeMaps

theorem Srt.refl (w : World) (gs : Option Nat) : Srt w gs w := ⟨rfl, rfl, rfl, Nat.le_refl _, fun _ _ _ => rfl⟩
theorem Srt.trans {a b d : World} {gs : Option Nat} (h : Srt a gs b) (k : Srt b gs d) : Srt a gs d := ⟨k.1.trans h.1, k.2.1.trans h.2.1, k.2.2.1.trans h.2.2.1, Nat.le_trans h.2.2.2.1 k.2.2.2.1, fun j h1 h2 => (k.2.2.2.2 j (Nat.lt_of_lt_of_le h1 h.2.2.2.1) h2).trans (h.2.2.2.2 j h1 h2)⟩
theorem Srt.alloc {a w : World} {gs : Option Nat} (h : Srt a gs w) (o : Obj) : Srt a gs (w.alloc o) := h.trans ⟨rfl, rfl, rfl, by simp, fun j h1 _ => Below.heap_alloc w o j h1⟩
theorem Srt.drew {a w : World} {gs : Option Nat} (h : Srt a gs w) : Srt a gs w.drew := h
theorem Srt.drewN {a w : World} {gs : Option Nat} (h : Srt a gs w) (q : Nat) : Srt a gs (w.drewN q) := h
theorem Srt.set {a w : World} {x o : Nat} (h : Srt a (some x) w) (c : Nat) (hc : c = x ∨ a.heap.size ≤ c) (v : Value) : Srt a (some x) (w.setCell ⟨c, o, none⟩ v) :=
  ⟨h.1, h.2.1, h.2.2.1, by simpa [World.setCell] using h.2.2.2.1, fun j h1 h2 => (Below.heap_setCell w _ v j (show j ≠ c by rcases hc with rfl | hc; exact fun e => h2 (by rw [e]); omega)).trans (h.2.2.2.2 j h1 h2)⟩
theorem Srt.grown {a w w' : World} {x : Nat} {r : Option Nat} (h : Srt a (some x) w) (hg : w.grownBy w' r) (hr : ∀ k, r = some k → k = x ∨ a.heap.size ≤ k) : Srt a (some x) w' :=
  ⟨hg.os.trans h.1, hg.tape.trans h.2.1, hg.output.trans h.2.2.1, Nat.le_trans h.2.2.2.1 hg.size, fun j h1 h2 => (hg.block j (Nat.lt_of_lt_of_le h1 h.2.2.2.1) (fun e => by rcases hr j e.symm with h3 | h3; exact h2 (by rw [h3]); omega)).trans (h.2.2.2.2 j h1 h2)⟩

abbrev iv (l : List Int) : List Value := l.map (Value.int .i64)
theorem iv_one (l : List Int) : ∀ u ∈ iv l, u.oneCell' = true := fun u hu => by
  obtain ⟨x, _, rfl⟩ := List.mem_map.1 hu; rfl
theorem Tryz.infoIn : (Tryz.prog.info? 3).map (fun i => (i.zero, i.size, i.bytes)) = some (some (.int .i64 0), 1, 8) := by kernel_rfl
theorem Tryz.undIs : Tryz.prog.underlying 60 = some (.slice 3) := by kernel_rfl
def NdI (w : World) (gs : Option Nat) (c : Nat) (l : List Int) : Prop := (gs = none → l = [] ∧ c = 0) ∧ ∀ g, gs = some g → OwnR w 3 g l.length c (iv l)
theorem NdI.keep {w w' : World} {gs : Option Nat} {c : Nat} {l : List Int} (h : NdI w gs c l) (hb : ∀ g, gs = some g → w'.heap[g]? = w.heap[g]?) : NdI w' gs c l := ⟨h.1, fun g hg => (h.2 g hg).keep (hb g hg)⟩
structure NxR (w : World) (lo xb n : Nat) (bl : Nat → Option Nat) (cp : Nat → Nat) (R : Nat → List Int) : Prop where
  blk : ∃ cur : Array Value, w.heap[xb]? = some (.cells cur 60 (0, 0)) ∧ cur.size = n ∧ ∀ t, t < n → cur[t]? = some (.slice (adr (bl t)) (R t).length (cp t))
  row : ∀ t, t < n → NdI w (bl t) (cp t) (R t)
  lo : ∀ t g, t < n → bl t = some g → lo ≤ g
  ap : ∀ t t' g, t < n → t' < n → bl t = some g → bl t' = some g → t = t'
theorem NxR.cell {w : World} {lo xb n : Nat} {bl : Nat → Option Nat} {cp : Nat → Nat} {R : Nat → List Int} (h : NxR w lo xb n bl cp R) {t : Nat} (ht : t < n) : w.cell? ⟨xb, t, none⟩ = some (.slice (adr (bl t)) (R t).length (cp t)) ∧ w.frozen? ⟨xb, t, none⟩ = false := by
  obtain ⟨cur, h1, h2, h3⟩ := h.blk
  exact ⟨by simp only [World.cell?, h1]; exact h3 t ht, by simp [World.frozen?, h1]⟩
theorem NxR.keep {w w' : World} {lo xb n : Nat} {bl : Nat → Option Nat} {cp : Nat → Nat} {R : Nat → List Int} (h : NxR w lo xb n bl cp R) (hx : w'.heap[xb]? = w.heap[xb]?) (hb : ∀ t g, t < n → bl t = some g → w'.heap[g]? = w.heap[g]?) : NxR w' lo xb n bl cp R := by
  obtain ⟨cur, h1, h2⟩ := h.blk
  exact ⟨⟨cur, hx.trans h1, h2⟩, fun t ht => (h.row t ht).keep (fun g hg => hb t g ht hg), h.lo, h.ap⟩
theorem NxR.lt {w : World} {lo xb n : Nat} {bl : Nat → Option Nat} {cp : Nat → Nat} {R : Nat → List Int} (h : NxR w lo xb n bl cp R) : xb < w.heap.size ∧ ∀ t g, t < n → bl t = some g → g < w.heap.size := by
  obtain ⟨cur, h1, h2⟩ := h.blk
  exact ⟨(Array.getElem?_eq_some_iff.1 h1).1, fun t g ht hg => ((h.row t ht).2 g hg).lt⟩
theorem NxR.put {w w1 : World} {lo xb n f : Nat} {bl : Nat → Option Nat} {cp : Nat → Nat} {R : Nat → List Int} {g' c' : Nat} {l' : List Int} (h : NxR w lo xb n bl cp R) (hf : f < n) (hxl : xb < lo)
    (hx : w1.heap[xb]? = w.heap[xb]?) (hk : ∀ k, k < w.heap.size → bl f ≠ some k → w1.heap[k]? = w.heap[k]?) (ho : OwnR w1 3 g' l'.length c' (iv l')) (hg : bl f = some g' ∨ w.heap.size ≤ g') (hlo : lo ≤ w.heap.size) :
    NxR (w1.setCell ⟨xb, f, none⟩ (.slice (some ⟨g', 0, none⟩) l'.length c')) lo xb n (fun t => if t = f then some g' else bl t) (fun t => if t = f then c' else cp t) (fun t => if t = f then l' else R t) := by
  obtain ⟨cur, h1, h2, h3⟩ := h.blk
  have hlt := h.lt
  have hgx : g' ≠ xb := by rcases hg with hg | hg; have := h.lo f g' hf hg; omega; omega
  have e1 : (w1.setCell ⟨xb, f, none⟩ (.slice (some ⟨g', 0, none⟩) l'.length c')).heap[xb]? = some (.cells (cur.setIfInBounds f (.slice (some ⟨g', 0, none⟩) l'.length c')) 60 (0, 0)) := by
    rw [Sort.setCell_eq]; show (w1.heap.modify xb _)[xb]? = _
    rw [Array.getElem?_modify, if_pos rfl, hx, h1]; rfl
  have e2 : ∀ k, k ≠ xb → (w1.setCell ⟨xb, f, none⟩ (.slice (some ⟨g', 0, none⟩) l'.length c')).heap[k]? = w1.heap[k]? := fun k hk => Below.heap_setCell w1 _ _ k hk
  refine ⟨⟨_, e1, by simpa using h2, fun t ht => ?_⟩, fun t ht => ?_, fun t g ht hgt => ?_, fun t t' g ht ht' hgt hgt' => ?_⟩
  · rw [Array.getElem?_setIfInBounds]
    by_cases e : f = t
    · subst e; rw [if_pos rfl, if_pos (by omega)]; simp [adr]
    · rw [if_neg e, if_neg (Ne.symm e), if_neg (Ne.symm e), if_neg (Ne.symm e)]; exact h3 t ht
  · by_cases e : t = f
    · simp only [if_pos e]
      refine ⟨(fun hc => by cases hc), fun g hgg => ?_⟩
      injection hgg with hgg; subst hgg
      exact ho.keep (e2 g' hgx)
    · simp only [if_neg e]
      refine (h.row t ht).keep fun g hgt => ?_
      have hgl := hlt.2 t g ht hgt
      have := h.lo t g ht hgt
      exact (e2 g (by omega)).trans (hk g hgl (fun e' => e (h.ap t f g ht hf hgt e')))
  · by_cases e : t = f
    · simp only [if_pos e] at hgt; injection hgt with hgt; subst hgt
      rcases hg with hg | hg
      · exact h.lo f g' hf hg
      · omega
    · simp only [if_neg e] at hgt; exact h.lo t g ht hgt
  · by_cases e : t = f
    · by_cases e' : t' = f
      · omega
      · simp only [if_pos e] at hgt; simp only [if_neg e'] at hgt'
        injection hgt with hgt; subst hgt
        exfalso
        rcases hg with hg | hg
        · exact e' (h.ap t' f g' ht' hf hgt' hg)
        · have := hlt.2 t' g' ht' hgt'; omega
    · by_cases e' : t' = f
      · simp only [if_neg e] at hgt; simp only [if_pos e'] at hgt'
        injection hgt' with hgt'; subst hgt'
        exfalso
        rcases hg with hg | hg
        · exact e (h.ap t f g' ht hf hgt hg)
        · have := hlt.2 t g' ht hgt; omega
      · simp only [if_neg e] at hgt; simp only [if_neg e'] at hgt'; exact h.ap t t' g ht ht' hgt hgt'
theorem appI (gs : Option Nat) (c : Nat) (l : List Int) (w : World) (h : NdI w gs c l) (x : Int) (hl : l.length * 8 ≤ 140737488355328) (ty : TypeId) :
    ∃ g' c' w', (Builtin.append_ #[60, 60] ty #[.slice (adr gs) l.length c, .slice (some ⟨w.heap.size, 0, none⟩) 1 1]).run Tryz.prog (w.alloc (.cells #[.int .i64 x] 3)) = .ok (.slice (some ⟨g', 0, none⟩) (l.length + 1) c') w' ∧
      OwnR w' 3 g' (l.length + 1) c' (iv (l ++ [x])) ∧ (w.alloc (.cells #[.int .i64 x] 3)).grownBy w' gs ∧ (gs = some g' ∨ w.heap.size < g') := by
  obtain ⟨i0, hi, hz0, hz1, hz2⟩ := info_parts Tryz.infoIn
  have hlx : ∀ j u, [Value.int .i64 x][j]? = some u → (w.alloc (.cells #[.int .i64 x] 3)).cell? ((⟨w.heap.size, 0, none⟩ : Addr).add j) = some u := cell_one_new _ _ _
  cases gs with
  | some g =>
    have ho := (h.2 g rfl).keep (Below.heap_alloc w (.cells #[.int .i64 x] 3) g (h.2 g rfl).lt)
    obtain ⟨g', c', w', h1, h2, h3, h4⟩ := run_appS (P := Tryz.prog) (w.alloc (.cells #[.int .i64 x] 3)) 60 60 ty 3 i0 (.int .i64 0) 8 Tryz.undIs hi hz0 hz1 hz2 rfl g l.length c (iv l) ho _ 1 [.int .i64 x] (Src.ofSlice _ Tryz.undIs ⟨w.heap.size, 0, none⟩ 1 1 [.int .i64 x] rfl hlx (fun u hu => by simp at hu; subst hu; rfl)) (by omega) (by decide)
    exact ⟨g', c', w', h1, by simpa [iv] using h2, h3, h4.imp (fun e => by rw [e]) (fun e => by rw [e, al_size]; omega)⟩
  | none =>
    obtain ⟨rfl, rfl⟩ := h.1 rfl
    have hr := run_append_nil (P := Tryz.prog) (w.alloc (.cells #[.int .i64 x] 3)) 60 ty 3 i0 (.int .i64 0) Tryz.undIs hi hz0 ⟨w.heap.size, 0, none⟩ 1 1 [.int .i64 x] (by rw [hz1]; rfl) hlx (by decide) (by decide) (by rw [hz2]; decide)
    have hge := grownCap_ge (w.alloc (.cells #[.int .i64 x] 3)) 1 0 3
    have hcm := grownCap_le_maxLen (w.alloc (.cells #[.int .i64 x] 3)) 1 0 3 (by simp [maxLen])
    refine ⟨_, _, _, hr, ⟨by simp [iv], _, heap_alloc_new _ _, by simpa using hge, hcm, ?_, ?_⟩, ⟨rfl, rfl, rfl, by simp, fun k hk _ => heap_alloc_old (w.alloc (.cells #[.int .i64 x] 3)).drew _ hk⟩, .inr (by rw [al_size]; omega)⟩
    · simp only [Array.size_append, List.size_toArray, size_zeroCells, List.length_cons, List.length_nil]
      have : (Value.int .i64 0).cells.size = 1 := rfl
      rw [this]; omega
    · simp [iv]
end Go.Proofs.YtikhpbidbcfedaaGreat

/- graph.connect: plain facts, and its first loop. -/
namespace Go.Proofs.YtikhpbidbcfedaaGreat
open Go.RowKit Go.ChangeMaps

structure EdgesAt (w : World) (B : Nat) (a : Option Addr) (E : List (Int × Int)) : Prop where
  row : ∀ t e, E[t]? = some e → ∃ b o, a = some ⟨b, o, none⟩ ∧ b < B ∧ w.cell? ⟨b, o + t * 2, none⟩ = some (.int .u64 e.1) ∧ w.cell? ⟨b, o + t * 2 + 1, none⟩ = some (.int .u64 e.2)
  nil : E = [] → a = none ∨ ∃ b o, a = some ⟨b, o, none⟩
  bd : ∀ e ∈ E, (0 ≤ e.1 ∧ e.1 < 18446744073709551616) ∧ 0 ≤ e.2 ∧ e.2 < 18446744073709551616
theorem EdgesAt.keep {w w' : World} {B : Nat} {a : Option Addr} {E : List (Int × Int)} (h : EdgesAt w B a E) (hs : ∀ k, k < B → w'.heap[k]? = w.heap[k]?) : EdgesAt w' B a E := ⟨fun t e he => by
  obtain ⟨b, o, h1, h2, h3, h4⟩ := h.row t e he
  exact ⟨b, o, h1, h2, by rw [World.cell?_of_block (w := w) (hs b h2)]; exact h3, by rw [World.cell?_of_block (w := w) (hs b h2)]; exact h4⟩, h.nil, h.bd⟩

def Sp.rw (N : List Int) (E : List (Int × Int)) (t : Nat) : List Int := (E.filter fun e => e.1 == N.getD t 0).map fun e => (N.idxOf e.2 : Int)
theorem rw_len (N : List Int) (E : List (Int × Int)) (t : Nat) : (Sp.rw N E t).length ≤ E.length := by
  unfold Sp.rw; rw [List.length_map]; exact List.length_filter_le _ _
theorem idx_of {N : List Int} (hn : N.Nodup) {t : Nat} {x : Int} (h : N[t]? = some x) : N.idxOf x = t := by
  obtain ⟨ht, rfl⟩ := List.getElem?_eq_some_iff.1 h
  exact hn.idxOf_getElem t ht
theorem rw_snoc {N : List Int} (hn : N.Nodup) (E : List (Int × Int)) {f p : Nat} {e : Int × Int} (hf : N[f]? = some e.1) (hp : N[p]? = some e.2) {t : Nat} (ht : t < N.length) : Sp.rw N (E ++ [e]) t = if t = f then Sp.rw N E f ++ [(p : Int)] else Sp.rw N E t := by
  unfold Sp.rw
  rw [List.filter_append, List.map_append]
  have hte : (e.1 == N.getD t 0) = decide (t = f) := by
    rw [Bool.eq_iff_iff, beq_iff_eq, decide_eq_true_eq, List.getD_eq_getElem?_getD, List.getElem?_eq_getElem ht]
    simp only [Option.getD_some]
    constructor
    · intro h
      have h1 : N[t]? = some e.1 := by rw [List.getElem?_eq_getElem ht, h]
      rw [← idx_of hn h1, ← idx_of hn hf]
    · rintro rfl
      rw [List.getElem?_eq_getElem ht] at hf
      exact (Option.some.inj hf).symm
  by_cases e1 : t = f
  · rw [if_pos e1, List.filter_cons, hte, decide_eq_true e1, ← e1]
    simp [idx_of hn hp]
  · rw [if_neg e1, List.filter_cons, hte, decide_eq_false e1]
    simp

structure CnG (w : World) (gb mb xb n : Nat) (v0 : Value) (G : List (Int × Int)) (es : Array MapEntry) (ck : Nat) (N : List Int) : Prop where
  cells : w.heap[gb]? = some (.cells #[v0, .map (some mb), .slice (some ⟨xb, 0, none⟩) n n] 72 (0, 0))
  mp : MpI w mb G es ck
  fro : ∀ k v, (k, v) ∈ G → ∃ t : Nat, v = t ∧ N[t]? = some k
  to : ∀ k, k ∈ N → ∃ v, (k, v) ∈ G
  ne : gb ≠ xb ∧ mb ≠ xb
  len : N.length = n
  nd : N.Nodup
theorem CnG.keep {w w' : World} {gb mb xb n : Nat} {v0 : Value} {G : List (Int × Int)} {es : Array MapEntry} {ck : Nat} {N : List Int} (h : CnG w gb mb xb n v0 G es ck N) (hs : Srt w (some xb) w') : CnG w' gb mb xb n v0 G es ck N :=
  ⟨(hs.2.2.2.2 gb (Array.getElem?_eq_some_iff.1 h.cells).1 (fun e => h.ne.1 (Option.some.inj e).symm)).trans h.cells, h.mp.keep (hs.2.2.2.2 mb (Array.getElem?_eq_some_iff.1 h.mp.blk).1 (fun e => h.ne.2 (Option.some.inj e).symm)), h.fro, h.to, h.ne, h.len, h.nd⟩
theorem CnG.cell {w : World} {gb mb xb n : Nat} {v0 : Value} {G : List (Int × Int)} {es : Array MapEntry} {ck : Nat} {N : List Int} (h : CnG w gb mb xb n v0 G es ck N) : w.cell? ⟨gb, 1, none⟩ = some (.map (some mb)) ∧ w.cell? ⟨gb, 2, none⟩ = some (.slice (some ⟨xb, 0, none⟩) n n) :=
  ⟨by simp [World.cell?, h.cells], by simp [World.cell?, h.cells]⟩
theorem CnG.look {w : World} {gb mb xb n : Nat} {v0 : Value} {G : List (Int × Int)} {es : Array MapEntry} {ck : Nat} {N : List Int} (h : CnG w gb mb xb n v0 G es ck N) {x : Int} (h0 : 0 ≤ x) (h1 : x < 18446744073709551616) :
    ((∀ W : World, W.heap[mb]? = w.heap[mb]? → (Instr.lookup 69 (.map (some mb)) (.int .u64 x) true).run Tryz.prog W = .ok (.tuple #[.int .i64 0, .bool false]) W) ∧ x ∉ N) ∨ ∃ t : Nat, (∀ W : World, W.heap[mb]? = w.heap[mb]? → (Instr.lookup 69 (.map (some mb)) (.int .u64 x) true).run Tryz.prog W = .ok (.tuple #[.int .i64 t, .bool true]) W) ∧ N[t]? = some x := by
  by_cases hx : x ∈ N
  · obtain ⟨v, hv⟩ := h.to x hx
    obtain ⟨t, rfl, ht⟩ := h.fro x v hv
    refine .inr ⟨t, fun W hW => ?_, ht⟩
    rcases (h.mp.keep hW).lookup h0 h1 with ⟨_, h3⟩ | ⟨v', h2, h3⟩
    · exact absurd rfl (h3 _ hv)
    · obtain ⟨t', rfl, ht'⟩ := h.fro x v' h3
      rw [h2, ← idx_of h.nd ht, ← idx_of h.nd ht']
  · refine .inl ⟨fun W hW => ?_, hx⟩
    rcases (h.mp.keep hW).lookup h0 h1 with ⟨h2, _⟩ | ⟨v', h2, h3⟩
    · exact h2
    · obtain ⟨t', _, ht'⟩ := h.fro x v' h3
      exact absurd (List.mem_of_getElem? ht') hx
end Go.Proofs.YtikhpbidbcfedaaGreat

/- slices.Sort and slices.Compact at ints, told of rows of one's own; rising rows without repeats. -/
namespace Go.Proofs.YtikhpbidbcfedaaGreat
open Go.RowKit Go.ChangeMaps

theorem put_own {w : World} {e : TypeId} {g n c : Nat} {l : List Int} (h : OwnR w e g n c (iv l)) (d' : List Int) (hd : d'.length = n) (q : Nat) (os : Array Obj) :
    OwnR (Sort.grow (Sort.putRow (Value.int .i64) (Sort.ahead w q) g 0 d'.toArray) os) e g n c (iv d') ∧ Srt w (some g) (Sort.grow (Sort.putRow (Value.int .i64) (Sort.ahead w q) g 0 d'.toArray) os) := by
  obtain ⟨cur, h1, h2, h3, h4, h5⟩ := h.blk
  have hg : g < w.heap.size := (Array.getElem?_eq_some_iff.1 h1).1
  have e0 : ∀ k, k < w.heap.size → (Sort.grow (Sort.putRow (Value.int .i64) (Sort.ahead w q) g 0 d'.toArray) os).heap[k]? = (w.heap.modify g (Sort.onCells (Sort.putCells (Value.int .i64) 0 d'.toArray)))[k]? := fun k hk => by
    show ((w.heap.modify g _) ++ os)[k]? = _
    rw [Array.getElem?_append_left (by simpa using hk)]
  refine ⟨⟨by simp [iv, hd], Sort.putCells (Value.int .i64) 0 d'.toArray cur, ?_, h2, h3, by simpa [Sort.putCells] using h4, ?_⟩, rfl, rfl, rfl, ?_, fun j h6 h7 => ?_⟩
  · rw [e0 g hg, Array.getElem?_modify, if_pos rfl, h1]; rfl
  · apply List.ext_getElem?
    intro t
    by_cases ht : t < n
    · rw [List.getElem?_take, if_pos ht]
      have htc : t < cur.size := by omega
      have htd : t < d'.length := by omega
      simp [iv, Sort.putCells, htc, htd]
    · rw [List.getElem?_eq_none (by simp [iv]; omega), List.getElem?_eq_none (by simp; omega)]
  · show w.heap.size ≤ ((w.heap.modify g _) ++ os).size
    simp
  · rw [e0 j h6, Array.getElem?_modify, if_neg (fun e => h7 (by rw [e]))]
theorem OwnR.shrink {w : World} {e : TypeId} {g n c m : Nat} {xs : List Value} (h : OwnR w e g n c xs) (hm : m ≤ n) : OwnR w e g m c (xs.take m) := by
  obtain ⟨cur, h1, h2, h3, h4, h5⟩ := h.blk
  exact ⟨by rw [List.length_take, h.len]; omega, cur, h1, by omega, h3, h4, by rw [h5, List.take_take, Nat.min_eq_left hm]⟩
theorem OwnR.holdsI {w : World} {e : TypeId} {g n cap : Nat} {l : List Int} (h : OwnR w e g n cap (iv l)) : Sort.Holds (Value.int .i64) w g 0 l.toArray := fun j hj => by
  have hj' : j < l.length := by simpa using hj
  refine ⟨?_, h.free _⟩
  rw [Nat.zero_add, h.cell (t := j) (x := .int .i64 l[j]) (by simp [hj'])]
  simp [hj']
theorem comp_len (l : List Int) : (Lib.compact l).length ≤ l.length := by
  unfold Lib.compact Lib.compactUpTo
  rw [List.length_map]
  have := List.length_filter_le (Lib.keeps l.toArray) (List.range l.length)
  simpa using this
theorem comp_invA (d : Array Int) (hs : ∀ i j, i ≤ j → j < d.size → d[i]! ≤ d[j]!) : ∀ m, m ≤ d.size → (Lib.compactUpTo d m).Pairwise (· < ·) ∧ ∀ x, x ∈ Lib.compactUpTo d m ↔ ∃ j, j < m ∧ d[j]! = x
  | 0, _ => ⟨by simp [Lib.compactUpTo], fun x => by simp [Lib.compactUpTo]⟩
  | m + 1, hm => by
    obtain ⟨h1, h2⟩ := comp_invA d hs m (by omega)
    rw [Lib.compactUpTo_succ]
    by_cases hk : Lib.keeps d m = true
    · rw [if_pos hk]
      have hkk : m = 0 ∨ d[m]! ≠ d[m - 1]! := by simpa [Lib.keeps] using hk
      refine ⟨?_, fun x => ?_⟩
      · rw [List.pairwise_append]
        refine ⟨h1, by simp, fun y hy z hz => ?_⟩
        simp at hz; subst hz
        obtain ⟨j, hj, rfl⟩ := (h2 y).1 hy
        have a1 := hs j (m - 1) (by omega) (by omega)
        have a2 := hs (m - 1) m (by omega) (by omega)
        rcases hkk with h | h
        · omega
        · omega
      · rw [List.mem_append, h2 x, List.mem_singleton]
        constructor
        · rintro (⟨j, hj, e⟩ | e)
          · exact ⟨j, by omega, e⟩
          · exact ⟨m, by omega, e.symm⟩
        · rintro ⟨j, hj, e⟩
          by_cases hjm : j = m
          · subst hjm; exact .inr e.symm
          · exact .inl ⟨j, by omega, e⟩
    · rw [if_neg hk, List.append_nil]
      have hkk : ¬ (m = 0 ∨ d[m]! ≠ d[m - 1]!) := by simpa [Lib.keeps] using hk
      refine ⟨h1, fun x => ?_⟩
      rw [h2 x]
      constructor
      · rintro ⟨j, hj, e⟩; exact ⟨j, by omega, e⟩
      · rintro ⟨j, hj, e⟩
        by_cases hjm : j = m
        · subst hjm
          refine ⟨j - 1, by omega, ?_⟩
          rw [← e]
          apply Classical.byContradiction
          intro hne
          exact hkk (.inr (fun h => hne h.symm))
        · exact ⟨j, by omega, e⟩
theorem comp_inv (l : List Int) (hs : l.Pairwise (· ≤ ·)) : (Lib.compact l).Pairwise (· < ·) ∧ ∀ x, x ∈ Lib.compact l ↔ x ∈ l := by
  have h := comp_invA l.toArray (fun i j hij hj => by
    have hj' : j < l.length := by simpa using hj
    have hi' : i < l.length := by omega
    simp [hj', hi']
    rcases Nat.lt_or_ge i j with h | h
    · exact List.pairwise_iff_getElem.1 hs i j hi' hj' h
    · obtain rfl : i = j := by omega
      exact Int.le_refl _) l.length (by simp)
  refine ⟨h.1, fun x => (h.2 x).trans ?_⟩
  rw [List.mem_iff_getElem]
  constructor
  · rintro ⟨j, hj, e⟩; exact ⟨j, hj, by simpa [hj] using e⟩
  · rintro ⟨j, hj, e⟩; exact ⟨j, hj, by simpa [hj] using e⟩
theorem sortI (gs : Option Nat) (c : Nat) (l : List Int) (w : World) (h : NdI w gs c l) (hl : l.length < 4611686018427387904) :
    Calls Tryz.prog 49 #[.slice (adr gs) l.length c] w fun e w' => e = .returned (.tuple #[]) ∧ NdI w' gs c (Sp.srt l) ∧ Srt w gs w' := by
  cases gs with
  | none =>
    obtain ⟨rfl, rfl⟩ := h.1 rfl
    refine (Tryz.slices_Sort_int_none none 0 w).mono ?_
    rintro e w' ⟨rfl, rfl⟩
    exact ⟨rfl, ⟨fun _ => ⟨by simp [Sp.srt], rfl⟩, fun g hg => by cases hg⟩, Srt.refl _ _⟩
  | some g =>
    have ho := h.2 g rfl
    refine (Tryz.slices_Sort_int g 0 c l w ho.holdsI ho.lt hl).mono ?_
    rintro e w' ⟨rfl, q, os, rfl⟩
    have hp := put_own ho (Sp.srt l) (srt_len l) q os
    refine ⟨rfl, ⟨(fun h => by cases h), fun g' hg => ?_⟩, hp.2⟩
    injection hg with hg; subst hg
    rw [srt_len]; exact hp.1
theorem compI (gs : Option Nat) (c : Nat) (l : List Int) (w : World) (h : NdI w gs c l) (hl : l.length ≤ 9223372036854775807) :
    Calls Tryz.prog 50 #[.slice (adr gs) l.length c] w fun e w' => e = .returned (.slice (adr gs) (Lib.compact l).length c) ∧ NdI w' gs c (Lib.compact l) ∧ Srt w gs w' := by
  cases gs with
  | none =>
    obtain ⟨rfl, rfl⟩ := h.1 rfl
    refine (Tryz.slices_Compact_int_empty none 0 w).mono ?_
    rintro e w' ⟨rfl, rfl⟩
    exact ⟨rfl, ⟨fun _ => ⟨rfl, rfl⟩, fun g hg => by cases hg⟩, Srt.refl _ _⟩
  | some g =>
    have ho := h.2 g rfl
    obtain ⟨cur, _, hcap, _⟩ := ho.blk
    refine (Tryz.slices_Compact_int g 0 c l w ho.holdsI hl hcap).mono ?_
    rintro e w' ⟨rfl, q, rfl⟩
    have hcl : (Lib.compact l).length ≤ l.length := comp_len l
    have hp := put_own ho (Lib.compact l ++ List.replicate (l.length - (Lib.compact l).length) 0) (by simp; omega) q #[]
    rw [Sort.grow_empty] at hp
    refine ⟨rfl, ⟨(fun h => by cases h), fun g' hg => ?_⟩, hp.2⟩
    injection hg with hg; subst hg
    have := hp.1.shrink hcl
    rw [show (iv (Lib.compact l ++ List.replicate (l.length - (Lib.compact l).length) 0)).take (Lib.compact l).length = iv (Lib.compact l) from by rw [iv, List.map_append]; exact List.take_left' (by simp)] at this
    exact this
theorem comp_nx {N : List Int} {E : List (Int × Int)} (hn : N.Nodup) (hE : ∀ e ∈ E, e.1 ∈ N ∧ e.2 ∈ N) {t : Nat} (ht : t < N.length) : Lib.compact (Sp.srt (Sp.rw N E t)) = (Sp.nx N E t).map (fun j : Nat => (j : Int)) := by
  have hc := comp_inv (Sp.srt (Sp.rw N E t)) (srt_le _)
  have hgt : N.getD t 0 = N[t] := by rw [List.getD_eq_getElem?_getD, List.getElem?_eq_getElem ht]; rfl
  refine ext_ltI hc.1 ?_ fun x => ?_
  · rw [List.pairwise_map]; exact (nx_lt N E t).imp (by intro a b h; omega)
  · rw [hc.2 x, srt_mem]
    unfold Sp.rw
    simp only [List.mem_map, List.mem_filter, beq_iff_eq]
    constructor
    · rintro ⟨e, ⟨h1, h2⟩, rfl⟩
      obtain ⟨_, h3⟩ := hE e h1
      have hl := List.idxOf_lt_length_of_mem h3
      refine ⟨N.idxOf e.2, nx_mem.2 ⟨hl, ?_⟩, rfl⟩
      have hg : N.getD (N.idxOf e.2) 0 = e.2 := by rw [List.getD_eq_getElem?_getD, List.getElem?_eq_getElem hl, Option.getD_some]; exact List.getElem_idxOf hl
      rw [hg, ← h2]; exact h1
    · rintro ⟨j, h1, rfl⟩
      obtain ⟨h2, h3⟩ := nx_mem.1 h1
      refine ⟨_, ⟨h3, rfl⟩, ?_⟩
      have hg : N[j]? = some (N.getD j 0) := by rw [List.getD_eq_getElem?_getD, List.getElem?_eq_getElem h2]; rfl
      rw [idx_of hn hg]
theorem NxR.again {w : World} {lo xb n f : Nat} {bl : Nat → Option Nat} {cp : Nat → Nat} {R : Nat → List Int} (h : NxR w lo xb n bl cp R) (hf : f < n) {l' : List Int} {w1 : World} (hx : w1.heap[xb]? = w.heap[xb]?) (hk : ∀ k, k < w.heap.size → bl f ≠ some k → w1.heap[k]? = w.heap[k]?) (ho : NdI w1 (bl f) (cp f) l') (hxl : xb < lo) :
    NxR (w1.setCell ⟨xb, f, none⟩ (.slice (adr (bl f)) l'.length (cp f))) lo xb n bl cp (fun t => if t = f then l' else R t) := by
  obtain ⟨cur, h1, h2, h3⟩ := h.blk
  have hlt := h.lt
  have e1 : (w1.setCell ⟨xb, f, none⟩ (.slice (adr (bl f)) l'.length (cp f))).heap[xb]? = some (.cells (cur.setIfInBounds f (.slice (adr (bl f)) l'.length (cp f))) 60 (0, 0)) := by
    rw [Sort.setCell_eq]; show (w1.heap.modify xb _)[xb]? = _
    rw [Array.getElem?_modify, if_pos rfl, hx, h1]; rfl
  have e2 : ∀ k, k ≠ xb → (w1.setCell ⟨xb, f, none⟩ (.slice (adr (bl f)) l'.length (cp f))).heap[k]? = w1.heap[k]? := fun k hk => Below.heap_setCell w1 _ _ k hk
  refine ⟨⟨_, e1, by simpa using h2, fun t ht => ?_⟩, fun t ht => ?_, h.lo, h.ap⟩
  · rw [Array.getElem?_setIfInBounds]
    by_cases e : f = t
    · subst e; rw [if_pos rfl, if_pos (by omega)]; simp
    · rw [if_neg e, if_neg (Ne.symm e)]; exact h3 t ht
  · by_cases e : t = f
    · subst e
      rw [show (if t = t then l' else R t) = l' from if_pos rfl]
      exact ho.keep (fun g hg => e2 g (by have := h.lo t g ht hg; omega))
    · simp only [if_neg e]
      refine (h.row t ht).keep fun g hgt => ?_
      have := h.lo t g ht hgt
      exact (e2 g (by omega)).trans (hk g (hlt.2 t g ht hgt) (fun e' => e (h.ap t f g ht hf hgt e')))
end Go.Proofs.YtikhpbidbcfedaaGreat

