/- graph.walk: a walk begins. -/
import Derived.Test.YtikhpbidbcfedaaGreatKp24
import Derived.Deep.RegionWith
import Derived.Laws.MakeOwn
import Derived.Test.YtikhpbidbcfedaaGreatKp3
import Derived.Test.YtikhpbidbcfedaaGreatKp1
import Derived.Test.YtikhpbidbcfedaaGreatKp26
import Derived.Test.YtikhpbidbcfedaaGreatKp23
import Derived.Test.YtikhpbidbcfedaaGreatKp14
namespace Go.Proofs.YtikhpbidbcfedaaGreat
open Go.RowKit Go.ChangeMaps

@[go_sem] theorem run_store_fn (P : Program) (w : World) (a : Addr) (m : Mode) (f : Fn) (fs cs : Array Value) : (store a (.func f fs cs) m).run P w = stored P w a (.func f fs cs) m := run_store P w a _ m rfl
theorem Tryz.infoBo : (Tryz.prog.info? 4).map (fun i => (i.zero, i.size, i.bytes)) = some (some (.bool false), 1, 1) := by kernel_rfl
theorem Tryz.undBs : Tryz.prog.underlying 81 = some (.slice 4) := by kernel_rfl
set_option maxRecDepth 100000 in
set_option maxHeartbeats 4000000 in
theorem walk_newG (gb xb n : Nat) (gs : Option Nat) (c : Nat) (Fe Fl : Nat) (ce cl : Array Value) (w : World) (h0 : w.cell? ⟨gb, 0, none⟩ = some (.slice (adr gs) n c)) (h2 : w.cell? ⟨gb, 2, none⟩ = some (.slice (some ⟨xb, 0, none⟩) n n)) (hgl : gb < w.heap.size) (hn : n ≤ 4096) :
    Calls Tryz.prog 42 #[.pointer (some ⟨gb, 0, none⟩), .func (.func Fe) #[] ce, .func (.func Fl) #[] cl] w fun e w' => ∃ eb, e = .returned (.agg (wsC xb eb n Fe Fl ce cl)) ∧ w.heap.size ≤ eb ∧ OwnR w' 4 eb n n (bv (List.replicate n false)) ∧ Below w.heap.size w w' := by
  obtain ⟨i0, hi, hz0, hz1, hz2⟩ := info_parts Tryz.infoBo
  obtain ⟨Z, hM⟩ : ∃ Z, Z = madeCells (Value.bool false).cells (((n : Nat) : Int).toNat * i0.size) := ⟨_, rfl⟩
  have hMs : Z.size = n := by rw [hM, size_madeCells, hz1]; simp
  have hMt : ∀ t, t < n → Z[t]? = some (.bool false) := fun t ht => by rw [hM]; simp [madeCells, hz1, ht, Value.cells, Nat.mod_one]
  have hmake : ∀ W : World, (Instr.makeSlice 81 (.int .i64 (n : Int)) (.int .i64 (n : Int))).run Tryz.prog W = .ok (.slice (some ⟨W.heap.size, 0, none⟩) n n) (W.alloc (.cells Z 4)) := fun W => by
    have h := run_make (P := Tryz.prog) W 81 4 i0 (.bool false) Tryz.undBs hi hz0 .i64 .i64 (n : Int) (n : Int) (by omega) (by omega) (by rw [hz2]; omega) (by omega)
    rw [← hM] at h; simpa using h
  have HO : Hid (∀ W : World, OwnR (W.alloc (.cells Z 4)) 4 W.heap.size n n (bv (List.replicate n false))) := fun W => by
    refine ⟨by simp [bv], Z, heap_alloc_new _ _, Nat.le_refl _, by simp [maxLen]; omega, hMs, ?_⟩
    apply List.ext_getElem?
    intro t
    by_cases ht : t < n
    · rw [List.getElem?_take, if_pos ht]
      have := hMt t ht
      simp [bv, ht]
      simpa using this.symm
    · rw [List.getElem?_eq_none (by simp [bv]; omega), List.getElem?_eq_none (by simp; omega)]
  clear hM hMs hMt
  have hc0 : ∀ o, (w.alloc o).cell? ⟨gb, 0, none⟩ = some (.slice (adr gs) n c) := fun o => by rw [World.cell?_of_block (w := w) (Below.heap_alloc w o gb hgl)]; exact h0
  have hc2 : ∀ o, (w.alloc o).cell? ⟨gb, 2, none⟩ = some (.slice (some ⟨xb, 0, none⟩) n n) := fun o => by rw [World.cell?_of_block (w := w) (Below.heap_alloc w o gb hgl)]; exact h2
  have hd2 : ∀ o o', ((w.alloc o).alloc o').cell? ⟨gb, 2, none⟩ = some (.slice (some ⟨xb, 0, none⟩) n n) := fun o o' => by rw [World.cell?_of_block (w := w.alloc o) (Below.heap_alloc _ o' gb (by rw [al_size]; omega))]; exact hc2 o
  have hd0 : ∀ o o', ((w.alloc o).alloc o').cell? ⟨gb, 0, none⟩ = some (.slice (adr gs) n c) := fun o o' => by rw [World.cell?_of_block (w := w.alloc o) (Below.heap_alloc _ o' gb (by rw [al_size]; omega))]; exact hc0 o
  clear h0 h2 hgl
  go_enter Tryz.func42, Tryz.ntmps42
  go_wp2_with fail
  go_region
  all_goals
    go_wp2_with fail
    refine bodyPost_ret (v := .agg (wsC xb (w.heap.size + 1) n Fe Fl ce cl)) (by simp [results, Tryz.results42, go_sem, wsC] <;> rfl) rfl ?_
    refine ⟨w.heap.size + 1, rfl, by omega, ?_, ?_⟩
    · have := HO.out (w.alloc (.cells (wsC xb (w.heap.size + 1) n Fe Fl ce cl) 83))
      rw [al_size] at this
      exact this.keep rfl
    · exact (((Below.refl _ _).alloc (Nat.le_refl _) _).alloc (by rw [al_size]; omega) _).drew
end Go.Proofs.YtikhpbidbcfedaaGreat

/- Plain mathematics: walks that put who is left into a row; the parts of a graph. -/
namespace Go.Proofs.YtikhpbidbcfedaaGreat

def Sp.lf : Vr (List Nat) where
  enter s _ := (some true, s)
  leave s j := (some true, s ++ [j])
structure LfP (L : Nat) (E : List Bool) (s : List Nat) (r : Option Bool × Wst (List Nat)) : Prop where
  ok : r.1 = some true
  row : ∃ t, r.2.2 = s ++ t ∧ t.Nodup ∧ ∀ x ∈ t, x < L ∧ E.getD x false = false ∧ r.2.1.getD x false = true
  mor : Mor E r.2.1
theorem getD_set_ne {E : List Bool} {n x : Nat} (h : x ≠ n) : (E.set n true).getD x false = E.getD x false := by
  rw [List.getD_eq_getElem?_getD, List.getD_eq_getElem?_getD, List.getElem?_set_ne (Ne.symm h)]
theorem getD_set_eq {E : List Bool} {n : Nat} (h : n < E.length) : (E.set n true).getD n false = true := by
  rw [List.getD_eq_getElem?_getD, List.getElem?_set_self h]; rfl
theorem lf_all {L f : Nat} {nx : Nat → List Nat} (h1 : ∀ n E s, E.length = L → n < L → E.getD n false = false → Sp.cf E ≤ f → LfP L E s (wOne Sp.lf nx f n (E, s))) :
    ∀ (l : List Nat) E s, E.length = L → (∀ x ∈ l, x < L) → Sp.cf E ≤ f → LfP L E s (wAll (wOne Sp.lf nx f) l (E, s))
  | [], E, s, hE, hl, hf => ⟨rfl, ⟨[], by simp [wAll], by simp, by simp⟩, Mor.refl _⟩
  | n :: l, E, s, hE, hl, hf => by
    rw [wAll]
    split
    · exact lf_all h1 l E s hE (fun x hx => hl x (by simp [hx])) hf
    · rename_i hn
      have hn' : E.getD n false = false := by cases h : E.getD n false with | false => rfl | true => exact absurd h hn
      have H := h1 n E s hE (hl n (by simp)) hn' hf
      rw [if_pos H.ok]
      generalize wOne Sp.lf nx f n (E, s) = r at H ⊢
      obtain ⟨r1, E1, s1⟩ := r
      obtain ⟨t, e1, nd1, p1⟩ := H.row
      dsimp only at e1 p1 ⊢
      subst e1
      have H2 := lf_all h1 l E1 (s ++ t) (H.mor.1.trans hE) (fun x hx => hl x (by simp [hx])) (Nat.le_trans H.mor.cf hf)
      obtain ⟨t2, e2, nd2, p2⟩ := H2.row
      refine ⟨H2.ok, ⟨t ++ t2, by rw [e2, List.append_assoc], ?_, fun x hx => ?_⟩, H.mor.trans H2.mor⟩
      · rw [List.nodup_append]
        refine ⟨nd1, nd2, fun x hx y hy e => ?_⟩
        subst e
        have h3 := (p1 x hx).2.2
        rw [(p2 x hy).2.1] at h3; cases h3
      · rcases List.mem_append.1 hx with hx | hx
        · obtain ⟨a, b, c⟩ := p1 x hx
          exact ⟨a, b, H2.mor.2 x c⟩
        · obtain ⟨a, b, c⟩ := p2 x hx
          refine ⟨a, ?_, c⟩
          cases h : E.getD x false with
          | false => rfl
          | true => rw [H.mor.2 x h] at b; cases b
theorem lf_one {L : Nat} {nx : Nat → List Nat} (hb : ∀ i, ∀ x ∈ nx i, x < L) : ∀ f n E s, E.length = L → n < L → E.getD n false = false → Sp.cf E ≤ f → LfP L E s (wOne Sp.lf nx f n (E, s))
  | 0, n, E, s, hE, hn, h0, hf => by
    have h1 : E[n]? = some false := by
      rw [List.getD_eq_getElem?_getD] at h0
      rw [List.getElem?_eq_getElem (by omega)] at h0 ⊢
      simpa using h0
    have := cf_set h1
    omega
  | f + 1, n, E, s, hE, hn, h0, hf => by
    have h1 : E[n]? = some false := by
      rw [List.getD_eq_getElem?_getD] at h0
      rw [List.getElem?_eq_getElem (by omega)] at h0 ⊢
      simpa using h0
    have hc := cf_set h1
    have H := lf_all (fun m E s => lf_one hb f m E s) (nx n) (E.set n true) s (by simpa using hE) (hb n) (by omega)
    rw [wOne]
    show LfP L E s (if (some true : Option Bool) = some true then (if (wAll (wOne Sp.lf nx f) (nx n) (E.set n true, s)).1 = some true then wLeave Sp.lf n (wAll (wOne Sp.lf nx f) (nx n) (E.set n true, s)).2 else _) else _)
    rw [if_pos rfl, if_pos H.ok]
    generalize wAll (wOne Sp.lf nx f) (nx n) (E.set n true, s) = r at H ⊢
    obtain ⟨r1, E1, s1⟩ := r
    obtain ⟨t, e1, nd1, p1⟩ := H.row
    dsimp only at e1 p1 ⊢
    subst e1
    have hn1 : n ∉ t := fun h => by
      have := (p1 n h).2.1
      rw [getD_set_eq (by omega)] at this; cases this
    have hnE : E1.getD n false = true := H.mor.2 n (getD_set_eq (by omega))
    refine ⟨rfl, ⟨t ++ [n], by simp [wLeave, Sp.lf], ?_, fun x hx => ?_⟩, (Mor.set E n).trans H.mor⟩
    · rw [List.nodup_append]; exact ⟨nd1, by simp, fun x hx y hy e => by simp at hy; subst hy; exact hn1 (e ▸ hx)⟩
    · rcases List.mem_append.1 hx with hx | hx
      · obtain ⟨a, b, c⟩ := p1 x hx
        refine ⟨a, ?_, c⟩
        rwa [getD_set_ne (fun e : x = n => hn1 (e ▸ hx))] at b
      · simp at hx; subst hx; exact ⟨hn, h0, hnE⟩
def Sp.lfo (nx : Nat → List Nat) (L : Nat) : List Nat := (wAll (wOne Sp.lf nx L) (List.range L) (List.replicate L false, [])).2.2
def Sp.pst (bk : Nat → List Nat) (L : Nat) (st : List Bool × List (List Nat)) (n : Nat) : List Bool × List (List Nat) :=
  ((wAll (wOne Sp.lf bk L) [n] (st.1, [])).2.1, if (wAll (wOne Sp.lf bk L) [n] (st.1, [])).2.2 = [] then st.2 else st.2 ++ [(wAll (wOne Sp.lf bk L) [n] (st.1, [])).2.2])
def Sp.pts (bk : Nat → List Nat) (L : Nat) (l : List Nat) : List Bool × List (List Nat) := l.foldl (Sp.pst bk L) (List.replicate L false, [])
theorem pts_snoc (bk : Nat → List Nat) (L : Nat) (l : List Nat) (n : Nat) : Sp.pts bk L (l ++ [n]) = Sp.pst bk L (Sp.pts bk L l) n := by simp [Sp.pts, List.foldl_append]
theorem cf_len (E : List Bool) : Sp.cf E ≤ E.length := List.count_le_length
theorem lfo_ok {nx : Nat → List Nat} {L : Nat} (hb : ∀ i, ∀ x ∈ nx i, x < L) : (Sp.lfo nx L).Nodup ∧ ∀ x ∈ Sp.lfo nx L, x < L := by
  have H := lf_all (lf_one hb L) (List.range L) (List.replicate L false) [] (by simp) (by simp) (by have := cf_len (List.replicate L false); simpa using this)
  obtain ⟨t, e, nd, p⟩ := H.row
  have e' : Sp.lfo nx L = t := by unfold Sp.lfo; rw [e]; rfl
  rw [e']; exact ⟨nd, fun x hx => (p x hx).1⟩
theorem lf_next {bk : Nat → List Nat} {L : Nat} (hb : ∀ i, ∀ x ∈ bk i, x < L) {E : List Bool} (hE : E.length = L) {n : Nat} (hn : n < L) : LfP L E [] (wAll (wOne Sp.lf bk L) [n] (E, [])) :=
  lf_all (lf_one hb L) [n] E [] hE (by simpa using hn) (by have := cf_len E; omega)
theorem pts_ok {bk : Nat → List Nat} {L : Nat} (hb : ∀ i, ∀ x ∈ bk i, x < L) : ∀ (m : Nat) (l : List Nat), l.length = m → (∀ x ∈ l, x < L) → (Sp.pts bk L l).1.length = L ∧ (Sp.pts bk L l).2.length ≤ l.length ∧ ∀ p ∈ (Sp.pts bk L l).2, p.Nodup ∧ (∀ x ∈ p, x < L) ∧ p ≠ []
  | 0, l, hm, hl => by
    have : l = [] := List.length_eq_zero_iff.1 hm
    subst this; simp [Sp.pts]
  | m + 1, l, hm, hl => by
    rcases List.eq_nil_or_concat l with rfl | ⟨l', n, rfl⟩
    · simp at hm
    rw [List.concat_eq_append] at hm hl ⊢
    obtain ⟨h1, h2, h3⟩ := pts_ok hb m l' (by simpa using hm) (fun x hx => hl x (by simp [hx]))
    have H := lf_next hb h1 (hl n (by simp))
    rw [pts_snoc]
    refine ⟨H.mor.1.trans h1, ?_, fun p hp => ?_⟩
    · simp only [Sp.pst]; split <;> simp <;> omega
    · simp only [Sp.pst] at hp
      split at hp
      · exact h3 p hp
      · rename_i hne
        rcases List.mem_append.1 hp with hp | hp
        · exact h3 p hp
        · simp at hp; subst hp
          obtain ⟨t, e, nd, q⟩ := H.row
          rw [List.nil_append] at e
          rw [e]
          exact ⟨nd, fun x hx => (q x hx).1, by rw [← e]; exact hne⟩
end Go.Proofs.YtikhpbidbcfedaaGreat

/- graph.parts: its functions that are handed to walks. -/
namespace Go.Proofs.YtikhpbidbcfedaaGreat
open Go.RowKit Go.ChangeMaps

theorem yes_any (j : Nat) (W : World) : Calls Tryz.prog 55 #[.int .i64 (j : Nat)] W fun e W' => e = .returned (.bool true) ∧ W' = W := by
  go_enter Tryz.func55, Tryz.ntmps55
  go_wp2_with fail
  go_ret
  exact ⟨rfl, rfl⟩
def LfI (B m0 : Nat) (s : List Nat) (W : World) : Prop := ∃ gs c, W.heap[B]? = some (.cells #[.slice (adr gs) s.length c] 60 (0, 0)) ∧ NdI W gs c (s.map fun j : Nat => (j : Int)) ∧ (∀ g, gs = some g → m0 ≤ g) ∧ B < m0
def Sp.lfM (B m0 k : Nat) (o : Option Obj) : Prop := k = B ∨ (m0 ≤ k ∧ ∃ c f, o = some (.cells c 3 f))
theorem LfI.put {B m0 : Nat} {s : List Nat} {W w4 : World} {gs : Option Nat} {c g' c' j : Nat} (hb : W.heap[B]? = some (.cells #[.slice (adr gs) s.length c] 60 (0, 0))) (hn : NdI W gs c (s.map fun j : Nat => (j : Int))) (hg : ∀ g, gs = some g → m0 ≤ g) (hB : B < m0) (hz : m0 ≤ W.heap.size)
    (ho : OwnR w4 3 g' (s.length + 1) c' (iv (s.map (fun j : Nat => (j : Int)) ++ [(j : Int)]))) (hgr : (W.alloc (.cells #[.int .i64 (j : Int)] 3)).grownBy w4 gs) (hor : gs = some g' ∨ W.heap.size < g') :
    LfI B m0 (s ++ [j]) (w4.setCell ⟨B, 0, none⟩ (.slice (some ⟨g', 0, none⟩) (s.length + 1) c')) ∧ KwO (Sp.lfM B m0) W (w4.setCell ⟨B, 0, none⟩ (.slice (some ⟨g', 0, none⟩) (s.length + 1) c')) := by
  have hg' : m0 ≤ g' := by
    rcases hor with h | h
    · exact hg g' h
    · omega
  have e2 : ∀ k, k ≠ B → (w4.setCell ⟨B, 0, none⟩ (.slice (some ⟨g', 0, none⟩) (s.length + 1) c')).heap[k]? = w4.heap[k]? := fun k hk => Below.heap_setCell w4 _ _ k hk
  have old : ∀ b, b < W.heap.size → gs ≠ some b → w4.heap[b]? = W.heap[b]? := fun b h1 h2 => (hgr.block b (by rw [al_size]; omega) (fun e => h2 e.symm)).trans (Below.heap_alloc _ _ b h1)
  have hBn : gs ≠ some B := fun e => by have := hg B e; omega
  have hBl := (Array.getElem?_eq_some_iff.1 hb).1
  refine ⟨⟨some g', c', ?_, ⟨(fun e => by cases e), fun g hgg => ?_⟩, fun g hgg => ?_, hB⟩, ⟨hgr.os, hgr.tape, hgr.output, ?_, fun k h1 h2 => ?_⟩⟩
  · rw [Sort.setCell_eq]; show (w4.heap.modify B _)[B]? = _
    rw [Array.getElem?_modify, if_pos rfl, old B hBl hBn, hb]
    simp [adr]
    rfl
  · injection hgg with hgg; subst hgg
    have := ho.keep (e2 g' (by omega))
    simpa using this
  · injection hgg with hgg; subst hgg; exact hg'
  · have := hgr.size; rw [al_size] at this; simp [World.setCell]; omega
  · have h3 : k ≠ B := fun e => h2 (.inl e)
    refine (e2 k h3).trans (old k h1 fun e => h2 (.inr ⟨hg k e, ?_⟩))
    obtain ⟨cur, h4, _⟩ := (hn.2 k e).blk
    exact ⟨cur, _, h4⟩
set_option maxRecDepth 100000 in
set_option maxHeartbeats 2000000 in
theorem left2_any (B m0 : Nat) (s : List Nat) (j : Nat) (W : World) (h : LfI B m0 s W) (hz : m0 ≤ W.heap.size) (hs : s.length < 16384) : Calls Tryz.prog 56 #[.int .i64 (j : Nat), .pointer (some ⟨B, 0, none⟩)] W fun e W' => e = .returned (.bool true) ∧ LfI B m0 (s ++ [j]) W' ∧ KwO (Sp.lfM B m0) W W' := by
  obtain ⟨gs, c, hb, hn, hg, hB⟩ := h
  have k1 : W.cell? ⟨B, 0, none⟩ = some (.slice (adr gs) s.length c) := by simp [World.cell?, hb]
  obtain ⟨g', c', w4, hap, ho4, hgr4, hor4⟩ := appI gs c (s.map fun j : Nat => (j : Int)) W hn (j : Int) (by rw [List.length_map]; omega) 60
  rw [List.length_map] at hap ho4
  have hBl := (Array.getElem?_eq_some_iff.1 hb).1
  have h4b : w4.heap[B]? = W.heap[B]? := (hgr4.block _ (by rw [al_size]; omega) (fun e => by have := hg B e.symm; omega)).trans (Below.heap_alloc W _ _ hBl)
  have k7 : w4.cell? ⟨B, 0, none⟩ = some (.slice (adr gs) s.length c) := by simp [World.cell?, h4b, hb]
  have k8 : w4.frozen? ⟨B, 0, none⟩ = false := by simp [World.frozen?, h4b, hb]
  have HF : Hid (LfI B m0 (s ++ [j]) (w4.setCell ⟨B, 0, none⟩ (.slice (some ⟨g', 0, none⟩) (s.length + 1) c')) ∧ KwO (Sp.lfM B m0) W (w4.setCell ⟨B, 0, none⟩ (.slice (some ⟨g', 0, none⟩) (s.length + 1) c'))) := LfI.put hb hn hg hB hz ho4 hgr4 hor4
  clear ho4 hgr4 hor4 h4b hb hn hBl
  go_enter Tryz.func56, Tryz.ntmps56
  go_wp2_with (at_builtin; refine wpList_ranS _ rfl _ _ 60 60 rfl _ _ _ _ rfl rfl hap ?_)
  go_ret
  exact ⟨rfl, HF.out⟩
set_option maxRecDepth 100000 in
set_option maxHeartbeats 2000000 in
theorem left3_any (B m0 : Nat) (s : List Nat) (j : Nat) (W : World) (h : LfI B m0 s W) (hz : m0 ≤ W.heap.size) (hs : s.length < 16384) : Calls Tryz.prog 57 #[.int .i64 (j : Nat), .pointer (some ⟨B, 0, none⟩)] W fun e W' => e = .returned (.bool true) ∧ LfI B m0 (s ++ [j]) W' ∧ KwO (Sp.lfM B m0) W W' := by
  obtain ⟨gs, c, hb, hn, hg, hB⟩ := h
  have k1 : W.cell? ⟨B, 0, none⟩ = some (.slice (adr gs) s.length c) := by simp [World.cell?, hb]
  obtain ⟨g', c', w4, hap, ho4, hgr4, hor4⟩ := appI gs c (s.map fun j : Nat => (j : Int)) W hn (j : Int) (by rw [List.length_map]; omega) 60
  rw [List.length_map] at hap ho4
  have hBl := (Array.getElem?_eq_some_iff.1 hb).1
  have h4b : w4.heap[B]? = W.heap[B]? := (hgr4.block _ (by rw [al_size]; omega) (fun e => by have := hg B e.symm; omega)).trans (Below.heap_alloc W _ _ hBl)
  have k7 : w4.cell? ⟨B, 0, none⟩ = some (.slice (adr gs) s.length c) := by simp [World.cell?, h4b, hb]
  have k8 : w4.frozen? ⟨B, 0, none⟩ = false := by simp [World.frozen?, h4b, hb]
  have HF : Hid (LfI B m0 (s ++ [j]) (w4.setCell ⟨B, 0, none⟩ (.slice (some ⟨g', 0, none⟩) (s.length + 1) c')) ∧ KwO (Sp.lfM B m0) W (w4.setCell ⟨B, 0, none⟩ (.slice (some ⟨g', 0, none⟩) (s.length + 1) c'))) := LfI.put hb hn hg hB hz ho4 hgr4 hor4
  clear ho4 hgr4 hor4 h4b hb hn hBl
  go_enter Tryz.func57, Tryz.ntmps57
  go_wp2_with (at_builtin; refine wpList_ranS _ rfl _ _ 60 60 rfl _ _ _ _ rfl rfl hap ?_)
  go_ret
  exact ⟨rfl, HF.out⟩
theorem LfI.keep {B m0 eb : Nat} {s : List Nat} {W W' : World} (h : LfI B m0 s W) (he : eb < m0) (hne : eb ≠ B) (hk : ∀ k, k < W.heap.size → k ≠ eb → W'.heap[k]? = W.heap[k]?) : LfI B m0 s W' := by
  obtain ⟨gs, c, hb, hn, hg, hB⟩ := h
  exact ⟨gs, c, (hk B (Array.getElem?_eq_some_iff.1 hb).1 (Ne.symm hne)).trans hb, hn.keep (fun g hgg => hk g (hn.2 g hgg).lt (by have := hg g hgg; omega)), hg, hB⟩
set_option maxRecDepth 100000 in
theorem lf_vis (F3 : Nat) (n m0 eb B : Nat) (he : eb < m0) (hne : eb ≠ B) (hB : B < m0)
    (hF : ∀ (s : List Nat) (j : Nat) (W : World), LfI B m0 s W → m0 ≤ W.heap.size → s.length < 16384 → Calls Tryz.prog F3 #[.int .i64 (j : Nat), .pointer (some ⟨B, 0, none⟩)] W fun e W' => e = .returned (.bool true) ∧ LfI B m0 (s ++ [j]) W' ∧ KwO (Sp.lfM B m0) W W')
    (hc : ∀ (args : Array Value) (W : World), Sem.run Tryz.prog (callFunc F3 args) W = .ok (.enter F3 args) W) :
    VisO (List Nat) Sp.lf List.length n m0 eb (Sp.lfM B m0) (fun s W => LfI B m0 s W ∧ m0 ≤ W.heap.size) 55 F3 #[] #[.pointer (some ⟨B, 0, none⟩)] where
  keep s W W' h h1 h2 _ _ _ := ⟨h.1.keep he hne h2, Nat.le_trans h.2 h1⟩
  enter s j W hj _ h := by
    refine (yes_any j W).mono ?_
    rintro e W' ⟨rfl, rfl⟩
    exact ⟨rfl, h, KwO.refl _ _⟩
  leave s j W hj hs h := by
    refine (hF s j W h.1 h.2 hs).mono ?_
    rintro e W' ⟨rfl, h1, h2⟩
    exact ⟨rfl, ⟨h1, Nat.le_trans h.2 h2.size⟩, h2⟩
  ecf j W := rfl
  lcf j W := hc _ W
  sze s j := Nat.le_succ _
  szl s j := by simp [Sp.lf]
  box k c hk h := by
    rcases h with h | ⟨_, c', f, h⟩
    · omega
    · simp at h
  eo := ⟨he, fun o h => by
    rcases h with h | ⟨h, _⟩
    · exact hne h
    · omega⟩
end Go.Proofs.YtikhpbidbcfedaaGreat

/- slices.Backward of a row of ints: its iterator tells them with their places, the last one first. -/
namespace Go.Proofs.YtikhpbidbcfedaaGreat
open Go.RowKit Go.Shelf

attribute [local go_sem] Oper.semAt_some

def KpB (D : Nat → Prop) (A B : World) : Prop := ∀ k, D k → B.heap[k]? = A.heap[k]?
theorem KpB.refl (D : Nat → Prop) (A : World) : KpB D A A := fun _ _ => rfl
theorem KpB.trans {D : Nat → Prop} {A B C : World} (h : KpB D A B) (k : KpB D B C) : KpB D A C := fun j hj => (k j hj).trans (h j hj)
theorem kpB_b {D : Nat → Prop} {w : World} (hn : ∀ k, D k → k < w.heap.size) (W : World) (l : Nat) (o o' : Obj) (hl : w.heap.size ≤ l) (_ : W.heap[l]? = some o) (_ : o.isCells = false) (_ : o.isWalk = false) : KpB D W (W.putObj l o') := fun k hk => World.putObj_heap_other (by have := hn k hk; omega)
theorem KpB.cell {D : Nat → Prop} {A B : World} (h : KpB D A B) {k o : Nat} (hk : D k) : B.cell? ⟨k, o, none⟩ = A.cell? ⟨k, o, none⟩ := World.cell?_of_block (h k hk)
abbrev BP (L : Nat) : Type := { p : Nat × Nat // p.2 < L }
structure BkL (L : Nat) (l : List Nat) (bs : List (BP L)) : Prop where
  len : bs.length = l.length
  at_ : ∀ (k : Nat) (x : BP L), bs[k]? = some x → x.1.1 + 1 + k = l.length ∧ l[x.1.1]? = some x.1.2

set_option maxRecDepth 100000 in
set_option maxHeartbeats 2000000 in
theorem back1_in (F : Fence) (n : Nat) (h7 : F.fn 72) (hro : F.round = none) (hn : 1 ≤ n) (l0 Bs b cap L : Nat) (D : Nat → Prop) (l : List Nat) (bs : List (BP L)) (hbs : BkL L l bs) (hreach : l.length ≤ 8192) (hb : D b) (J Jx : List (BP L) → World → Prop)
    (hY : ∀ pre x W, J pre W → pre.length < l.length → YieldAt F (n - 1) Tryz.prog l0 #[.int .i64 (x.1.1 : Nat), .int .i64 (x.1.2 : Nat)] W fun e W' =>
      (e = .returned (.bool true) ∧ J (pre ++ [x]) W' ∧ KpB D W W') ∨ (e = .returned (.bool false) ∧ Jx (pre ++ [x]) W'))
    (W : World) (hBs : W.cell? ⟨Bs, 0, none⟩ = some (.slice (some ⟨b, 0, none⟩) l.length cap)) (hBn : D Bs) (hc : ∀ j z, l[j]? = some z → W.cell? ⟨b, j, none⟩ = some (.int .i64 (z : Nat))) (h0 : J [] W) :
    CallsIn F n Tryz.prog 72 #[.func (.yield l0) #[] #[], .pointer (some ⟨Bs, 0, none⟩)] W fun e W' => (∃ v, e = .returned v) ∧
      (J bs W' ∨ (∃ pre, pre <+: bs ∧ Jx pre W')) := by
  refine callsIn_of_wp Tryz.func72 rfl h7 ?_ hro
  simp only [Tryz.ntmps72, List.size_toArray, List.length_cons, List.length_nil, Nat.reduceAdd, Nat.reduceSub, Array.replicate_succ, Array.replicate_zero, List.push_toArray, List.append_toArray, List.nil_append, List.cons_append]
  gi_wp2
  gi_loopw [3] (fun i wr => ∃ (k : Nat) (q : Int), k ≤ l.length ∧ q + 1 + k = l.length ∧ i = .int .i64 q ∧ J (bs.take k) wr ∧ KpB D W wr)
    (fun i _ => (intOf i + 1).toNat)
  case atStart => exact ⟨0, (l.length : Int) - 1, Nat.zero_le _, by omega, by first | rfl | (congr 1; go_num), h0, KpB.refl _ _⟩
  case round =>
    obtain ⟨k, q, hk, hq, rfl, hJs, hnx⟩ := hrel
    have hBs' : wr.cell? ⟨Bs, 0, none⟩ = some (.slice (some ⟨b, 0, none⟩) l.length cap) := (hnx.cell hBn).trans hBs
    by_cases hlt : k < l.length
    · obtain ⟨p, rfl⟩ : ∃ p : Nat, q = (p : Int) := ⟨q.toNat, by omega⟩
      have hkb : k < bs.length := by rw [hbs.len]; exact hlt
      obtain ⟨x, hx⟩ : ∃ x, bs[k]? = some x := ⟨_, List.getElem?_eq_getElem hkb⟩
      obtain ⟨h1, h2⟩ := hbs.at_ k x hx
      have hpx : x.1.1 = p := by omega
      have hcx' : wr.cell? ⟨b, p, none⟩ = some (.int .i64 (x.1.2 : Nat)) := (hnx.cell hb).trans (hc p _ (by rw [← hpx]; exact h2))
      have hpz : (0 : Int) ≤ (p : Int) := by omega
      have hpl : (p : Int) < (l.length : Int) := by omega
      have hy0 := hY (bs.take k) x wr hJs (by rw [List.length_take]; omega)
      rw [hpx] at hy0
      obtain ⟨fn, tmps, assign, body, hy, hR⟩ := hy0
      have htk : bs.take k ++ [x] = bs.take (k + 1) := by rw [List.take_add_one, hx]; rfl
      gi_wp2
      refine hR.mono ?_
      rintro e W3 (⟨rfl, hJ3, hk3⟩ | ⟨rfl, hJx3⟩)
      · gi_wp2
        go_roundw
        case rel => exact ⟨k + 1, (p : Int) - 1, by omega, by omega, by first | rfl | (congr 1; go_num), by rw [← htk]; exact hJ3, hnx.trans hk3⟩
        case measure => simp [intOf] <;> omega
      · gi_wp2
        refine bodyPost_ret (results_none rfl _ _ _) rfl ?_
        exact ⟨⟨_, rfl⟩, .inr ⟨_, by rw [htk]; exact List.take_prefix _ _, hJx3⟩⟩
    · obtain rfl : k = l.length := by omega
      obtain rfl : q = -1 := by omega
      gi_wp2
      go_end0
      refine ⟨⟨_, rfl⟩, .inl ?_⟩
      rw [List.take_of_length_le (by rw [hbs.len]; exact Nat.le_refl _)] at hJs
      exact hJs

set_option maxRecDepth 100000 in
set_option maxHeartbeats 1000000 in
theorem back1_none_in (F : Fence) (n : Nat) (h7 : F.fn 72) (hro : F.round = none) (l0 Bs cap : Nat) (a : Option Addr) {L : Nat} (J : List (BP L) → World → Prop) (W : World) (hBs : W.cell? ⟨Bs, 0, none⟩ = some (.slice a 0 cap)) (h0 : J [] W) :
    CallsIn F n Tryz.prog 72 #[.func (.yield l0) #[] #[], .pointer (some ⟨Bs, 0, none⟩)] W fun e W' => (∃ v, e = .returned v) ∧ J [] W' := by
  refine callsIn_of_wp Tryz.func72 rfl h7 ?_ hro
  simp only [Tryz.ntmps72, List.size_toArray, List.length_cons, List.length_nil, Nat.reduceAdd, Nat.reduceSub, Array.replicate_succ, Array.replicate_zero, List.push_toArray, List.append_toArray, List.nil_append, List.cons_append]
  gi_wp2
  gi_loopw [3] (fun i wr => i = .int .i64 (-1) ∧ J [] wr) (fun _ _ => 0)
  case atStart => exact ⟨by first | rfl | (congr 1; go_num), h0⟩
  case round =>
    obtain ⟨rfl, hJs⟩ := hrel
    gi_wp2
    go_end0
    exact ⟨⟨_, rfl⟩, hJs⟩

set_option maxHeartbeats 1000000 in
theorem backward_in (F : Fence) (n : Nat) (h5 : F.fn 58) (hro : F.round = none) (a : Option Addr) (len cap : Nat) (w : World) :
    CallsIn F n Tryz.prog 58 #[.slice a len cap] w fun e w' => e = .returned (.func (.func 72) #[] #[.pointer (some ⟨w.heap.size, 0, none⟩)]) ∧ w' = w.alloc (.cells #[.slice a len cap] 60) := by
  refine callsIn_of_wp Tryz.func58 rfl h5 ?_ hro
  simp only [Tryz.ntmps58, List.size_toArray, List.length_cons, List.length_nil, Nat.reduceAdd, Nat.reduceSub, Array.replicate_succ, Array.replicate_zero, List.push_toArray, List.append_toArray, List.nil_append, List.cons_append]
  gi_wp2
  go_ret
  exact ⟨rfl, rfl⟩

theorem back_stops (F : Fence) (n : Nat) (h7 : F.fn 72) (hro : F.round = none) (hn : 1 ≤ n) (Bs L : Nat) (D : Nat → Prop) (gs : Option Nat) (c : Nat) (l : List Nat) (bs : List (BP L)) (hbs : BkL L l bs) (hl : l.length ≤ 8192) (w : World) (hBn : D Bs) (hD : ∀ k, D k → k < w.heap.size)
    (hc : w.cell? ⟨Bs, 0, none⟩ = some (.slice (adr gs) l.length c)) (hI : NdI w gs c (l.map fun j : Nat => (j : Int))) (hg : ∀ g, gs = some g → D g) :
    SeqStopsK F n Tryz.prog 72 #[.pointer (some ⟨Bs, 0, none⟩)] (fun x : BP L => #[.int .i64 (x.1.1 : Nat), .int .i64 (x.1.2 : Nat)]) (KpB D) (fun ys => ys = bs) (fun pre => pre <+: bs) l.length w := fun l0 J Jx W hW _ _ hY h0 => by
  have hc' := (hW.cell (p := ⟨Bs, 0, none⟩) (hD _ hBn)).trans hc
  by_cases hz : l = []
  · subst hz
    have hb0 : bs = [] := List.length_eq_zero_iff.1 (by rw [hbs.len]; rfl)
    exact (back1_none_in F n h7 hro l0 Bs c (adr gs) J W hc' h0).mono fun e W' ⟨he, hj⟩ => ⟨he, .inl ⟨_, rfl, by rw [hb0]; exact hj⟩⟩
  · obtain ⟨g, rfl⟩ : ∃ g, gs = some g := by
      cases gs with
      | some g => exact ⟨g, rfl⟩
      | none => have := (hI.1 rfl).1; rw [List.map_eq_nil_iff] at this; exact absurd this hz
    have hcs : ∀ j z, l[j]? = some z → W.cell? ⟨g, j, none⟩ = some (.int .i64 (z : Nat)) := fun j z hj => (hW.cell (p := ⟨g, j, none⟩) (hD _ (hg g rfl))).trans ((hI.2 g rfl).cell (by simp [iv, hj]))
    refine (back1_in F n h7 hro hn l0 Bs g c L D l bs hbs hl (hg g rfl) J Jx hY W hc' hBn hcs h0).mono ?_
    rintro e W' ⟨he, hj | ⟨pre, hp, hj⟩⟩
    · exact ⟨he, .inl ⟨_, rfl, hj⟩⟩
    · exact ⟨he, .inr ⟨_, hp, hj⟩⟩
end Go.Proofs.YtikhpbidbcfedaaGreat

