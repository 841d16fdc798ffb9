/- slices.Repeat of one number; graph.nobodies. -/
import Derived.Test.YtikhpbidbcfedaaGreatKk16
import Derived.Laws.CopyRow
import Derived.Test.YtikhpbidbcfedaaGreatKk15
import Derived.Test.YtikhpbidbcfedaaGreatKk14
namespace Go.Proofs.YtikhpbidbcfedaaGreat
open Go.RowKit Go.ChangeMaps

theorem Tryz.infoN1 : (Tryz.prog.info? 3).map (fun i => (i.zero, i.size, i.bytes)) = some (some (.int .i64 0), 1, 8) := by kernel_rfl
theorem Tryz.undN1 : Tryz.prog.underlying 60 = some (.slice 3) := by kernel_rfl
theorem Tryz.sizN1 : (Tryz.prog.info? 3).map (·.size) = some 1 := by kernel_rfl
def Sp.nos (L n : Nat) : List Int := List.replicate n (-1) ++ List.replicate (L - n) 0
theorem nos_len {L n : Nat} (h : n ≤ L) : (Sp.nos L n).length = L := by simp [Sp.nos]; omega
theorem nos_step {L n k : Nat} (h : n + k ≤ L) : (Sp.nos L n).take n ++ List.replicate k (-1 : Int) ++ (Sp.nos L n).drop (n + k) = Sp.nos L (n + k) := by
  unfold Sp.nos
  rw [List.take_append_of_le_length (by simp), List.take_of_length_le (by simp), List.drop_append, List.drop_of_length_le (by simp), List.length_replicate, List.drop_replicate, List.replicate_append_replicate]
  rw [List.nil_append, show L - n - (n + k - n) = L - (n + k) by omega]
theorem cp_own {w : World} {gi L n k : Nat} (h : OwnR w 3 gi L L (iv (Sp.nos L n))) (hk : n + k ≤ L) (hl : L ≤ 4096) (a : Addr) (sLen sCap dLen dCap : Nat) (hn : k = Nat.min sLen dLen) (hs : ∀ j, j < k → w.cell? (a.add j) = some (.int .i64 (-1))) (ty : TypeId) :
    ∃ W', (Builtin.copy_ #[60, 60] ty #[.slice (some ⟨gi, n, none⟩) dLen dCap, .slice (some a) sLen sCap]).run Tryz.prog w = .ok (.int .i64 (k : Int)) W' ∧ OwnR W' 3 gi L L (iv (Sp.nos L (n + k))) ∧ (∀ j, j ≠ gi → W'.heap[j]? = w.heap[j]?) ∧ W'.heap.size = w.heap.size ∧ W'.os = w.os ∧ W'.tape = w.tape ∧ W'.output = w.output := by
  obtain ⟨cur, h1, h2, h3, h4, h5⟩ := h.blk
  have hcur : cur.toList = iv (Sp.nos L n) := by rw [h5, List.take_of_length_le (by simp [h4])]
  have hr := run_copy_row (P := Tryz.prog) w 60 60 ty 3 gi n dLen dCap a sLen sCap cur 3 (List.replicate k (.int .i64 (-1))) Tryz.undN1 Tryz.sizN1 h1 (by simpa using hn) (fun j v hj => by
    rw [List.getElem?_replicate] at hj
    split at hj
    · rename_i hjk; injection hj with hj; subst hj; exact hs j hjk
    · cases hj) (by simp [h4]; omega) (fun v hv => by rw [List.mem_replicate] at hv; rw [hv.2]; rfl)
  refine ⟨_, hr.trans (by rw [show goInt ↑(List.replicate k (Value.int .i64 (-1))).length = Value.int .i64 (k : Int) by simp [goInt]]), ?_, fun j hj => setRow_other w gi j _ hj, by simp, rfl, rfl, rfl⟩
  have e : cur.toList.take n ++ List.replicate k (Value.int .i64 (-1)) ++ cur.toList.drop (n + (List.replicate k (Value.int .i64 (-1))).length) = iv (Sp.nos L (n + k)) := by
    rw [hcur, List.length_replicate, ← nos_step hk]
    simp [iv, List.map_take, List.map_drop]
  refine ⟨by simp [iv, nos_len hk], _, setRow_heap w gi cur _ 3 (0, 0) h1, Nat.le_refl _, by simp [maxLen]; omega, ?_, ?_⟩
  · rw [e]; simp [iv, nos_len hk]
  · rw [e, List.take_of_length_le (by simp [iv, nos_len hk])]
theorem wpList_ranC {P : Program} (w : World) {ops : Array Oper} {rest : List Oper} {o : Oper} {a : Act} {Q : Exit → Act → World → Prop} (hgd : o.guard = none) (s x : Operand) (t tx : TypeId)
    (ho : o.op = .call { callee := .builtin .copy, args := #[s, x], argTypes := #[t, tx] }) (v y v' : Value) (w' : World) (hs : a.eval s = v) (hx : a.eval x = y)
    (hr : (Builtin.copy_ #[t, tx] o.type #[v, y]).run P w = .ok v' w') (h : wpList P ops Q rest (a.put o.dst v') w') : wpList P ops Q (o :: rest) a w := by
  refine wpList_plain hgd fun K hK => ?_
  unfold Oper.wp execOp
  simp only [ho, resolve, invoke, builtin, Sem.run_bind, Sem.run_pure, Result.andThen_ok, List.map_toArray, List.map_cons, List.map_nil, hs, hx, hr]
  exact hK _ _ h
theorem step_ranC {P : Program} {w w' : World} {ops : Array Oper} {o : Oper} {a : Act} {K : Act → World → Prop} {Q : Exit → Act → World → Prop} {E : Prop} (hgd : o.guard = none) (s x : Operand) (t tx : TypeId)
    (ho : o.op = .call { callee := .builtin .copy, args := #[s, x], argTypes := #[t, tx] }) (v y v' : Value) (hs : a.eval s = v) (hx : a.eval x = y)
    (hr : (Builtin.copy_ #[t, tx] o.type #[v, y]).run P w = .ok v' w') (h : K (a.put o.dst v') w') : if Region.wanted o (yielded ops a.tmps) = true then Oper.wp P o a w K Q else E := by
  have hw : Region.wanted o (yielded ops a.tmps) = true := by simp [Region.wanted, hgd]
  rw [if_pos hw]
  unfold Oper.wp execOp
  simp only [ho, resolve, invoke, builtin, Sem.run_bind, Sem.run_pure, Result.andThen_ok, List.map_toArray, List.map_cons, List.map_nil, hs, hx, hr]
  exact h
theorem mk_ints (n : Nat) (hn : n ≤ 4096) : ∃ Z, (∀ W : World, (Instr.makeSlice 60 (.int .i64 (n : Int)) (.int .i64 (n : Int))).run Tryz.prog W = .ok (.slice (some ⟨W.heap.size, 0, none⟩) n n) (W.alloc (.cells Z 3))) ∧ ∀ W : World, OwnR (W.alloc (.cells Z 3)) 3 W.heap.size n n (iv (List.replicate n 0)) := by
  obtain ⟨i0, hi, hz0, hz1, hz2⟩ := info_parts Tryz.infoN1
  obtain ⟨Z, hM⟩ : ∃ Z, Z = madeCells (Value.int .i64 0).cells (((n : Nat) : Int).toNat * i0.size) := ⟨_, rfl⟩
  have hMs : Z.size = n := by rw [hM, size_madeCells, hz1]; simp
  have hMt : ∀ t, t < n → Z[t]? = some (.int .i64 0) := fun t ht => by rw [hM]; simp [madeCells, hz1, ht, Value.cells, Nat.mod_one]
  refine ⟨Z, fun W => ?_, fun W => ?_⟩
  · have h := run_make (P := Tryz.prog) W 60 3 i0 (.int .i64 0) Tryz.undN1 hi hz0 .i64 .i64 (n : Int) (n : Int) (by omega) (by omega) (by rw [hz2]; omega) (by omega)
    rw [← hM] at h; simpa using h
  · refine ⟨by simp [iv], Z, heap_alloc_new _ _, Nat.le_refl _, by simp [maxLen]; omega, hMs, ?_⟩
    apply List.ext_getElem?
    intro t
    by_cases ht : t < n
    · rw [List.getElem?_take, if_pos ht]
      have := hMt t ht
      simp [iv, ht]
      simpa using this.symm
    · rw [List.getElem?_eq_none (by simp [iv]; omega), List.getElem?_eq_none (by simp; omega)]

set_option maxRecDepth 100000 in
set_option maxHeartbeats 4000000 in
theorem Repeat_any (gx L : Nat) (w : World) (hx : w.cell? ⟨gx, 0, none⟩ = some (.int .i64 (-1))) (hl : L ≤ 4096) :
    Calls Tryz.prog 62 #[.slice (some ⟨gx, 0, none⟩) 1 1, .int .i64 (L : Int)] w fun e w' => e = .returned (.slice (some ⟨w.heap.size, 0, none⟩) L L) ∧ OwnR w' 3 w.heap.size L L (iv (List.replicate L (-1))) ∧ Below w.heap.size w w' := by
  obtain ⟨Z, hmake, hZ⟩ := mk_ints L hl
  have hgx : gx < w.heap.size := World.block_lt_of_cell? _ _ hx
  have HMU : Hid (Calls Tryz.prog 84 #[.int .u64 (1 : Int), .int .u64 (L : Int)] w fun e w' => e = .returned (.tuple #[.int .u64 0, .int .u64 (L : Int)]) ∧ w' = w) := by
    have h := Tryz.bits_Mul 1 L (by omega) (by omega) w
    rw [Nat.one_mul, Nat.div_eq_of_lt (by omega), Nat.mod_eq_of_lt (by omega)] at h
    exact h
  obtain ⟨W1, hW1⟩ : ∃ W1, w.alloc (.cells Z 3) = W1 := ⟨_, rfl⟩
  have hb1 : Below w.heap.size w W1 := by rw [← hW1]; exact (Below.refl _ _).alloc (Nat.le_refl _) _
  have ho1 : OwnR W1 3 w.heap.size L L (iv (Sp.nos L 0)) := by rw [← hW1]; have := hZ w; simpa [Sp.nos] using this
  obtain ⟨W2, hcp, ho2, hk2, hs2, hos2, htp2, hou2⟩ := cp_own (n := 0) (k := Nat.min 1 L) ho1 (by have h9 : Nat.min 1 L ≤ L := Nat.min_le_right 1 L; omega) hl ⟨gx, 0, none⟩ 1 1 L L rfl (fun j hj => by
    have h9 : Nat.min 1 L ≤ 1 := Nat.min_le_left 1 L
    have : j = 0 := by omega
    subst this
    rw [addN, World.cell?_of_block (w := w) (hb1.block gx hgx)]; exact hx) 3
  have hb2 : Below w.heap.size w W2 := ⟨hos2.trans hb1.os, htp2.trans hb1.tape, hou2.trans hb1.output, by rw [hs2]; exact hb1.size, fun k hk => (hk2 k (by omega)).trans (hb1.block k hk)⟩
  have hm1 : Nat.min 1 L ≤ L ∧ (0 < L → 0 < Nat.min 1 L) := ⟨Nat.min_le_right _ _, fun h => (by show 0 < min 1 L; omega)⟩
  have HI : Hid (OwnR W2 3 w.heap.size L L (iv (Sp.nos L (Nat.min 1 L))) ∧ Below w.heap.size w W2) := ⟨by simpa using ho2, hb2⟩
  clear ho1 ho2 hk2 hs2 hos2 htp2 hou2 hb1 hb2 hZ hx hgx
  generalize Nat.min 1 L = k1 at *
  go_enter Tryz.func62, Tryz.ntmps62
  have hLz : ¬ (9223372036854775807 : Int) < (L : Int) := by omega
  go_wp2_with (first
    | (go_at_call 84; refine HMU.out.mono ?_; rintro e w' ⟨rfl, rfl⟩)
    | (at_builtin; refine wpList_ranC _ rfl _ _ 60 60 rfl _ _ _ _ rfl rfl hcp ?_))
  clear HMU hmake hcp hW1
  go_loopw [8] (fun v8 wr => ∃ n : Nat, v8 = .int .i64 (n : Int) ∧ n ≤ L ∧ (0 < L → 0 < n) ∧ Hid (OwnR wr 3 w'.heap.size L L (iv (Sp.nos L n)) ∧ Below w'.heap.size w' wr)) (fun v8 _ => L - (intOf v8).toNat)
  case atStart => exact ⟨k1, rfl, hm1.1, hm1.2, HI.out⟩
  case round =>
    clear HI hm1
    obtain ⟨n, rfl, hn, hn0, HI⟩ := hrel
    by_cases hlt : n < L
    · have hltz : (n : Int) < (L : Int) := by omega
      have hnz : (n : Int) ≤ (L : Int) := by omega
      have hne : ¬ L = n := by omega
      have h0 : 0 < n := hn0 (by omega)
      have hmm : ∃ k, k = Nat.min n (L - n) := ⟨_, rfl⟩
      obtain ⟨k, hk⟩ := hmm
      have hk1 : k ≤ n := by rw [hk]; exact Nat.min_le_left _ _
      have hk2 : k ≤ L - n := by rw [hk]; exact Nat.min_le_right _ _
      have hk3 : 0 < k := by rw [hk]; show 0 < min n (L - n); omega
      obtain ⟨W2, hcp, ho2, hkk, hs2, hos2, htp2, hou2⟩ := cp_own (n := n) (k := k) (w := wr.drew) (HI.out.1.keep rfl) (by omega) hl ⟨w'.heap.size, 0, none⟩ n L (L - n) (L - n) hk (fun j hj => by
        rw [addN, Nat.zero_add]
        exact (HI.out.1.keep (w' := wr.drew) rfl).cell (by rw [show iv (Sp.nos L n) = List.replicate n (Value.int .i64 (-1)) ++ List.replicate (L - n) (Value.int .i64 0) by simp [iv, Sp.nos], List.getElem?_append_left (by simp; omega), List.getElem?_replicate, if_pos (by omega)])) 3
      have hwr : IntKind.i64.wrap ((n : Int) + (k : Int)) = (n : Int) + (k : Int) := Go.wrap_small _ (by omega) (by omega)
      have hb := HI.out.2
      have HF : Hid (OwnR W2 3 w'.heap.size L L (iv (Sp.nos L (n + k))) ∧ Below w'.heap.size w' W2) := ⟨ho2, hos2.trans hb.os, htp2.trans hb.tape, hou2.trans hb.output, by rw [hs2]; exact hb.size, fun j hj => (hkk j (by omega)).trans (hb.block j hj)⟩
      clear ho2 hkk hs2 hos2 htp2 hou2 hb hk
      go_wp2_with fail
      refine wp_region_mark (fun _ => True) 7 (by kernel_rfl) ?_
      refine tkF (i := 0) (v := ?_) rfl (by kernel_rfl) (by rfl) ?_ (.inr trivial) ?_
      rotate_left
      · intro W hSw; go_simp; try (with_reducible rfl)
      simp only [Act.put, lsA, lsB, lsC]
      refine tkF (i := 1) (v := ?_) rfl (by kernel_rfl) (by rfl) ?_ (.inr trivial) ?_
      rotate_left
      · intro W hSw; go_simp; try (with_reducible rfl)
      simp only [Act.put, lsA, lsB, lsC]
      refine tkF (i := 2) (v := ?_) rfl (by kernel_rfl) (by rfl) ?_ (.inr trivial) ?_
      rotate_left
      · intro W hSw; go_simp; try (with_reducible rfl)
      simp only [Act.put, lsA, lsB, lsC]
      refine tkF (i := 3) (v := ?_) rfl (by kernel_rfl) (by rfl) ?_ (.inr trivial) ?_
      rotate_left
      · intro W hSw; go_simp; try (with_reducible rfl)
      simp only [Act.put, lsA, lsB, lsC]
      refine tkF (i := 4) (v := ?_) rfl (by kernel_rfl) (by rfl) ?_ (.inr trivial) ?_
      rotate_left
      · intro W hSw; go_simp; try (with_reducible rfl)
      simp only [Act.put, lsA, lsB, lsC]
      refine tkF (i := 5) (v := ?_) rfl (by kernel_rfl) (by rfl) ?_ (.inr trivial) ?_
      rotate_left
      · intro W hSw; go_simp; try (with_reducible rfl)
      simp only [Act.put, lsA, lsB, lsC]
      refine tkF (i := 6) (v := ?_) rfl (by kernel_rfl) (by rfl) ?_ (.inr trivial) ?_
      rotate_left
      · intro W hSw; go_simp; try (with_reducible rfl)
      simp only [Act.put, lsA, lsB, lsC]
      refine tkO (i := 7) (by kernel_rfl) rfl (fun K hK => ?_)
      refine step_ranC (by rfl) _ _ 60 60 (by rfl) _ _ _ (by rfl) (by rfl) hcp ?_
      refine hK.out _ _ (.inl (by kernel_rfl)) ?_
      clear hK K
      try simp only [Act.put, lsA, lsB, lsC]
      refine tkF (i := 8) (v := ?_) rfl (by kernel_rfl) (by rfl) ?_ (.inl (by kernel_rfl)) ?_
      rotate_left
      · intro W hSw; go_simp; try (with_reducible rfl)
      simp only [Act.put, lsA, lsB, lsC]
      refine tkO (i := 9) (by kernel_rfl) rfl (fun K hK => ?_)
      go_simp
      refine hK.out _ _ (.inl (by kernel_rfl)) ?_
      clear hK K
      refine wpAnyM_done (by kernel_rfl) ?_ _
      go_wp2_with fail
      go_roundw
      case rel => exact ⟨n + k, by go_num, by omega, fun _ => by omega, HF.out⟩
      case measure => simp [intOf]; omega
    · obtain rfl : n = L := by omega
      go_wp2_with fail
      go_ret
      refine ⟨rfl, ?_, HI.out.2⟩
      have := HI.out.1
      simpa [Sp.nos] using this

set_option maxRecDepth 100000 in
set_option maxHeartbeats 4000000 in
theorem nobodies_any (gb : Nat) (N : List Int) (nx : Nat → List Nat) (gn : Option Nat) (cn lo xb : Nat) (bl : Nat → Option Nat) (cp : Nat → Nat) (w : World) (h : GR w gb N nx gn cn lo xb bl cp) (hn : N.length ≤ 4096) :
    Calls Tryz.prog 38 #[.pointer (some ⟨gb, 0, none⟩)] w fun e w' => ∃ gi, e = .returned (.slice (some ⟨gi, 0, none⟩) N.length N.length) ∧ OwnR w' 3 gi N.length N.length (iv (List.replicate N.length (-1))) ∧ w.heap.size ≤ gi ∧ Below w.heap.size w w' := by
  have hb : Below w.heap.size w (w.alloc (.cells #[.int .i64 (-1)] 3)) := (Below.refl _ _).alloc (Nat.le_refl _) _
  have hc0 : (w.alloc (.cells #[.int .i64 (-1)] 3)).cell? ⟨gb, 0, none⟩ = some (.slice (adr gn) N.length cn) := (h.keep hb).c0
  have HR : Hid (Calls Tryz.prog 62 #[.slice (some ⟨w.heap.size, 0, none⟩) 1 1, .int .i64 (N.length : Int)] (w.alloc (.cells #[.int .i64 (-1)] 3)) fun e w' => e = .returned (.slice (some ⟨w.heap.size + 1, 0, none⟩) N.length N.length) ∧ OwnR w' 3 (w.heap.size + 1) N.length N.length (iv (List.replicate N.length (-1))) ∧ Below w.heap.size w w') := by
    refine (Repeat_any w.heap.size N.length _ (by simp) hn).mono ?_
    rintro e w' ⟨rfl, h1, h2⟩
    rw [al_size] at h1 h2 ⊢
    exact ⟨rfl, h1, hb.trans (h2.mono (by omega))⟩
  clear h hb
  go_enter Tryz.func38, Tryz.ntmps38
  go_wp2_with fail
  refine HR.out.mono ?_
  rintro e w1 ⟨rfl, h1, h2⟩
  have HF : Hid (OwnR w1 3 (w.heap.size + 1) N.length N.length (iv (List.replicate N.length (-1))) ∧ Below w.heap.size w w1) := ⟨h1, h2⟩
  clear h1 h2 hc0
  go_wp2_with fail
  go_ret
  exact ⟨_, rfl, HF.out.1, by omega, HF.out.2⟩
end Go.Proofs.YtikhpbidbcfedaaGreat

/- tenonref14.reach: who is reached. -/
namespace Go.Proofs.YtikhpbidbcfedaaGreat
open Go.RowKit Go.ChangeMaps

def RchE (w : World) (L : Nat) (s : Bf) (e : Ending) (w' : World) : Prop := ∃ gi, e = .returned (.slice (some ⟨gi, 0, none⟩) L L) ∧ OwnR w' 4 gi L L (bv (Sp.bls L s)) ∧ w.heap.size ≤ gi ∧ Below w.heap.size w w'

end Go.Proofs.YtikhpbidbcfedaaGreat

/- graph.refs and tenonref14.listed: the nodes that stand in places. -/
namespace Go.Proofs.YtikhpbidbcfedaaGreat
open Go.RowKit Go.ChangeMaps

def NdR (w : World) (gs : Option Nat) (c : Nat) (l : List Int) : Prop := (gs = none → l = [] ∧ c = 0) ∧ ∀ g, gs = some g → OwnR w 25 g l.length c (rv l)
theorem NdR.keep {w w' : World} {gs : Option Nat} {c : Nat} {l : List Int} (h : NdR w gs c l) (hb : ∀ g, gs = some g → w'.heap[g]? = w.heap[g]?) : NdR w' gs c l := ⟨h.1, fun g hg => (h.2 g hg).keep (hb g hg)⟩
theorem Tryz.infoRg : (Tryz.prog.info? 25).map (fun i => (i.zero, i.size, i.bytes)) = some (some (.int .u64 0), 1, 8) := by kernel_rfl
theorem Tryz.undRg : Tryz.prog.underlying 22 = some (.slice 25) := by kernel_rfl
theorem appR (gs : Option Nat) (c : Nat) (l : List Int) (w : World) (h : NdR w gs c l) (x : Int) (hl : l.length * 8 ≤ 140737488355328) (ty : TypeId) :
    ∃ g' c' w', (Builtin.append_ #[22, 22] ty #[.slice (adr gs) l.length c, .slice (some ⟨w.heap.size, 0, none⟩) 1 1]).run Tryz.prog (w.alloc (.cells #[.int .u64 x] 25)) = .ok (.slice (some ⟨g', 0, none⟩) (l.length + 1) c') w' ∧
      OwnR w' 25 g' (l.length + 1) c' (rv (l ++ [x])) ∧ (w.alloc (.cells #[.int .u64 x] 25)).grownBy w' gs ∧ (gs = some g' ∨ w.heap.size < g') := by
  obtain ⟨i0, hi, hz0, hz1, hz2⟩ := info_parts Tryz.infoRg
  have hlx : ∀ j u, [Value.int .u64 x][j]? = some u → (w.alloc (.cells #[.int .u64 x] 25)).cell? ((⟨w.heap.size, 0, none⟩ : Addr).add j) = some u := cell_one_new _ _ _
  cases gs with
  | some g =>
    have ho := (h.2 g rfl).keep (Below.heap_alloc w (.cells #[.int .u64 x] 25) g (h.2 g rfl).lt)
    obtain ⟨g', c', w', h1, h2, h3, h4⟩ := run_appS (P := Tryz.prog) (w.alloc (.cells #[.int .u64 x] 25)) 22 22 ty 25 i0 (.int .u64 0) 8 Tryz.undRg hi hz0 hz1 hz2 rfl g l.length c (rv l) ho _ 1 [.int .u64 x] (Src.ofSlice _ Tryz.undRg ⟨w.heap.size, 0, none⟩ 1 1 [.int .u64 x] rfl hlx (fun u hu => by simp at hu; subst hu; rfl)) (by omega) (by decide)
    exact ⟨g', c', w', h1, by simpa [rv] using h2, h3, h4.imp (fun e => by rw [e]) (fun e => by rw [e, al_size]; omega)⟩
  | none =>
    obtain ⟨rfl, rfl⟩ := h.1 rfl
    have hr := run_append_nil (P := Tryz.prog) (w.alloc (.cells #[.int .u64 x] 25)) 22 ty 25 i0 (.int .u64 0) Tryz.undRg hi hz0 ⟨w.heap.size, 0, none⟩ 1 1 [.int .u64 x] (by rw [hz1]; rfl) hlx (by decide) (by decide) (by rw [hz2]; decide)
    have hge := grownCap_ge (w.alloc (.cells #[.int .u64 x] 25)) 1 0 25
    have hcm := grownCap_le_maxLen (w.alloc (.cells #[.int .u64 x] 25)) 1 0 25 (by simp [maxLen])
    refine ⟨_, _, _, hr, ⟨by simp [rv], _, heap_alloc_new _ _, by simpa using hge, hcm, ?_, ?_⟩, ⟨rfl, rfl, rfl, by simp, fun k hk _ => heap_alloc_old (w.alloc (.cells #[.int .u64 x] 25)).drew _ hk⟩, .inr (by rw [al_size]; omega)⟩
    · simp only [Array.size_append, List.size_toArray, size_zeroCells, List.length_cons, List.length_nil]
      have : (Value.int .u64 0).cells.size = 1 := rfl
      rw [this]; omega
    · simp [rv]
def Sp.rfs (N : List Int) (l : List Nat) : List Int := l.map fun j => N.getD j 0
def RfE (w : World) (l : List Int) (e : Ending) (w' : World) : Prop := ∃ gs c, e = .returned (.slice (adr gs) l.length c) ∧ NdR w' gs c l ∧ (∀ g, gs = some g → w.heap.size ≤ g) ∧ Below w.heap.size w w'
structure RfI (w : World) (l : List Int) (gs : Option Nat) (c : Nat) (wr : World) : Prop where
  row : NdR wr gs c l
  lo : ∀ g, gs = some g → w.heap.size ≤ g
  bel : Below w.heap.size w wr
theorem RfI.put {w wr w4 : World} {l : List Int} {gs : Option Nat} {c g' c' : Nat} {x : Int} (h : RfI w l gs c wr) (ho : OwnR w4 25 g' (l.length + 1) c' (rv (l ++ [x]))) (hg : (wr.alloc (.cells #[.int .u64 x] 25)).grownBy w4 gs) (hor : gs = some g' ∨ wr.heap.size < g') : RfI w (l ++ [x]) (some g') c' w4 := by
  have hb := h.bel.alloc h.bel.size (.cells #[.int .u64 x] 25)
  refine ⟨⟨(fun e => by cases e), fun g hgg => ?_⟩, fun g hgg => ?_, hb.grown hg hb.size (fun k hk => h.lo k hk)⟩
  · injection hgg with hgg; subst hgg
    simpa using ho
  · injection hgg with hgg; subst hgg
    rcases hor with h1 | h1
    · exact h.lo g' h1
    · have := h.bel.size; omega

set_option maxRecDepth 100000 in
set_option maxHeartbeats 4000000 in
theorem refs_any (gb : Nat) (N : List Int) (nx : Nat → List Nat) (gn : Option Nat) (cn lo xb : Nat) (bl : Nat → Option Nat) (cp : Nat → Nat) (a : Option Addr) (cap : Nat) (l : List Nat) (w : World) (h : GR w gb N nx gn cn lo xb bl cp) (hs : InI w a l) (hsb : ∀ x ∈ l, x < N.length) (hl : l.length * 8 ≤ 140737488355328) :
    Calls Tryz.prog 32 #[.pointer (some ⟨gb, 0, none⟩), .slice a l.length cap] w (RfE w (Sp.rfs N l)) := by
  have HG : Hid (GR w gb N nx gn cn lo xb bl cp ∧ InI w a l) := ⟨h, hs⟩
  have HB : Hid (∀ x ∈ l, x < N.length) := hsb
  have H0 : Hid (RfI w (Sp.rfs N (l.take 0)) none 0 w) := ⟨⟨fun _ => ⟨rfl, rfl⟩, fun g hg => by cases hg⟩, (fun g hg => by cases hg), Below.refl _ _⟩
  clear h hs hsb
  go_enter Tryz.func32, Tryz.ntmps32
  go_wp2_with fail
  go_loopw [5, 10] (fun v5 v10 wr => ∃ (i : Nat) (gs : Option Nat) (c : Nat), v10 = .int .i64 i ∧ i ≤ l.length ∧ v5 = .slice (adr gs) i c ∧ Hid (RfI w (Sp.rfs N (l.take i)) gs c wr)) (fun _ v10 _ => l.length - (intOf v10).toNat)
  case atStart => exact ⟨0, none, 0, rfl, Nat.zero_le _, rfl, H0.out⟩
  case round =>
    clear H0
    obtain ⟨i, gs, c, rfl, hi, rfl, HS⟩ := hrel
    by_cases hlt : i < l.length
    · have hltz : (i : Int) < (l.length : Int) := by omega
      obtain ⟨n, hx⟩ : ∃ n, l[i]? = some n := ⟨_, List.getElem?_eq_getElem hlt⟩
      obtain ⟨b, o, rfl, hcx⟩ := (HG.out.2.keep HS.out.bel).at_ hx
      have hnL : n < N.length := HB.out n (List.mem_of_getElem? hx)
      have hnz : (n : Int) < (N.length : Int) := by omega
      have HGk : Hid (GR wr gb N nx gn cn lo xb bl cp) := HG.out.1.keep HS.out.bel
      have hc0 := HGk.out.c0
      obtain ⟨y, hy⟩ : ∃ y, N[n]? = some y := ⟨_, List.getElem?_eq_getElem hnL⟩
      obtain ⟨gN, rfl⟩ : ∃ g, gn = some g := by
        cases gn with
        | some g => exact ⟨g, rfl⟩
        | none => have := HG.out.1.nds.1 rfl; subst this; simp at hnL
      have hcy : wr.cell? ⟨gN, n, none⟩ = some (.int .u64 y) := (HGk.out.nds.2 gN rfl).cell (by simp [rv, hy])
      have hadN : adr (some gN) = some ⟨gN, 0, none⟩ := rfl
      have HN : Hid (Sp.rfs N (l.take (i + 1)) = Sp.rfs N (l.take i) ++ [y]) := by
        show _ = _
        rw [List.take_add_one, hx]; simp [Sp.rfs, List.getD_eq_getElem?_getD, hy]
      have hll : (Sp.rfs N (l.take i)).length = i := by simp [Sp.rfs]; omega
      obtain ⟨g', c', w4, hap, ho4, hgr4, hor4⟩ := appR gs c (Sp.rfs N (l.take i)) wr HS.out.row y (by rw [hll]; omega) 22
      rw [hll] at hap
      have HF2 : Hid (RfI w (Sp.rfs N (l.take i) ++ [y]) (some g') c' w4) := HS.out.put ho4 hgr4 hor4
      clear ho4 hgr4 hor4 hx hy HGk hll
      go_wp2_with (at_builtin; refine wpList_ranS _ rfl _ _ 22 22 rfl _ _ _ _ rfl rfl hap ?_)
      go_roundw
      case rel => exact ⟨i + 1, some g', c', by go_num, by omega, rfl, by show RfI _ _ _ _ _; rw [HN.out]; exact HF2.out⟩
      case measure => simp [intOf]; omega
    · obtain rfl : i = l.length := by omega
      have htk : l.take l.length = l := List.take_of_length_le (Nat.le_refl _)
      rw [htk] at HS
      clear htk
      go_wp2_with fail
      go_ret
      exact ⟨gs, c, by simp [Sp.rfs], HS.out.row, HS.out.lo, HS.out.bel⟩

def Sp.mks (b : List Bool) : Nat → List Nat
  | 0 => []
  | i + 1 => if b.getD i false = true then Sp.mks b i ++ [i] else Sp.mks b i
end Go.Proofs.YtikhpbidbcfedaaGreat

