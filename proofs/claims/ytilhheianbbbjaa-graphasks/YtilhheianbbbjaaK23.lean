/- slices.Repeat of one number; graph.nobodies. -/
import Derived.Test.YtilhheianbbbjaaK21
import Derived.Laws.CopyRow
import Derived.Test.YtilhheianbbbjaaK16
namespace Go.Proofs.Ytilhheianbbbjaa
open Go.RowKit Go.ChangeMaps

theorem Try.infoN1 : (Try.prog.info? 3).map (fun i => (i.zero, i.size, i.bytes)) = some (some (.int .i64 0), 1, 8) := by kernel_rfl
theorem Try.undN1 : Try.prog.underlying 46 = some (.slice 3) := by kernel_rfl
theorem Try.sizN1 : (Try.prog.info? 3).map (·.size) = some 1 := by kernel_rfl
def Sp.nos (L n : Nat) : List Int := List.replicate n (-1) ++ List.replicate (L - n) 0
theorem nos_len {L n : Nat} (h : n ≤ L) : (Sp.nos L n).length = L := by simp [Sp.nos]; omega
theorem nos_step {L n k : Nat} (h : n + k ≤ L) : (Sp.nos L n).take n ++ List.replicate k (-1 : Int) ++ (Sp.nos L n).drop (n + k) = Sp.nos L (n + k) := by
  unfold Sp.nos
  rw [List.take_append_of_le_length (by simp), List.take_of_length_le (by simp), List.drop_append, List.drop_of_length_le (by simp), List.length_replicate, List.drop_replicate, List.replicate_append_replicate]
  rw [List.nil_append, show L - n - (n + k - n) = L - (n + k) by omega]
theorem cp_own {w : World} {gi L n k : Nat} (h : OwnR w 3 gi L L (iv (Sp.nos L n))) (hk : n + k ≤ L) (hl : L ≤ 4096) (a : Addr) (sLen sCap dLen dCap : Nat) (hn : k = Nat.min sLen dLen) (hs : ∀ j, j < k → w.cell? (a.add j) = some (.int .i64 (-1))) (ty : TypeId) :
    ∃ W', (Builtin.copy_ #[46, 46] ty #[.slice (some ⟨gi, n, none⟩) dLen dCap, .slice (some a) sLen sCap]).run Try.prog w = .ok (.int .i64 (k : Int)) W' ∧ OwnR W' 3 gi L L (iv (Sp.nos L (n + k))) ∧ (∀ j, j ≠ gi → W'.heap[j]? = w.heap[j]?) ∧ W'.heap.size = w.heap.size ∧ W'.os = w.os ∧ W'.tape = w.tape ∧ W'.output = w.output := by
  obtain ⟨cur, h1, h2, h3, h4, h5⟩ := h.blk
  have hcur : cur.toList = iv (Sp.nos L n) := by rw [h5, List.take_of_length_le (by simp [h4])]
  have hr := run_copy_row (P := Try.prog) w 46 46 ty 3 gi n dLen dCap a sLen sCap cur 3 (List.replicate k (.int .i64 (-1))) Try.undN1 Try.sizN1 h1 (by simpa using hn) (fun j v hj => by
    rw [List.getElem?_replicate] at hj
    split at hj
    · rename_i hjk; injection hj with hj; subst hj; exact hs j hjk
    · cases hj) (by simp [h4]; omega) (fun v hv => by rw [List.mem_replicate] at hv; rw [hv.2]; rfl)
  refine ⟨_, hr.trans (by rw [show goInt ↑(List.replicate k (Value.int .i64 (-1))).length = Value.int .i64 (k : Int) by simp [goInt]]), ?_, fun j hj => setRow_other w gi j _ hj, by simp, rfl, rfl, rfl⟩
  have e : cur.toList.take n ++ List.replicate k (Value.int .i64 (-1)) ++ cur.toList.drop (n + (List.replicate k (Value.int .i64 (-1))).length) = iv (Sp.nos L (n + k)) := by
    rw [hcur, List.length_replicate, ← nos_step hk]
    simp [iv, List.map_take, List.map_drop]
  refine ⟨by simp [iv, nos_len hk], _, setRow_heap w gi cur _ 3 (0, 0) h1, Nat.le_refl _, by simp [maxLen]; omega, ?_, ?_⟩
  · rw [e]; simp [iv, nos_len hk]
  · rw [e, List.take_of_length_le (by simp [iv, nos_len hk])]
theorem wpList_ranC {P : Program} (w : World) {ops : Array Oper} {rest : List Oper} {o : Oper} {a : Act} {Q : Exit → Act → World → Prop} (hgd : o.guard = none) (s x : Operand) (t tx : TypeId)
    (ho : o.op = .call { callee := .builtin .copy, args := #[s, x], argTypes := #[t, tx] }) (v y v' : Value) (w' : World) (hs : a.eval s = v) (hx : a.eval x = y)
    (hr : (Builtin.copy_ #[t, tx] o.type #[v, y]).run P w = .ok v' w') (h : wpList P ops Q rest (a.put o.dst v') w') : wpList P ops Q (o :: rest) a w := by
  refine wpList_plain hgd fun K hK => ?_
  unfold Oper.wp execOp
  simp only [ho, resolve, invoke, builtin, Sem.run_bind, Sem.run_pure, Result.andThen_ok, List.map_toArray, List.map_cons, List.map_nil, hs, hx, hr]
  exact hK _ _ h
theorem step_ranC {P : Program} {w w' : World} {ops : Array Oper} {o : Oper} {a : Act} {K : Act → World → Prop} {Q : Exit → Act → World → Prop} {E : Prop} (hgd : o.guard = none) (s x : Operand) (t tx : TypeId)
    (ho : o.op = .call { callee := .builtin .copy, args := #[s, x], argTypes := #[t, tx] }) (v y v' : Value) (hs : a.eval s = v) (hx : a.eval x = y)
    (hr : (Builtin.copy_ #[t, tx] o.type #[v, y]).run P w = .ok v' w') (h : K (a.put o.dst v') w') : if Region.wanted o (yielded ops a.tmps) = true then Oper.wp P o a w K Q else E := by
  have hw : Region.wanted o (yielded ops a.tmps) = true := by simp [Region.wanted, hgd]
  rw [if_pos hw]
  unfold Oper.wp execOp
  simp only [ho, resolve, invoke, builtin, Sem.run_bind, Sem.run_pure, Result.andThen_ok, List.map_toArray, List.map_cons, List.map_nil, hs, hx, hr]
  exact h
theorem mk_ints (n : Nat) (hn : n ≤ 4096) : ∃ Z, (∀ W : World, (Instr.makeSlice 46 (.int .i64 (n : Int)) (.int .i64 (n : Int))).run Try.prog W = .ok (.slice (some ⟨W.heap.size, 0, none⟩) n n) (W.alloc (.cells Z 3))) ∧ ∀ W : World, OwnR (W.alloc (.cells Z 3)) 3 W.heap.size n n (iv (List.replicate n 0)) := by
  obtain ⟨i0, hi, hz0, hz1, hz2⟩ := info_parts Try.infoN1
  obtain ⟨Z, hM⟩ : ∃ Z, Z = madeCells (Value.int .i64 0).cells (((n : Nat) : Int).toNat * i0.size) := ⟨_, rfl⟩
  have hMs : Z.size = n := by rw [hM, size_madeCells, hz1]; simp
  have hMt : ∀ t, t < n → Z[t]? = some (.int .i64 0) := fun t ht => by rw [hM]; simp [madeCells, hz1, ht, Value.cells, Nat.mod_one]
  refine ⟨Z, fun W => ?_, fun W => ?_⟩
  · have h := run_make (P := Try.prog) W 46 3 i0 (.int .i64 0) Try.undN1 hi hz0 .i64 .i64 (n : Int) (n : Int) (by omega) (by omega) (by rw [hz2]; omega) (by omega)
    rw [← hM] at h; simpa using h
  · refine ⟨by simp [iv], Z, heap_alloc_new _ _, Nat.le_refl _, by simp [maxLen]; omega, hMs, ?_⟩
    apply List.ext_getElem?
    intro t
    by_cases ht : t < n
    · rw [List.getElem?_take, if_pos ht]
      have := hMt t ht
      simp [iv, ht]
      simpa using this.symm
    · rw [List.getElem?_eq_none (by simp [iv]; omega), List.getElem?_eq_none (by simp; omega)]

set_option maxRecDepth 100000 in
set_option maxHeartbeats 4000000 in
theorem Repeat_any (gx L : Nat) (w : World) (hx : w.cell? ⟨gx, 0, none⟩ = some (.int .i64 (-1))) (hl : L ≤ 4096) :
    Calls Try.prog 52 #[.slice (some ⟨gx, 0, none⟩) 1 1, .int .i64 (L : Int)] w fun e w' => e = .returned (.slice (some ⟨w.heap.size, 0, none⟩) L L) ∧ OwnR w' 3 w.heap.size L L (iv (List.replicate L (-1))) ∧ Below w.heap.size w w' := by
  obtain ⟨Z, hmake, hZ⟩ := mk_ints L hl
  have hgx : gx < w.heap.size := World.block_lt_of_cell? _ _ hx
  have HMU : Hid (Calls Try.prog 57 #[.int .u64 (1 : Int), .int .u64 (L : Int)] w fun e w' => e = .returned (.tuple #[.int .u64 0, .int .u64 (L : Int)]) ∧ w' = w) := by
    have h := Try.bits_Mul 1 L (by omega) (by omega) w
    rw [Nat.one_mul, Nat.div_eq_of_lt (by omega), Nat.mod_eq_of_lt (by omega)] at h
    exact h
  obtain ⟨W1, hW1⟩ : ∃ W1, w.alloc (.cells Z 3) = W1 := ⟨_, rfl⟩
  have hb1 : Below w.heap.size w W1 := by rw [← hW1]; exact (Below.refl _ _).alloc (Nat.le_refl _) _
  have ho1 : OwnR W1 3 w.heap.size L L (iv (Sp.nos L 0)) := by rw [← hW1]; have := hZ w; simpa [Sp.nos] using this
  obtain ⟨W2, hcp, ho2, hk2, hs2, hos2, htp2, hou2⟩ := cp_own (n := 0) (k := Nat.min 1 L) ho1 (by have h9 : Nat.min 1 L ≤ L := Nat.min_le_right 1 L; omega) hl ⟨gx, 0, none⟩ 1 1 L L rfl (fun j hj => by
    have h9 : Nat.min 1 L ≤ 1 := Nat.min_le_left 1 L
    have : j = 0 := by omega
    subst this
    rw [addN, World.cell?_of_block (w := w) (hb1.block gx hgx)]; exact hx) 3
  have hb2 : Below w.heap.size w W2 := ⟨hos2.trans hb1.os, htp2.trans hb1.tape, hou2.trans hb1.output, by rw [hs2]; exact hb1.size, fun k hk => (hk2 k (by omega)).trans (hb1.block k hk)⟩
  have hm1 : Nat.min 1 L ≤ L ∧ (0 < L → 0 < Nat.min 1 L) := ⟨Nat.min_le_right _ _, fun h => (by show 0 < min 1 L; omega)⟩
  have HI : Hid (OwnR W2 3 w.heap.size L L (iv (Sp.nos L (Nat.min 1 L))) ∧ Below w.heap.size w W2) := ⟨by simpa using ho2, hb2⟩
  clear ho1 ho2 hk2 hs2 hos2 htp2 hou2 hb1 hb2 hZ hx hgx
  generalize Nat.min 1 L = k1 at *
  go_enter Try.func52, Try.ntmps52
  have hLz : ¬ (9223372036854775807 : Int) < (L : Int) := by omega
  go_wp2_with (first
    | (go_at_call 57; refine HMU.out.mono ?_; rintro e w' ⟨rfl, rfl⟩)
    | (at_builtin; refine wpList_ranC _ rfl _ _ 46 46 rfl _ _ _ _ rfl rfl hcp ?_))
  clear HMU hmake hcp hW1
  go_loopw [8] (fun v8 wr => ∃ n : Nat, v8 = .int .i64 (n : Int) ∧ n ≤ L ∧ (0 < L → 0 < n) ∧ Hid (OwnR wr 3 w'.heap.size L L (iv (Sp.nos L n)) ∧ Below w'.heap.size w' wr)) (fun v8 _ => L - (intOf v8).toNat)
  case atStart => exact ⟨k1, rfl, hm1.1, hm1.2, HI.out⟩
  case round =>
    clear HI hm1
    obtain ⟨n, rfl, hn, hn0, HI⟩ := hrel
    by_cases hlt : n < L
    · have hltz : (n : Int) < (L : Int) := by omega
      have hnz : (n : Int) ≤ (L : Int) := by omega
      have hne : ¬ L = n := by omega
      have h0 : 0 < n := hn0 (by omega)
      have hmm : ∃ k, k = Nat.min n (L - n) := ⟨_, rfl⟩
      obtain ⟨k, hk⟩ := hmm
      have hk1 : k ≤ n := by rw [hk]; exact Nat.min_le_left _ _
      have hk2 : k ≤ L - n := by rw [hk]; exact Nat.min_le_right _ _
      have hk3 : 0 < k := by rw [hk]; show 0 < min n (L - n); omega
      obtain ⟨W2, hcp, ho2, hkk, hs2, hos2, htp2, hou2⟩ := cp_own (n := n) (k := k) (w := wr.drew) (HI.out.1.keep rfl) (by omega) hl ⟨w'.heap.size, 0, none⟩ n L (L - n) (L - n) hk (fun j hj => by
        rw [addN, Nat.zero_add]
        exact (HI.out.1.keep (w' := wr.drew) rfl).cell (by rw [show iv (Sp.nos L n) = List.replicate n (Value.int .i64 (-1)) ++ List.replicate (L - n) (Value.int .i64 0) by simp [iv, Sp.nos], List.getElem?_append_left (by simp; omega), List.getElem?_replicate, if_pos (by omega)])) 3
      have hwr : IntKind.i64.wrap ((n : Int) + (k : Int)) = (n : Int) + (k : Int) := Go.wrap_small _ (by omega) (by omega)
      have hb := HI.out.2
      have HF : Hid (OwnR W2 3 w'.heap.size L L (iv (Sp.nos L (n + k))) ∧ Below w'.heap.size w' W2) := ⟨ho2, hos2.trans hb.os, htp2.trans hb.tape, hou2.trans hb.output, by rw [hs2]; exact hb.size, fun j hj => (hkk j (by omega)).trans (hb.block j hj)⟩
      clear ho2 hkk hs2 hos2 htp2 hou2 hb hk
      go_wp2_with fail
      refine wp_region_mark (fun _ => True) 7 (by kernel_rfl) ?_
      refine tkF (i := 0) (v := ?_) rfl (by kernel_rfl) (by rfl) ?_ (.inr trivial) ?_
      rotate_left
      · intro W hSw; go_simp; try (with_reducible rfl)
      simp only [Act.put, lsA, lsB, lsC]
      refine tkF (i := 1) (v := ?_) rfl (by kernel_rfl) (by rfl) ?_ (.inr trivial) ?_
      rotate_left
      · intro W hSw; go_simp; try (with_reducible rfl)
      simp only [Act.put, lsA, lsB, lsC]
      refine tkF (i := 2) (v := ?_) rfl (by kernel_rfl) (by rfl) ?_ (.inr trivial) ?_
      rotate_left
      · intro W hSw; go_simp; try (with_reducible rfl)
      simp only [Act.put, lsA, lsB, lsC]
      refine tkF (i := 3) (v := ?_) rfl (by kernel_rfl) (by rfl) ?_ (.inr trivial) ?_
      rotate_left
      · intro W hSw; go_simp; try (with_reducible rfl)
      simp only [Act.put, lsA, lsB, lsC]
      refine tkF (i := 4) (v := ?_) rfl (by kernel_rfl) (by rfl) ?_ (.inr trivial) ?_
      rotate_left
      · intro W hSw; go_simp; try (with_reducible rfl)
      simp only [Act.put, lsA, lsB, lsC]
      refine tkF (i := 5) (v := ?_) rfl (by kernel_rfl) (by rfl) ?_ (.inr trivial) ?_
      rotate_left
      · intro W hSw; go_simp; try (with_reducible rfl)
      simp only [Act.put, lsA, lsB, lsC]
      refine tkF (i := 6) (v := ?_) rfl (by kernel_rfl) (by rfl) ?_ (.inr trivial) ?_
      rotate_left
      · intro W hSw; go_simp; try (with_reducible rfl)
      simp only [Act.put, lsA, lsB, lsC]
      refine tkO (i := 7) (by kernel_rfl) rfl (fun K hK => ?_)
      refine step_ranC (by rfl) _ _ 46 46 (by rfl) _ _ _ (by rfl) (by rfl) hcp ?_
      refine hK.out _ _ (.inl (by kernel_rfl)) ?_
      clear hK K
      try simp only [Act.put, lsA, lsB, lsC]
      refine tkF (i := 8) (v := ?_) rfl (by kernel_rfl) (by rfl) ?_ (.inl (by kernel_rfl)) ?_
      rotate_left
      · intro W hSw; go_simp; try (with_reducible rfl)
      simp only [Act.put, lsA, lsB, lsC]
      refine tkO (i := 9) (by kernel_rfl) rfl (fun K hK => ?_)
      go_simp
      refine hK.out _ _ (.inl (by kernel_rfl)) ?_
      clear hK K
      refine wpAnyM_done (by kernel_rfl) ?_ _
      go_wp2_with fail
      go_roundw
      case rel => exact ⟨n + k, by go_num, by omega, fun _ => by omega, HF.out⟩
      case measure => simp [intOf]; omega
    · obtain rfl : n = L := by omega
      go_wp2_with fail
      go_ret
      refine ⟨rfl, ?_, HI.out.2⟩
      have := HI.out.1
      simpa [Sp.nos] using this

set_option maxRecDepth 100000 in
set_option maxHeartbeats 4000000 in
theorem nobodies_any (gb : Nat) (N : List Int) (nx : Nat → List Nat) (gn : Option Nat) (cn lo xb : Nat) (bl : Nat → Option Nat) (cp : Nat → Nat) (w : World) (h : GR w gb N nx gn cn lo xb bl cp) (hn : N.length ≤ 4096) :
    Calls Try.prog 40 #[.pointer (some ⟨gb, 0, none⟩)] w fun e w' => ∃ gi, e = .returned (.slice (some ⟨gi, 0, none⟩) N.length N.length) ∧ OwnR w' 3 gi N.length N.length (iv (List.replicate N.length (-1))) ∧ w.heap.size ≤ gi ∧ Below w.heap.size w w' := by
  have hb : Below w.heap.size w (w.alloc (.cells #[.int .i64 (-1)] 3)) := (Below.refl _ _).alloc (Nat.le_refl _) _
  have hc0 : (w.alloc (.cells #[.int .i64 (-1)] 3)).cell? ⟨gb, 0, none⟩ = some (.slice (adr gn) N.length cn) := (h.keep hb).c0
  have HR : Hid (Calls Try.prog 52 #[.slice (some ⟨w.heap.size, 0, none⟩) 1 1, .int .i64 (N.length : Int)] (w.alloc (.cells #[.int .i64 (-1)] 3)) fun e w' => e = .returned (.slice (some ⟨w.heap.size + 1, 0, none⟩) N.length N.length) ∧ OwnR w' 3 (w.heap.size + 1) N.length N.length (iv (List.replicate N.length (-1))) ∧ Below w.heap.size w w') := by
    refine (Repeat_any w.heap.size N.length _ (by simp) hn).mono ?_
    rintro e w' ⟨rfl, h1, h2⟩
    rw [al_size] at h1 h2 ⊢
    exact ⟨rfl, h1, hb.trans (h2.mono (by omega))⟩
  clear h hb
  go_enter Try.func40, Try.ntmps40
  go_wp2_with fail
  refine HR.out.mono ?_
  rintro e w1 ⟨rfl, h1, h2⟩
  have HF : Hid (OwnR w1 3 (w.heap.size + 1) N.length N.length (iv (List.replicate N.length (-1))) ∧ Below w.heap.size w w1) := ⟨h1, h2⟩
  clear h1 h2 hc0
  go_wp2_with fail
  go_ret
  exact ⟨_, rfl, HF.out.1, by omega, HF.out.2⟩
end Go.Proofs.Ytilhheianbbbjaa

