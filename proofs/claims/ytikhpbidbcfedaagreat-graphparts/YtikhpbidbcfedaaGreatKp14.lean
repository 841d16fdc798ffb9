/- slices.Values of a row of ints: its iterator tells them, one behind the other. -/
import Derived.RangeFuncBox
import Derived.RangeFuncLeaves
import Derived.Shelf.Abstract
import Derived.WalkKit
import Derived.OwnWalkIn
import Derived.TacticsInMore
import Derived.LoopNIn
import Derived.LoopIn
import Derived.Maps.AppendAt
import Derived.Test.YtikhpbidbcfedaaGreatKp13
import Derived.Test.YtikhpbidbcfedaaGreatKp10
import Derived.Laws.CopyRow
import Derived.Test.YtikhpbidbcfedaaGreatKp12
namespace Go.Proofs.YtikhpbidbcfedaaGreat
open Go.RowKit Go.Shelf

attribute [local go_sem] Oper.semAt_some

def IRow (n₀ : Nat) (W : World) (sv : Value) (zs : List Int) : Prop :=
  (sv = .slice none 0 0 ∧ zs = []) ∨ ∃ b off cap, sv = .slice (some ⟨b, off, none⟩) zs.length cap ∧ b < n₀ ∧ ∀ j z, zs[j]? = some z → W.cell? ⟨b, off + j, none⟩ = some (.int .i64 z)
theorem IRow.below {n₀ : Nat} {A B : World} (h : Below n₀ A B) {sv : Value} {zs : List Int} : IRow n₀ A sv zs → IRow n₀ B sv zs
  | .inl e => .inl e
  | .inr ⟨b, off, cap, e, hb, hc⟩ => .inr ⟨b, off, cap, e, hb, fun j z hj => (h.cell (p := ⟨b, off + j, none⟩) hb).trans (hc j z hj)⟩

set_option maxRecDepth 100000 in
set_option maxHeartbeats 2000000 in
theorem valI1_in (F : Fence) (n : Nat) (h7 : F.fn 71) (hro : F.round = none) (hn : 1 ≤ n) (l Bs n₀ b off cap : Nat) (zs : List Int) (hreach : zs.length * 8 ≤ 140737488351232) (hb : b < n₀) (J Jx : List Int → World → Prop)
    (hY : ∀ pre x W, J pre W → pre.length < zs.length → YieldAt F (n - 1) Tryz.prog l #[.int .i64 x] W fun e W' =>
      (e = .returned (.bool true) ∧ J (pre ++ [x]) W' ∧ Below n₀ W W') ∨ (e = .returned (.bool false) ∧ Jx (pre ++ [x]) W'))
    (W : World) (hBs : W.cell? ⟨Bs, 0, none⟩ = some (.slice (some ⟨b, off, none⟩) zs.length cap)) (hc : ∀ j z, zs[j]? = some z → W.cell? ⟨b, off + j, none⟩ = some (.int .i64 z)) (h0 : J [] W) :
    CallsIn F n Tryz.prog 71 #[.func (.yield l) #[] #[], .pointer (some ⟨Bs, 0, none⟩)] W fun e W' => (∃ v, e = .returned v) ∧
      (J zs W' ∨ (∃ pre, pre <+: zs ∧ Jx pre W')) := by
  refine callsIn_of_wp Tryz.func71 rfl h7 ?_ hro
  simp only [Tryz.ntmps71, List.size_toArray, List.length_cons, List.length_nil, Nat.reduceAdd, Nat.reduceSub, Array.replicate_succ, Array.replicate_zero, List.push_toArray, List.append_toArray, List.nil_append, List.cons_append]
  gi_wp2
  gi_loopw [7] (fun i wr => ∃ k : Nat, k ≤ zs.length ∧ i = .int .i64 k ∧ J (zs.take k) wr ∧ Below n₀ W wr)
    (fun i _ => zs.length - (intOf i).toNat)
  case atStart => exact ⟨0, Nat.zero_le _, rfl, h0, Below.refl _ _⟩
  case round =>
    obtain ⟨k, hk, rfl, hJs, hnx⟩ := hrel
    by_cases hlt : k < zs.length
    · have hz : zs[k]? = some zs[k] := List.getElem?_eq_getElem hlt
      have hcx' : wr.cell? ⟨b, off + k, none⟩ = some (.int .i64 zs[k]) := (hnx.cell (p := ⟨b, off + k, none⟩) hb).trans (hc k _ hz)
      obtain ⟨fn, tmps, assign, body, hy, hR⟩ := hY _ zs[k] wr hJs (by rw [List.length_take]; omega)
      have htk : zs.take k ++ [zs[k]] = zs.take (k + 1) := by rw [List.take_add_one, hz]; rfl
      gi_wp2
      refine hR.mono ?_
      rintro e W3 (⟨rfl, hJ3, hk3⟩ | ⟨rfl, hJx3⟩)
      · gi_wp2
        go_roundw
        case rel => exact ⟨k + 1, by omega, by simp, by rw [← htk]; exact hJ3, hnx.trans hk3⟩
        case measure => simp [intOf]; omega
      · gi_wp2
        refine bodyPost_ret (results_none rfl _ _ _) rfl ?_
        exact ⟨⟨_, rfl⟩, .inr ⟨_, by rw [htk]; exact List.take_prefix _ _, hJx3⟩⟩
    · obtain rfl : k = zs.length := by omega
      gi_wp2
      go_end0
      exact ⟨⟨_, rfl⟩, .inl (by rw [List.take_length] at hJs; exact hJs)⟩

set_option maxRecDepth 100000 in
set_option maxHeartbeats 1000000 in
theorem valI1_nil_in (F : Fence) (n : Nat) (h7 : F.fn 71) (hro : F.round = none) (l Bs : Nat) (J : List Int → World → Prop) (W : World) (hBs : W.cell? ⟨Bs, 0, none⟩ = some (.slice none 0 0)) (h0 : J [] W) :
    CallsIn F n Tryz.prog 71 #[.func (.yield l) #[] #[], .pointer (some ⟨Bs, 0, none⟩)] W fun e W' => (∃ v, e = .returned v) ∧ J [] W' := by
  refine callsIn_of_wp Tryz.func71 rfl h7 ?_ hro
  simp only [Tryz.ntmps71, List.size_toArray, List.length_cons, List.length_nil, Nat.reduceAdd, Nat.reduceSub, Array.replicate_succ, Array.replicate_zero, List.push_toArray, List.append_toArray, List.nil_append, List.cons_append]
  gi_wp2
  gi_loopw [7] (fun i wr => i = .int .i64 0 ∧ J [] wr) (fun _ _ => 0)
  case atStart => exact ⟨rfl, h0⟩
  case round =>
    obtain ⟨rfl, hJs⟩ := hrel
    gi_wp2
    go_end0
    exact ⟨⟨_, rfl⟩, hJs⟩

set_option maxHeartbeats 1000000 in
theorem valI_in (F : Fence) (n : Nat) (h5 : F.fn 52) (hro : F.round = none) (a : Option Addr) (len cap : Nat) (w : World) :
    CallsIn F n Tryz.prog 52 #[.slice a len cap] w fun e w' => e = .returned (.func (.func 71) #[] #[.pointer (some ⟨w.heap.size, 0, none⟩)]) ∧ w' = w.alloc (.cells #[.slice a len cap] 60) := by
  refine callsIn_of_wp Tryz.func52 rfl h5 ?_ hro
  simp only [Tryz.ntmps52, List.size_toArray, List.length_cons, List.length_nil, Nat.reduceAdd, Nat.reduceSub, Array.replicate_succ, Array.replicate_zero, List.push_toArray, List.append_toArray, List.nil_append, List.cons_append]
  gi_wp2
  go_ret
  exact ⟨rfl, rfl⟩

theorem valI_stops (F : Fence) (n : Nat) (h7 : F.fn 71) (hro : F.round = none) (hn : 1 ≤ n) (Bs n₀ : Nat) (sv : Value) (zs : List Int) (hreach : zs.length * 8 ≤ 140737488351232) (w : World) (hBs : Bs < w.heap.size) (hn₀ : n₀ ≤ w.heap.size)
    (hc : w.cell? ⟨Bs, 0, none⟩ = some sv) (hI : IRow n₀ w sv zs) :
    SeqStopsK F n Tryz.prog 71 #[.pointer (some ⟨Bs, 0, none⟩)] (fun x : Int => #[Value.int .i64 x]) (Below n₀) (fun ys => ys = zs) (fun pre => pre <+: zs) zs.length w := fun l J Jx W hW _ _ hY h0 => by
  have hc' := (hW.cell (p := ⟨Bs, 0, none⟩) hBs).trans hc
  rcases hI.below (hW.mono hn₀) with ⟨rfl, rfl⟩ | ⟨b, off, cap, rfl, hb, hcs⟩
  · exact (valI1_nil_in F n h7 hro l Bs J W hc' h0).mono fun e W' ⟨he, hj⟩ => ⟨he, .inl ⟨_, rfl, hj⟩⟩
  · refine (valI1_in F n h7 hro hn l Bs n₀ b off cap zs hreach hb J Jx hY W hc' hcs h0).mono ?_
    rintro e W' ⟨he, hj | ⟨pre, hp, hj⟩⟩
    · exact ⟨he, .inl ⟨_, rfl, hj⟩⟩
    · exact ⟨he, .inr ⟨_, hp, hj⟩⟩


theorem Tryz.infoZi : (Tryz.prog.info? 3).map (fun i => (i.zero, i.size, i.bytes)) = some (some (.int .i64 0), 1, 8) := by kernel_rfl
theorem Tryz.undZi : Tryz.prog.underlying 60 = some (.slice 3) := by kernel_rfl

set_option maxRecDepth 100000 in
set_option maxHeartbeats 2000000 in
theorem apsI_in (F : Fence) (n : Nat) (h3 : F.fn 103) (h5 : F.fn 71) (hro : F.round = none) (hn : 3 ≤ n) (Bs : Nat) (sv : Value) (zs : List Int) (hreach : zs.length * 8 ≤ 140737488351232) (w : World) (hBs : w.cell? ⟨Bs, 0, none⟩ = some sv) (hI : IRow w.heap.size w sv zs) :
    CallsIn F n Tryz.prog 103 #[.slice none 0 0, .func (.func 71) #[] #[.pointer (some ⟨Bs, 0, none⟩)]] w fun e W' => ∃ v, e = .returned v ∧ W'.ownsRow w.heap.size 3 1 v zs.length (zs.map (Value.int .i64)) ∧ (v = .slice none 0 0 ↔ zs = []) ∧ Below w.heap.size w W' := by
  have h1 : 1 ≤ n := by omega
  have hBl : Bs < w.heap.size := World.block_lt_of_cell? _ _ hBs
  obtain ⟨i0, hi, hz0, hz1, hz2⟩ := info_parts Tryz.infoZi
  refine callsIn_of_wp_marks Tryz.func103 rfl h3 ?_ hro
  simp only [Tryz.ntmps103, List.size_toArray, List.length_cons, List.length_nil, Nat.reduceAdd, Nat.reduceSub, Array.replicate_succ, Array.replicate_zero, List.push_toArray, List.append_toArray, List.nil_append, List.cons_append]
  gi_wp2
  have bO := Boxed.new w 60 (.slice none 0 0)
  have hB0 : Below w.heap.size w (w.alloc (.cells #[.slice none 0 0] 60)) := (Below.refl _ w).alloc (Nat.le_refl _) _
  have hcs : (w.alloc (.cells #[.slice none 0 0] 60)).cell? ⟨Bs, 0, none⟩ = some sv := (hB0.cell (p := ⟨Bs, 0, none⟩) hBl).trans hBs
  refine wpIn_rangeFunc_ownG hro h1 (gf := 71) (lb := #[.pointer (some ⟨Bs, 0, none⟩)]) rfl h5 (enters_of Tryz.func71 (by kernel_rfl) rfl)
    (valI_stops F (n - 1) h5 hro (by omega) Bs w.heap.size sv zs hreach _ (by simp; omega) (by simp) hcs (hI.below hB0)) belowK_t (belowK_b (by simp)) (Below.refl _ _) (fun _ => rfl)
    (fun pre W => (∃ v, Boxed W w.heap.size 60 v ∧ W.ownsRow w.heap.size 3 1 v pre.length (pre.map (Value.int .i64)) ∧ (v = .slice none 0 0 ↔ pre = [])) ∧ Below w.heap.size w W)
    (fun _ _ _ => False)
    (OwnFrom.and (Own.from (holdsRow_own w.heap.size w.heap.size 60 3 1 (fun pre : List Int => pre.length) (fun pre => pre.map (Value.int .i64)) (fun pre v => v = .slice none 0 0 ↔ pre = [])) _) (ownFrom_below (Nat.le_refl _) (by simp)))
    (fun _ _ _ _ _ hs _ _ => hs)
    ⟨⟨_, bO, World.ownsRow_nil _ _ _ _, by simp⟩, hB0⟩
    (fun x => { tmps := #[.slice none 0 0, .func (.func 71) #[] #[.pointer (some ⟨Bs, 0, none⟩)], .pointer (some ⟨w.heap.size, 0, none⟩), undef, .slice none 0 0, .int .i64 x, .func (.func 71) #[] #[.pointer (some ⟨Bs, 0, none⟩)], .int .i64 x, undef, undef, undef, undef, undef], defers := [] }) ?assign ?body ?done ?stop
  case assign =>
    intro l x W K hK
    gi_wp2
    exact hK
  case body =>
    rintro l pre x W ⟨⟨v, hv, hrow, hnil⟩, hB⟩ hlt
    have hc := hv.cell
    gi_wp2_with (gi_at_builtin; refine wpListIn_append_own _ rfl _ _ 60 rfl w.heap.size 3 i0 (.int .i64 0) 1 8 Tryz.undZi hi hz0 hz1 hz2 rfl (by decide) _ _ _ rfl (hrow.alloc _) ⟨W.heap.size, 0, none⟩ 1 1 [.int .i64 x] rfl rfl (cell_one_new _ _ _) (by simp [Value.oneCell']) (by unfold maxLen; omega) (by omega) (by have := hB.size; simp; omega) ?_; intro v' w1 hown' hgrow _; obtain ⟨g', cap', rfl⟩ := ownsRow_succ hown'; obtain ⟨hv1, hv2, hr2, hk2, hb2⟩ := hv.appended (by decide) hrow hB.size (Nat.le_refl _) hown' hgrow; have hc1 := hv1.cell; have hf1 := hv1.frozen)
    exact ⟨hk2.from _, hb2, ⟨_, hv2, by simpa using hr2, by simp⟩, hB.trans hb2⟩
  case done =>
    rintro D ys W hD rfl ⟨⟨v, hv, hrow, hnil⟩, hB⟩ hK
    have hc := hv.cell
    gi_wp2
    refine ⟨by simp, .inl ⟨_, _, rfl, run_takeDeferred hK, ?_⟩⟩
    exact ⟨_, results_tmp rfl _ _ _, v, rfl, ownsRow_putObj hrow _ hK rfl, hnil, hB.trans (belowK_b (w := w) (Nat.le_refl _) W D _ _ (by simp at hD; omega) hK rfl rfl)⟩
  case stop =>
    rintro D c pre W _ _ h _
    exact h.elim

set_option maxRecDepth 100000 in
set_option maxHeartbeats 2000000 in
theorem colI_in (F : Fence) (n : Nat) (h8 : F.fn 70) (h3 : F.fn 103) (h5 : F.fn 71) (hro : F.round = none) (hn : 4 ≤ n) (Bs : Nat) (sv : Value) (zs : List Int) (hreach : zs.length * 8 ≤ 140737488351232) (w : World) (hBs : w.cell? ⟨Bs, 0, none⟩ = some sv) (hI : IRow w.heap.size w sv zs) :
    CallsIn F n Tryz.prog 70 #[.func (.func 71) #[] #[.pointer (some ⟨Bs, 0, none⟩)]] w fun e W' => ∃ v, e = .returned v ∧ W'.ownsRow w.heap.size 3 1 v zs.length (zs.map (Value.int .i64)) ∧ (v = .slice none 0 0 ↔ zs = []) ∧ Below w.heap.size w W' := by
  have h1 : 1 ≤ n := by omega
  refine callsIn_of_wp Tryz.func70 rfl h8 ?_ hro
  simp only [Tryz.ntmps70, List.size_toArray, List.length_cons, List.length_nil, Nat.reduceAdd, Nat.reduceSub, Array.replicate_succ, Array.replicate_zero, List.push_toArray, List.append_toArray, List.nil_append, List.cons_append]
  gi_wp2_with (gi_at_call 103; refine (apsI_in F (n - 1) h3 h5 hro (by omega) Bs sv zs hreach _ hBs hI).mono ?_; rintro e w' ⟨v, rfl, hr⟩)
  go_ret
  exact ⟨v, rfl, hr⟩

theorem own_ndI {W : World} {base : Nat} {v : Value} {zs : List Int} (h : W.ownsRow base 3 1 v zs.length (zs.map (Value.int .i64))) : ∃ gs c, v = .slice (adr gs) zs.length c ∧ NdI W gs c zs ∧ ∀ g, gs = some g → base ≤ g := by
  rcases h.2 with ⟨rfl, hz⟩ | ⟨g, cap, cur, rfl, hbase, _⟩
  · have : zs = [] := List.eq_nil_of_length_eq_zero hz
    subst this
    exact ⟨none, 0, rfl, ⟨fun _ => ⟨rfl, rfl⟩, fun g hg => by cases hg⟩, fun g hg => by cases hg⟩
  · exact ⟨some g, cap, rfl, ⟨(fun e => by cases e), fun g' hg => by injection hg with hg; subst hg; exact OwnR.of h⟩, fun g' hg => by injection hg with hg; subst hg; exact hbase⟩
set_option maxRecDepth 100000 in
set_option maxHeartbeats 2000000 in
theorem sortedI_any (Bs : Nat) (sv : Value) (zs : List Int) (hreach : zs.length * 8 ≤ 140737488351232) (w : World) (hBs : w.cell? ⟨Bs, 0, none⟩ = some sv) (hI : IRow w.heap.size w sv zs) :
    Calls Tryz.prog 51 #[.func (.func 71) #[] #[.pointer (some ⟨Bs, 0, none⟩)]] w fun e W' => ∃ gs c, e = .returned (.slice (adr gs) zs.length c) ∧ NdI W' gs c (Sp.srt zs) ∧ (∀ g, gs = some g → w.heap.size ≤ g) ∧ Below w.heap.size w W' := by
  have HC : Hid (Calls Tryz.prog 70 #[.func (.func 71) #[] #[.pointer (some ⟨Bs, 0, none⟩)]] w fun e W' => ∃ v, e = .returned v ∧ W'.ownsRow w.heap.size 3 1 v zs.length (zs.map (Value.int .i64)) ∧ (v = .slice none 0 0 ↔ zs = []) ∧ Below w.heap.size w W') :=
    (callsIn_wide (n := 4)).1 (colI_in Fence.wide 4 trivial trivial trivial rfl (by omega) Bs sv zs hreach w hBs hI)
  clear hI hBs
  go_enter Tryz.func51, Tryz.ntmps51
  go_wp2_with fail
  refine HC.out.mono ?_
  rintro e W ⟨v, rfl, hrow, _, hb⟩
  obtain ⟨gs, c, rfl, hnd, hlo⟩ := own_ndI hrow
  have HQ : Hid (Calls Tryz.prog 49 #[.slice (adr gs) zs.length c] W fun e w' => e = .returned (.tuple #[]) ∧ NdI w' gs c (Sp.srt zs) ∧ Below w.heap.size w w') := by
    refine (sortI gs c zs W hnd (by omega)).mono ?_
    rintro e w' ⟨rfl, h1, h2⟩
    exact ⟨rfl, h1, h2.1.trans hb.os, h2.2.1.trans hb.tape, h2.2.2.1.trans hb.output, Nat.le_trans hb.size h2.2.2.2.1, fun k hk => (h2.2.2.2.2 k (Nat.lt_of_lt_of_le hk hb.size) (fun e => by have := hlo k e; omega)).trans (hb.block k hk)⟩
  have HL : Hid (∀ g, gs = some g → w.heap.size ≤ g) := hlo
  clear hrow hb hnd hlo
  go_wp2_with fail
  refine HQ.out.mono ?_
  rintro e w' ⟨rfl, ho⟩
  go_wp2_with fail
  go_ret
  exact ⟨gs, c, rfl, ho.1, HL.out, ho.2⟩
end Go.Proofs.YtikhpbidbcfedaaGreat

/- slices.Repeat of one number; graph.nobodies. -/
namespace Go.Proofs.YtikhpbidbcfedaaGreat
open Go.RowKit Go.ChangeMaps

theorem Tryz.infoN1 : (Tryz.prog.info? 3).map (fun i => (i.zero, i.size, i.bytes)) = some (some (.int .i64 0), 1, 8) := by kernel_rfl
theorem Tryz.undN1 : Tryz.prog.underlying 60 = some (.slice 3) := by kernel_rfl
theorem Tryz.sizN1 : (Tryz.prog.info? 3).map (·.size) = some 1 := by kernel_rfl
def Sp.nos (L n : Nat) : List Int := List.replicate n (-1) ++ List.replicate (L - n) 0
theorem nos_len {L n : Nat} (h : n ≤ L) : (Sp.nos L n).length = L := by simp [Sp.nos]; omega
theorem nos_step {L n k : Nat} (h : n + k ≤ L) : (Sp.nos L n).take n ++ List.replicate k (-1 : Int) ++ (Sp.nos L n).drop (n + k) = Sp.nos L (n + k) := by
  unfold Sp.nos
  rw [List.take_append_of_le_length (by simp), List.take_of_length_le (by simp), List.drop_append, List.drop_of_length_le (by simp), List.length_replicate, List.drop_replicate, List.replicate_append_replicate]
  rw [List.nil_append, show L - n - (n + k - n) = L - (n + k) by omega]
theorem cp_own {w : World} {gi L n k : Nat} (h : OwnR w 3 gi L L (iv (Sp.nos L n))) (hk : n + k ≤ L) (hl : L ≤ 4096) (a : Addr) (sLen sCap dLen dCap : Nat) (hn : k = Nat.min sLen dLen) (hs : ∀ j, j < k → w.cell? (a.add j) = some (.int .i64 (-1))) (ty : TypeId) :
    ∃ W', (Builtin.copy_ #[60, 60] ty #[.slice (some ⟨gi, n, none⟩) dLen dCap, .slice (some a) sLen sCap]).run Tryz.prog w = .ok (.int .i64 (k : Int)) W' ∧ OwnR W' 3 gi L L (iv (Sp.nos L (n + k))) ∧ (∀ j, j ≠ gi → W'.heap[j]? = w.heap[j]?) ∧ W'.heap.size = w.heap.size ∧ W'.os = w.os ∧ W'.tape = w.tape ∧ W'.output = w.output := by
  obtain ⟨cur, h1, h2, h3, h4, h5⟩ := h.blk
  have hcur : cur.toList = iv (Sp.nos L n) := by rw [h5, List.take_of_length_le (by simp [h4])]
  have hr := run_copy_row (P := Tryz.prog) w 60 60 ty 3 gi n dLen dCap a sLen sCap cur 3 (List.replicate k (.int .i64 (-1))) Tryz.undN1 Tryz.sizN1 h1 (by simpa using hn) (fun j v hj => by
    rw [List.getElem?_replicate] at hj
    split at hj
    · rename_i hjk; injection hj with hj; subst hj; exact hs j hjk
    · cases hj) (by simp [h4]; omega) (fun v hv => by rw [List.mem_replicate] at hv; rw [hv.2]; rfl)
  refine ⟨_, hr.trans (by rw [show goInt ↑(List.replicate k (Value.int .i64 (-1))).length = Value.int .i64 (k : Int) by simp [goInt]]), ?_, fun j hj => setRow_other w gi j _ hj, by simp, rfl, rfl, rfl⟩
  have e : cur.toList.take n ++ List.replicate k (Value.int .i64 (-1)) ++ cur.toList.drop (n + (List.replicate k (Value.int .i64 (-1))).length) = iv (Sp.nos L (n + k)) := by
    rw [hcur, List.length_replicate, ← nos_step hk]
    simp [iv, List.map_take, List.map_drop]
  refine ⟨by simp [iv, nos_len hk], _, setRow_heap w gi cur _ 3 (0, 0) h1, Nat.le_refl _, by simp [maxLen]; omega, ?_, ?_⟩
  · rw [e]; simp [iv, nos_len hk]
  · rw [e, List.take_of_length_le (by simp [iv, nos_len hk])]
theorem wpList_ranC {P : Program} (w : World) {ops : Array Oper} {rest : List Oper} {o : Oper} {a : Act} {Q : Exit → Act → World → Prop} (hgd : o.guard = none) (s x : Operand) (t tx : TypeId)
    (ho : o.op = .call { callee := .builtin .copy, args := #[s, x], argTypes := #[t, tx] }) (v y v' : Value) (w' : World) (hs : a.eval s = v) (hx : a.eval x = y)
    (hr : (Builtin.copy_ #[t, tx] o.type #[v, y]).run P w = .ok v' w') (h : wpList P ops Q rest (a.put o.dst v') w') : wpList P ops Q (o :: rest) a w := by
  refine wpList_plain hgd fun K hK => ?_
  unfold Oper.wp execOp
  simp only [ho, resolve, invoke, builtin, Sem.run_bind, Sem.run_pure, Result.andThen_ok, List.map_toArray, List.map_cons, List.map_nil, hs, hx, hr]
  exact hK _ _ h
theorem step_ranC {P : Program} {w w' : World} {ops : Array Oper} {o : Oper} {a : Act} {K : Act → World → Prop} {Q : Exit → Act → World → Prop} {E : Prop} (hgd : o.guard = none) (s x : Operand) (t tx : TypeId)
    (ho : o.op = .call { callee := .builtin .copy, args := #[s, x], argTypes := #[t, tx] }) (v y v' : Value) (hs : a.eval s = v) (hx : a.eval x = y)
    (hr : (Builtin.copy_ #[t, tx] o.type #[v, y]).run P w = .ok v' w') (h : K (a.put o.dst v') w') : if Region.wanted o (yielded ops a.tmps) = true then Oper.wp P o a w K Q else E := by
  have hw : Region.wanted o (yielded ops a.tmps) = true := by simp [Region.wanted, hgd]
  rw [if_pos hw]
  unfold Oper.wp execOp
  simp only [ho, resolve, invoke, builtin, Sem.run_bind, Sem.run_pure, Result.andThen_ok, List.map_toArray, List.map_cons, List.map_nil, hs, hx, hr]
  exact h
theorem mk_ints (n : Nat) (hn : n ≤ 4096) : ∃ Z, (∀ W : World, (Instr.makeSlice 60 (.int .i64 (n : Int)) (.int .i64 (n : Int))).run Tryz.prog W = .ok (.slice (some ⟨W.heap.size, 0, none⟩) n n) (W.alloc (.cells Z 3))) ∧ ∀ W : World, OwnR (W.alloc (.cells Z 3)) 3 W.heap.size n n (iv (List.replicate n 0)) := by
  obtain ⟨i0, hi, hz0, hz1, hz2⟩ := info_parts Tryz.infoN1
  obtain ⟨Z, hM⟩ : ∃ Z, Z = madeCells (Value.int .i64 0).cells (((n : Nat) : Int).toNat * i0.size) := ⟨_, rfl⟩
  have hMs : Z.size = n := by rw [hM, size_madeCells, hz1]; simp
  have hMt : ∀ t, t < n → Z[t]? = some (.int .i64 0) := fun t ht => by rw [hM]; simp [madeCells, hz1, ht, Value.cells, Nat.mod_one]
  refine ⟨Z, fun W => ?_, fun W => ?_⟩
  · have h := run_make (P := Tryz.prog) W 60 3 i0 (.int .i64 0) Tryz.undN1 hi hz0 .i64 .i64 (n : Int) (n : Int) (by omega) (by omega) (by rw [hz2]; omega) (by omega)
    rw [← hM] at h; simpa using h
  · refine ⟨by simp [iv], Z, heap_alloc_new _ _, Nat.le_refl _, by simp [maxLen]; omega, hMs, ?_⟩
    apply List.ext_getElem?
    intro t
    by_cases ht : t < n
    · rw [List.getElem?_take, if_pos ht]
      have := hMt t ht
      simp [iv, ht]
      simpa using this.symm
    · rw [List.getElem?_eq_none (by simp [iv]; omega), List.getElem?_eq_none (by simp; omega)]

set_option maxRecDepth 100000 in
set_option maxHeartbeats 4000000 in
theorem Repeat_any (gx L : Nat) (w : World) (hx : w.cell? ⟨gx, 0, none⟩ = some (.int .i64 (-1))) (hl : L ≤ 4096) :
    Calls Tryz.prog 62 #[.slice (some ⟨gx, 0, none⟩) 1 1, .int .i64 (L : Int)] w fun e w' => e = .returned (.slice (some ⟨w.heap.size, 0, none⟩) L L) ∧ OwnR w' 3 w.heap.size L L (iv (List.replicate L (-1))) ∧ Below w.heap.size w w' := by
  obtain ⟨Z, hmake, hZ⟩ := mk_ints L hl
  have hgx : gx < w.heap.size := World.block_lt_of_cell? _ _ hx
  have HMU : Hid (Calls Tryz.prog 84 #[.int .u64 (1 : Int), .int .u64 (L : Int)] w fun e w' => e = .returned (.tuple #[.int .u64 0, .int .u64 (L : Int)]) ∧ w' = w) := by
    have h := Tryz.bits_Mul 1 L (by omega) (by omega) w
    rw [Nat.one_mul, Nat.div_eq_of_lt (by omega), Nat.mod_eq_of_lt (by omega)] at h
    exact h
  obtain ⟨W1, hW1⟩ : ∃ W1, w.alloc (.cells Z 3) = W1 := ⟨_, rfl⟩
  have hb1 : Below w.heap.size w W1 := by rw [← hW1]; exact (Below.refl _ _).alloc (Nat.le_refl _) _
  have ho1 : OwnR W1 3 w.heap.size L L (iv (Sp.nos L 0)) := by rw [← hW1]; have := hZ w; simpa [Sp.nos] using this
  obtain ⟨W2, hcp, ho2, hk2, hs2, hos2, htp2, hou2⟩ := cp_own (n := 0) (k := Nat.min 1 L) ho1 (by have h9 : Nat.min 1 L ≤ L := Nat.min_le_right 1 L; omega) hl ⟨gx, 0, none⟩ 1 1 L L rfl (fun j hj => by
    have h9 : Nat.min 1 L ≤ 1 := Nat.min_le_left 1 L
    have : j = 0 := by omega
    subst this
    rw [addN, World.cell?_of_block (w := w) (hb1.block gx hgx)]; exact hx) 3
  have hb2 : Below w.heap.size w W2 := ⟨hos2.trans hb1.os, htp2.trans hb1.tape, hou2.trans hb1.output, by rw [hs2]; exact hb1.size, fun k hk => (hk2 k (by omega)).trans (hb1.block k hk)⟩
  have hm1 : Nat.min 1 L ≤ L ∧ (0 < L → 0 < Nat.min 1 L) := ⟨Nat.min_le_right _ _, fun h => (by show 0 < min 1 L; omega)⟩
  have HI : Hid (OwnR W2 3 w.heap.size L L (iv (Sp.nos L (Nat.min 1 L))) ∧ Below w.heap.size w W2) := ⟨by simpa using ho2, hb2⟩
  clear ho1 ho2 hk2 hs2 hos2 htp2 hou2 hb1 hb2 hZ hx hgx
  generalize Nat.min 1 L = k1 at *
  go_enter Tryz.func62, Tryz.ntmps62
  have hLz : ¬ (9223372036854775807 : Int) < (L : Int) := by omega
  go_wp2_with (first
    | (go_at_call 84; refine HMU.out.mono ?_; rintro e w' ⟨rfl, rfl⟩)
    | (at_builtin; refine wpList_ranC _ rfl _ _ 60 60 rfl _ _ _ _ rfl rfl hcp ?_))
  clear HMU hmake hcp hW1
  go_loopw [8] (fun v8 wr => ∃ n : Nat, v8 = .int .i64 (n : Int) ∧ n ≤ L ∧ (0 < L → 0 < n) ∧ Hid (OwnR wr 3 w'.heap.size L L (iv (Sp.nos L n)) ∧ Below w'.heap.size w' wr)) (fun v8 _ => L - (intOf v8).toNat)
  case atStart => exact ⟨k1, rfl, hm1.1, hm1.2, HI.out⟩
  case round =>
    clear HI hm1
    obtain ⟨n, rfl, hn, hn0, HI⟩ := hrel
    by_cases hlt : n < L
    · have hltz : (n : Int) < (L : Int) := by omega
      have hnz : (n : Int) ≤ (L : Int) := by omega
      have hne : ¬ L = n := by omega
      have h0 : 0 < n := hn0 (by omega)
      have hmm : ∃ k, k = Nat.min n (L - n) := ⟨_, rfl⟩
      obtain ⟨k, hk⟩ := hmm
      have hk1 : k ≤ n := by rw [hk]; exact Nat.min_le_left _ _
      have hk2 : k ≤ L - n := by rw [hk]; exact Nat.min_le_right _ _
      have hk3 : 0 < k := by rw [hk]; show 0 < min n (L - n); omega
      obtain ⟨W2, hcp, ho2, hkk, hs2, hos2, htp2, hou2⟩ := cp_own (n := n) (k := k) (w := wr.drew) (HI.out.1.keep rfl) (by omega) hl ⟨w'.heap.size, 0, none⟩ n L (L - n) (L - n) hk (fun j hj => by
        rw [addN, Nat.zero_add]
        exact (HI.out.1.keep (w' := wr.drew) rfl).cell (by rw [show iv (Sp.nos L n) = List.replicate n (Value.int .i64 (-1)) ++ List.replicate (L - n) (Value.int .i64 0) by simp [iv, Sp.nos], List.getElem?_append_left (by simp; omega), List.getElem?_replicate, if_pos (by omega)])) 3
      have hwr : IntKind.i64.wrap ((n : Int) + (k : Int)) = (n : Int) + (k : Int) := Go.wrap_small _ (by omega) (by omega)
      have hb := HI.out.2
      have HF : Hid (OwnR W2 3 w'.heap.size L L (iv (Sp.nos L (n + k))) ∧ Below w'.heap.size w' W2) := ⟨ho2, hos2.trans hb.os, htp2.trans hb.tape, hou2.trans hb.output, by rw [hs2]; exact hb.size, fun j hj => (hkk j (by omega)).trans (hb.block j hj)⟩
      clear ho2 hkk hs2 hos2 htp2 hou2 hb hk
      go_wp2_with fail
      refine wp_region_mark (fun _ => True) 7 (by kernel_rfl) ?_
      refine tkF (i := 0) (v := ?_) rfl (by kernel_rfl) (by rfl) ?_ (.inr trivial) ?_
      rotate_left
      · intro W hSw; go_simp; try (with_reducible rfl)
      simp only [Act.put, lsA, lsB, lsC]
      refine tkF (i := 1) (v := ?_) rfl (by kernel_rfl) (by rfl) ?_ (.inr trivial) ?_
      rotate_left
      · intro W hSw; go_simp; try (with_reducible rfl)
      simp only [Act.put, lsA, lsB, lsC]
      refine tkF (i := 2) (v := ?_) rfl (by kernel_rfl) (by rfl) ?_ (.inr trivial) ?_
      rotate_left
      · intro W hSw; go_simp; try (with_reducible rfl)
      simp only [Act.put, lsA, lsB, lsC]
      refine tkF (i := 3) (v := ?_) rfl (by kernel_rfl) (by rfl) ?_ (.inr trivial) ?_
      rotate_left
      · intro W hSw; go_simp; try (with_reducible rfl)
      simp only [Act.put, lsA, lsB, lsC]
      refine tkF (i := 4) (v := ?_) rfl (by kernel_rfl) (by rfl) ?_ (.inr trivial) ?_
      rotate_left
      · intro W hSw; go_simp; try (with_reducible rfl)
      simp only [Act.put, lsA, lsB, lsC]
      refine tkF (i := 5) (v := ?_) rfl (by kernel_rfl) (by rfl) ?_ (.inr trivial) ?_
      rotate_left
      · intro W hSw; go_simp; try (with_reducible rfl)
      simp only [Act.put, lsA, lsB, lsC]
      refine tkF (i := 6) (v := ?_) rfl (by kernel_rfl) (by rfl) ?_ (.inr trivial) ?_
      rotate_left
      · intro W hSw; go_simp; try (with_reducible rfl)
      simp only [Act.put, lsA, lsB, lsC]
      refine tkO (i := 7) (by kernel_rfl) rfl (fun K hK => ?_)
      refine step_ranC (by rfl) _ _ 60 60 (by rfl) _ _ _ (by rfl) (by rfl) hcp ?_
      refine hK.out _ _ (.inl (by kernel_rfl)) ?_
      clear hK K
      try simp only [Act.put, lsA, lsB, lsC]
      refine tkF (i := 8) (v := ?_) rfl (by kernel_rfl) (by rfl) ?_ (.inl (by kernel_rfl)) ?_
      rotate_left
      · intro W hSw; go_simp; try (with_reducible rfl)
      simp only [Act.put, lsA, lsB, lsC]
      refine tkO (i := 9) (by kernel_rfl) rfl (fun K hK => ?_)
      go_simp
      refine hK.out _ _ (.inl (by kernel_rfl)) ?_
      clear hK K
      refine wpAnyM_done (by kernel_rfl) ?_ _
      go_wp2_with fail
      go_roundw
      case rel => exact ⟨n + k, by go_num, by omega, fun _ => by omega, HF.out⟩
      case measure => simp [intOf]; omega
    · obtain rfl : n = L := by omega
      go_wp2_with fail
      go_ret
      refine ⟨rfl, ?_, HI.out.2⟩
      have := HI.out.1
      simpa [Sp.nos] using this

set_option maxRecDepth 100000 in
set_option maxHeartbeats 4000000 in
theorem nobodies_any (gb : Nat) (N : List Int) (nx : Nat → List Nat) (gn : Option Nat) (cn lo xb : Nat) (bl : Nat → Option Nat) (cp : Nat → Nat) (w : World) (h : GR w gb N nx gn cn lo xb bl cp) (hn : N.length ≤ 4096) :
    Calls Tryz.prog 38 #[.pointer (some ⟨gb, 0, none⟩)] w fun e w' => ∃ gi, e = .returned (.slice (some ⟨gi, 0, none⟩) N.length N.length) ∧ OwnR w' 3 gi N.length N.length (iv (List.replicate N.length (-1))) ∧ w.heap.size ≤ gi ∧ Below w.heap.size w w' := by
  have hb : Below w.heap.size w (w.alloc (.cells #[.int .i64 (-1)] 3)) := (Below.refl _ _).alloc (Nat.le_refl _) _
  have hc0 : (w.alloc (.cells #[.int .i64 (-1)] 3)).cell? ⟨gb, 0, none⟩ = some (.slice (adr gn) N.length cn) := (h.keep hb).c0
  have HR : Hid (Calls Tryz.prog 62 #[.slice (some ⟨w.heap.size, 0, none⟩) 1 1, .int .i64 (N.length : Int)] (w.alloc (.cells #[.int .i64 (-1)] 3)) fun e w' => e = .returned (.slice (some ⟨w.heap.size + 1, 0, none⟩) N.length N.length) ∧ OwnR w' 3 (w.heap.size + 1) N.length N.length (iv (List.replicate N.length (-1))) ∧ Below w.heap.size w w') := by
    refine (Repeat_any w.heap.size N.length _ (by simp) hn).mono ?_
    rintro e w' ⟨rfl, h1, h2⟩
    rw [al_size] at h1 h2 ⊢
    exact ⟨rfl, h1, hb.trans (h2.mono (by omega))⟩
  clear h hb
  go_enter Tryz.func38, Tryz.ntmps38
  go_wp2_with fail
  refine HR.out.mono ?_
  rintro e w1 ⟨rfl, h1, h2⟩
  have HF : Hid (OwnR w1 3 (w.heap.size + 1) N.length N.length (iv (List.replicate N.length (-1))) ∧ Below w.heap.size w w1) := ⟨h1, h2⟩
  clear h1 h2 hc0
  go_wp2_with fail
  go_ret
  exact ⟨_, rfl, HF.out.1, by omega, HF.out.2⟩
end Go.Proofs.YtikhpbidbcfedaaGreat

