/- tenonlaw10.ObjectGiven returns true at every description and every text. -/
import Derived.Test.YtbjjeleoimcboaaR29
import Derived.Laws.Bits64b
namespace Go.Proofs.Ytbjjeleoimcboaa
open Go.RowKit

theorem fitM_emod (m h : Int) (hm : 0 < m) (hm2 : m ≤ 16) : fitM m h = h % m := by
  have h1 : h.tmod m < m := Int.tmod_lt_of_pos h hm
  have h2 : -m < h.tmod m := Int.lt_tmod_of_pos h hm
  have h3 : wrap64 (h.tmod m + m) = h.tmod m + m := by unfold wrap64; omega
  unfold fitM
  rw [h3, Int.tmod_eq_emod_of_nonneg (by omega), Int.add_emod_right, Int.tmod_def, Int.sub_mul_emod_self_left]

/-- an ability's bit is there when it was put there -/
theorem fit_or (n : Int) (k : Nat) (hk : k = 2 ∨ k = 3) (n' : Nat) (h : fitM 16 (bits .or .i64 n ((2 ^ k : Nat) : Int)) = (n' : Int)) : n'.testBit k = true := by
  rw [fitM_emod _ _ (by decide) (by decide)] at h
  have e : bits .or .i64 n ((2 ^ k : Nat) : Int) = IntKind.i64.wrap ((BitVec.ofInt 64 n ||| BitVec.ofInt 64 ((2 ^ k : Nat) : Int)).toNat : Nat) := rfl
  rw [e, IntKind.wrap_i64] at h
  have e2 : n' = (BitVec.ofInt 64 n ||| BitVec.ofInt 64 ((2 ^ k : Nat) : Int)).toNat % 2 ^ 4 := by
    generalize (BitVec.ofInt 64 n ||| BitVec.ofInt 64 ((2 ^ k : Nat) : Int)).toNat = q at h
    omega
  rw [e2, Nat.testBit_mod_two_pow, BitVec.toNat_or, Nat.testBit_or]
  rcases hk with rfl | rfl <;> simp <;> right <;> decide

theorem set3 (r : Sr) (h n sh X : Int) (p : Nat) (w : World) (T : TypeId) (hp : w.heap[p]? = some (.cells (r.cs h n sh) T)) :
    (((w.setCell ⟨p, 0, none⟩ (.int .i64 0)).setCell ⟨p, 1, none⟩ (.int .i64 X)).setCell ⟨p, 12, none⟩ (.int .i64 0)).heap[p]? = some (.cells (({ r with pa := 0 } : Sr).cs 0 X sh) T) ∧ Below p w (((w.setCell ⟨p, 0, none⟩ (.int .i64 0)).setCell ⟨p, 1, none⟩ (.int .i64 X)).setCell ⟨p, 12, none⟩ (.int .i64 0)) := by
  refine ⟨?_, (((Below.refl _ _).setCell (p := ⟨p, 0, none⟩) (Nat.le_refl _) _).setCell (p := ⟨p, 1, none⟩) (Nat.le_refl _) _).setCell (p := ⟨p, 12, none⟩) (Nat.le_refl _) _⟩
  have e1 : (w.setCell ⟨p, 0, none⟩ (.int .i64 0)).heap[p]? = some (.cells (r.cs 0 n sh) T) := by rw [setCell_eq_setRow _ _ _ _ _ _ _ hp]; exact setRow_heap _ _ _ _ _ _ hp
  have e2 : ((w.setCell ⟨p, 0, none⟩ (.int .i64 0)).setCell ⟨p, 1, none⟩ (.int .i64 X)).heap[p]? = some (.cells (r.cs 0 X sh) T) := by rw [setCell_eq_setRow _ _ _ _ _ _ _ e1]; exact setRow_heap _ _ _ _ _ _ e1
  rw [setCell_eq_setRow _ _ _ _ _ _ _ e2]; exact setRow_heap _ _ _ _ _ _ e2

theorem Cg_core {r : Sr} {n : Nat} {sh : Int} {c : Nat} {w : World} (h : Core ({ r with pa := 0 } : Sr) 0 n sh c w) : Cg w c r.ow r.gv :=
  ⟨_, h, rfl, rfl, rfl, rfl, ⟨0, rfl⟩, ⟨0, rfl⟩⟩

set_option maxRecDepth 100000 in
set_option maxHeartbeats 4000000 in
theorem ObjectGiven_any (r : Sr) (h n sh : Int) (to : ByteArray) (hw : r.ow.size ≤ maxLen) (ht : to.size ≤ maxLen) (w : World) :
    Calls Try.prog 5 #[.agg (r.cs h n sh), .string to] w fun e w' => e = .returned (.bool true) ∧ Below w.heap.size w w' := by
  have HLv : Hid (∀ W, Calls Try.prog 10 #[] W fun e w' => e = .returned (.bool true) ∧ Below W.heap.size W w') := lives_any
  have HA : Hid (∀ o, (w.alloc o).heap[w.heap.size]? = some o) := fun o => heap_alloc_last w o
  have Hw : Hid (r.ow.size ≤ maxLen ∧ to.size ≤ maxLen) := ⟨hw, ht⟩
  clear hw ht
  go_enter Try.func5, Try.ntmps5
  unfold Sr.cs
  go_wp2_with fail
  show Calls Try.prog _ _ (w.alloc (.cells (r.cs h n sh) 32)) _
  refine (HLv.out _).mono ?_
  rintro e w1 ⟨rfl, hb1⟩
  have k1 := (hb1.block w.heap.size (by simp)).trans (HA.out _)
  have HB1 : Hid (Below w.heap.size w w1) := ((Below.refl _ _).alloc (Nat.le_refl _) _).trans (hb1.mono (by simp))
  have HK1 : Hid (w1.heap[w.heap.size]? = some (.cells (r.cs h n sh) 32)) := k1
  have e0 : w1.cell? ⟨w.heap.size, 0, none⟩ = some (.int .i64 h) := by rw [cell_of_row _ _ 0 _ _ _ k1]; rfl
  have e1 : w1.cell? ⟨w.heap.size, 1, none⟩ = some (.int .i64 n) := by rw [cell_of_row _ _ 1 _ _ _ k1]; rfl
  have e12 : w1.cell? ⟨w.heap.size, 12, none⟩ = some (.int .i64 r.pa) := by rw [cell_of_row _ _ 12 _ _ _ k1]; rfl
  have z0 : w1.frozen? ⟨w.heap.size, 0, none⟩ = false := frozen_of_row _ _ 0 _ _ k1
  have z1 : w1.frozen? ⟨w.heap.size, 1, none⟩ = false := frozen_of_row _ _ 1 _ _ k1
  have z12 : w1.frozen? ⟨w.heap.size, 12, none⟩ = false := frozen_of_row _ _ 12 _ _ k1
  have HLD : Hid (∀ X, (loadVar 32 ⟨w.heap.size, 0, none⟩).run Try.prog (((w1.setCell ⟨w.heap.size, 0, none⟩ (.int .i64 0)).setCell ⟨w.heap.size, 1, none⟩ (.int .i64 X)).setCell ⟨w.heap.size, 12, none⟩ (.int .i64 0)) = .ok (.agg (({ r with pa := 0 } : Sr).cs 0 X sh)) (((w1.setCell ⟨w.heap.size, 0, none⟩ (.int .i64 0)).setCell ⟨w.heap.size, 1, none⟩ (.int .i64 X)).setCell ⟨w.heap.size, 12, none⟩ (.int .i64 0))) := fun X => sp_ld _ 0 X sh (set3 r h n sh X _ w1 _ k1).1
  clear hb1 HLv HA k1
  go_wp2_with ((with_reducible refine ldr ?_ ?_ (HLD.out _) ?_); rfl; rfl)
  obtain ⟨s1, s2⟩ := set3 r h n sh (bits .or .i64 n 4) w.heap.size w1 _ HK1.out
  generalize ((w1.setCell ⟨w.heap.size, 0, none⟩ (.int .i64 0)).setCell ⟨w.heap.size, 1, none⟩ (.int .i64 (bits .or .i64 n 4))).setCell ⟨w.heap.size, 12, none⟩ (.int .i64 0) = w2 at s1 s2 ⊢
  refine (madeG_any { r with pa := 0 } (bits .or .i64 n 4) sh w2).mono ?_
  rintro e w4 ⟨n', hn', hl', T, v, c, d, rfl, hb4, hc4, hA, hT, hC, hDx⟩
  have hbit : n'.testBit 2 = true := fit_or n 2 (.inl rfl) n' hn'
  have hD := hDx.1 hbit
  have hG := Cg_core hC
  have hcl := hG.lt
  have hwc : w.heap.size ≤ c := Nat.le_trans (Nat.le_trans HB1.out.size s2.size) hc4
  have hb5 : Below w4.heap.size w4 (w4.alloc (Obj.cells #[.iface T v, .pointer (some ⟨c, 0, none⟩), .pointer (some ⟨d, 0, none⟩)] 39)) := (Below.refl _ _).alloc (Nat.le_refl _) _
  have HB5 : Hid (Below w.heap.size w (w4.alloc (Obj.cells #[.iface T v, .pointer (some ⟨c, 0, none⟩), .pointer (some ⟨d, 0, none⟩)] 39))) := (((HB1.out.trans s2).trans (hb4.mono (Nat.le_trans HB1.out.size s2.size))).trans (hb5.mono (Nat.le_trans (Nat.le_trans HB1.out.size s2.size) hb4.size)))
  have q5 : (w4.alloc (Obj.cells #[.iface T v, .pointer (some ⟨c, 0, none⟩), .pointer (some ⟨d, 0, none⟩)] 39)).heap[w4.heap.size]? = some (Obj.cells #[.iface T v, .pointer (some ⟨c, 0, none⟩), .pointer (some ⟨d, 0, none⟩)] 39) := heap_alloc_last _ _
  have HP5 : Hid (Cg (w4.alloc (Obj.cells #[.iface T v, .pointer (some ⟨c, 0, none⟩), .pointer (some ⟨d, 0, none⟩)] 39)) c r.ow r.gv ∧ DxO T v c (w4.alloc (Obj.cells #[.iface T v, .pointer (some ⟨c, 0, none⟩), .pointer (some ⟨d, 0, none⟩)] 39)) ∧ (w4.alloc (Obj.cells #[.iface T v, .pointer (some ⟨c, 0, none⟩), .pointer (some ⟨d, 0, none⟩)] 39)).heap[w4.heap.size]? = some (Obj.cells #[.iface T v, .pointer (some ⟨c, 0, none⟩), .pointer (some ⟨d, 0, none⟩)] 39)) := ⟨hG.keep (hb5.block c hcl), hD.keep (fun j _ h2 => hb5.block j h2) hb5.size, q5⟩
  have HX : Hid (Ab T n' ∧ n'.testBit 2 = true ∧ T ≠ 55 ∧ w.heap.size ≤ c ∧ c < w4.heap.size) := ⟨hA, hbit, hT, hwc, hcl⟩
  clear s1 s2 hn' hl' hb4 hc4 hA hT hC hDx hbit hD hG hcl hwc hb5 q5 e0 e1 e12 z0 z1 z12 HLD HB1 HK1
  go_wp2_with fail
  refine (OwnerOf_any T n' v c r.ow r.gv _ HX.out.1 HX.out.2.1 HX.out.2.2.1 HP5.out.2.1 HP5.out.1 Hw.out.1).mono ?_
  rintro e w6 ⟨rfl, hg6, hk6⟩
  have q6 := (hk6.block w4.heap.size (by simp) (by have := HX.out.2.2.2.2; omega)).trans HP5.out.2.2
  have x6 : w6.cell? ⟨w4.heap.size, 0, none⟩ = some (.iface T v) := by rw [cell_of_row _ _ 0 _ _ _ q6]; rfl
  have HP6 : Hid (Cg w6 c r.ow r.gv ∧ DxO T v c w6 ∧ w6.heap[w4.heap.size]? = some (Obj.cells #[.iface T v, .pointer (some ⟨c, 0, none⟩), .pointer (some ⟨d, 0, none⟩)] 39) ∧ Kc c (w4.alloc (Obj.cells #[.iface T v, .pointer (some ⟨c, 0, none⟩), .pointer (some ⟨d, 0, none⟩)] 39)) w6) := ⟨hg6, HP5.out.2.1.keep hk6.kp hk6.size, q6, hk6⟩
  have HOw : Hid (∀ (ow : ByteArray) W, ow.size ≤ maxLen → Cg W c ow r.gv → DxO T v c W → Calls Try.prog 13 #[.iface T v] W fun e w' => e = .returned (.tuple #[.string (ownT ow), .bool true, .int .i64 (ownE ow)]) ∧ Cg w' c ow r.gv ∧ Kc c W w') := fun ow W hm hG hD => OwnerOf_any T n' v c ow r.gv W HX.out.1 HX.out.2.1 HX.out.2.2.1 hD hG hm
  have HGn : Hid (∀ W, Sp.isNm to = false → Calls Try.prog 14 #[.iface T v, .string to] W fun e w' => e = .returned (.int .i64 8) ∧ Below W.heap.size W w') := fun W hb => Give_noname T v to W HX.out.2.2.1 Hw.out.2 hb
  have HGy : Hid (∀ W, Cg W c r.ow r.gv → DxO T v c W → Sp.isNm to = true → Calls Try.prog 14 #[.iface T v, .string to] W fun e w' => e = .returned (.int .i64 r.gv) ∧ Cg w' c (ownG r.ow to r.gv) r.gv ∧ Kc c W w') := fun W hG hD hb => Give_name T n' v c r.ow to r.gv W HX.out.1 HX.out.2.1 HX.out.2.2.1 hD hG Hw.out.2 hb
  clear hg6 hk6 q6 HP5
  have HQ : Hid (c < w4.heap.size ∧ w.heap.size ≤ c ∧ c < w6.heap.size ∧ w4.heap.size < w6.heap.size) := ⟨HX.out.2.2.2.2, HX.out.2.2.2.1, HP6.out.1.lt, (Array.getElem?_eq_some_iff.1 HP6.out.2.2.1).1⟩
  clear HX
  generalize hot : ownT r.ow = ot
  generalize hoe : ownE r.ow = oe
  have HOT : Hid (ownT r.ow = ot ∧ ownE r.ow = oe) := ⟨hot, hoe⟩
  clear hot hoe
  go_wp2_with fail
  cases hb : Sp.isNm to
  · refine (HGn.out _ hb).mono ?_
    rintro e w7 ⟨rfl, hb7⟩
    have q7 := (hb7.block w4.heap.size HQ.out.2.2.2).trans HP6.out.2.2.1
    have x7 : w7.cell? ⟨w4.heap.size, 0, none⟩ = some (.iface T v) := by rw [cell_of_row _ _ 0 _ _ _ q7]; rfl
    have HP7 : Hid (Cg w7 c r.ow r.gv ∧ DxO T v c w7 ∧ Kc c (w4.alloc (Obj.cells #[.iface T v, .pointer (some ⟨c, 0, none⟩), .pointer (some ⟨d, 0, none⟩)] 39)) w7) := ⟨HP6.out.1.keep (hb7.block c HQ.out.2.2.1), HP6.out.2.1.keep (fun j _ h2 => hb7.block j h2) hb7.size, HP6.out.2.2.2.trans (Kc.of hb7)⟩
    clear hb7 q7 hb x6
    go_wp2_with fail
    refine (HOw.out r.ow w7 Hw.out.1 HP7.out.1 HP7.out.2.1).mono ?_
    rintro e w8 ⟨rfl, hg8, hk8⟩
    have HR : Hid (Below w.heap.size w w8) := HB5.out.trans ((HP7.out.2.2.trans hk8).below HQ.out.2.1 (by have := HQ.out; simp; omega))
    rw [HOT.out.1, HOT.out.2]
    clear hg8 hk8
    go_wp2_with fail
    go_ret
    exact ⟨rfl, HR.out⟩
  · by_cases hgv : r.gv = 0
    · refine (HGy.out w6 HP6.out.1 HP6.out.2.1 hb).mono ?_
      rintro e w7 ⟨rfl, hg7, hk7⟩
      have hog : ownG r.ow to r.gv = to := by simp [ownG, hgv]
      rw [hog] at hg7
      have q7 := (hk7.block w4.heap.size HQ.out.2.2.2 (by have := HQ.out; omega)).trans HP6.out.2.2.1
      have x7 : w7.cell? ⟨w4.heap.size, 0, none⟩ = some (.iface T v) := by rw [cell_of_row _ _ 0 _ _ _ q7]; rfl
      have HP7 : Hid (Cg w7 c to r.gv ∧ DxO T v c w7 ∧ Kc c (w4.alloc (Obj.cells #[.iface T v, .pointer (some ⟨c, 0, none⟩), .pointer (some ⟨d, 0, none⟩)] 39)) w7) := ⟨hg7, HP6.out.2.1.keep hk7.kp hk7.size, HP6.out.2.2.2.trans hk7⟩
      have HNm : Hid (Sp.isNm to = true) := hb
      rw [hgv]
      clear hk7 q7 hb x6 hg7 hog
      go_wp2_with fail
      refine (HOw.out to w7 Hw.out.2 HP7.out.1 HP7.out.2.1).mono ?_
      rintro e w8 ⟨rfl, hg8, hk8⟩
      have HR : Hid (Below w.heap.size w w8) := HB5.out.trans ((HP7.out.2.2.trans hk8).below HQ.out.2.1 (by have := HQ.out; simp; omega))
      rw [show ownT to = to by simp [ownT, HNm.out], show ownE to = 0 by simp [ownE, HNm.out]]
      clear hg8 hk8
      go_wp2_with fail
      go_ret
      exact ⟨rfl, HR.out⟩
    · refine (HGy.out w6 HP6.out.1 HP6.out.2.1 hb).mono ?_
      rintro e w7 ⟨rfl, hg7, hk7⟩
      have hog : ownG r.ow to r.gv = r.ow := by simp [ownG, hgv]
      rw [hog] at hg7
      have q7 := (hk7.block w4.heap.size HQ.out.2.2.2 (by have := HQ.out; omega)).trans HP6.out.2.2.1
      have x7 : w7.cell? ⟨w4.heap.size, 0, none⟩ = some (.iface T v) := by rw [cell_of_row _ _ 0 _ _ _ q7]; rfl
      have HP7 : Hid (Cg w7 c r.ow r.gv ∧ DxO T v c w7 ∧ Kc c (w4.alloc (Obj.cells #[.iface T v, .pointer (some ⟨c, 0, none⟩), .pointer (some ⟨d, 0, none⟩)] 39)) w7) := ⟨hg7, HP6.out.2.1.keep hk7.kp hk7.size, HP6.out.2.2.2.trans hk7⟩
      have HNm : Hid (Sp.isNm to = true) := hb
      have bgv : (r.gv == 0) = false := by simp [hgv]
      clear hgv
      clear hk7 q7 hb x6 hg7 hog
      go_wp2_with fail
      refine (HOw.out r.ow w7 Hw.out.1 HP7.out.1 HP7.out.2.1).mono ?_
      rintro e w8 ⟨rfl, hg8, hk8⟩
      have HR : Hid (Below w.heap.size w w8) := HB5.out.trans ((HP7.out.2.2.trans hk8).below HQ.out.2.1 (by have := HQ.out; simp; omega))
      rw [HOT.out.1, HOT.out.2]
      clear hg8 hk8
      go_wp2_with fail
      go_ret
      exact ⟨rfl, HR.out⟩
end Go.Proofs.Ytbjjeleoimcboaa

