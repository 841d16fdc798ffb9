/- slices.Sorted of slices.Values of strings that rise already. -/
import Derived.Sort.OwnSorted
import Derived.Test.YtjlhmgopmdcopaaGreatKI36
namespace Go.Proofs.YtjlhmgopmdcopaaGreat
open Go.RowKit Go.Shelf Go.Sort

attribute [local go_sem] Oper.semAt_some

/-- what is asked of slices.Sort -/
def SortS : Prop :=
  (∀ (blk off cap : Nat) (ss : List (List UInt8)) (W : World), Holds encStr W blk off ss.toArray → blk < W.heap.size → ss.length < 4611686018427387904 →
    Calls Tryz.prog 73 #[.slice (some ⟨blk, off, none⟩) ss.length cap] W fun e w' => e = .returned (.tuple #[]) ∧ ∃ k os, w' = grow (putRow encStr (Sort.ahead W k) blk off (ss.mergeSort fun x y => decide (x ≤ y)).toArray) os) ∧
  (∀ (p : Option Addr) (cap : Nat) (W : World), Calls Tryz.prog 73 #[.slice p 0 cap] W fun e w' => e = .returned (.tuple #[]) ∧ w' = W)

theorem less_lt : ∀ (x y : List UInt8), Op.bytesLess x y = decide (x < y)
  | [], [] => by simp [Op.bytesLess]
  | _ :: _, [] => by simp [Op.bytesLess]
  | [], _ :: _ => by simp [Op.bytesLess]
  | a :: x, b :: y => by
    rw [Op.bytesLess, less_lt x y]
    simp only [List.cons_lt_cons_iff]
    by_cases h1 : a < b <;> by_cases h2 : a = b <;> by_cases h3 : x < y <;> simp [h1, h2, h3]
theorem up_sorted (zs : List ByteArray) (h : Sp.up zs) : ((zs.map fun z => z.data.toList).mergeSort fun x y => decide (x ≤ y)) = zs.map fun z => z.data.toList := by
  refine List.mergeSort_of_pairwise ?_
  rw [List.pairwise_map]
  refine h.imp fun {a b} hab => ?_
  have h1 := less_of a b
  have hv := cmp_vals a.data.toList b.data.toList
  have hm : Sp.cmpS a b = -1 := by unfold Sp.cmpS at *; omega
  rw [hm, ByteArray.toList_eq, ByteArray.toList_eq, less_lt] at h1
  simp at h1
  exact decide_eq_true (List.le_of_lt h1)

theorem map_enc (zs : List ByteArray) : (zs.map fun z => z.data.toList).map encStr = zs.map Value.string := by
  rw [List.map_map]
  exact List.map_congr_left fun z _ => rfl

set_option maxRecDepth 100000 in
set_option maxHeartbeats 2000000 in
theorem sorted_up (hS : SortS) (Bs : Nat) (sv : Value) (zs : List ByteArray) (hup : Sp.up zs) (hreach : zs.length * 16 ≤ 140737488351232) (w : World) (hBs : w.cell? ⟨Bs, 0, none⟩ = some sv) (hI : SRow w.heap.size w sv zs) :
    Calls Tryz.prog 53 #[.func (.func 74) #[] #[.pointer (some ⟨Bs, 0, none⟩)]] w fun e W' => ∃ v, e = .returned v ∧ W'.ownsRow w.heap.size 9 1 v zs.length (zs.map Value.string) ∧ Below w.heap.size w W' := by
  have HC : Hid (Calls Tryz.prog 72 #[.func (.func 74) #[] #[.pointer (some ⟨Bs, 0, none⟩)]] w fun e W' => ∃ v, e = .returned v ∧ W'.ownsRow w.heap.size 9 1 v zs.length (zs.map Value.string) ∧ (v = .slice none 0 0 ↔ zs = []) ∧ Below w.heap.size w W') :=
    (callsIn_wide (n := 4)).1 (collect_in Fence.wide 4 trivial trivial trivial rfl (by omega) Bs sv zs hreach w hBs hI)
  have HS : Hid SortS := hS
  clear hS hI hBs
  go_enter Tryz.func53, Tryz.ntmps53
  go_wp2_with fail
  refine HC.out.mono ?_
  rintro e W ⟨v, rfl, hrow, hnil, hb⟩
  rcases hrow.2 with ⟨rfl, hz⟩ | ⟨gb, cap, cur, rfl, hbase, hgb, r1, r2, r3, r4⟩
  · have HR : Hid (W.ownsRow w.heap.size 9 1 (.slice none 0 0) zs.length (zs.map Value.string) ∧ Below w.heap.size w W) := ⟨hrow, hb⟩
    clear hrow hnil hb hz
    go_wp2_with fail
    refine (HS.out.2 none 0 W).mono ?_
    rintro e w' ⟨rfl, rfl⟩
    go_wp2_with fail
    go_ret
    exact ⟨_, rfl, HR.out⟩
  · have hH : Holds encStr W gb 0 (zs.map fun z => z.data.toList).toArray := holds_of_block hgb (by rw [map_enc]; simpa using r4)
    have hgl : gb < W.heap.size := (Array.getElem?_eq_some_iff.1 hgb).1
    have HQ : Hid (Calls Tryz.prog 73 #[.slice (some ⟨gb, 0, none⟩) zs.length cap] W fun e w' => e = .returned (.tuple #[]) ∧ w'.ownsRow w.heap.size 9 1 (.slice (some ⟨gb, 0, none⟩) zs.length cap) zs.length (zs.map Value.string) ∧ Below w.heap.size w w') := by
      have hc := HS.out.1 gb 0 cap (zs.map fun z => z.data.toList) W hH hgl (by rw [List.length_map]; omega)
      rw [List.length_map, up_sorted zs hup] at hc
      refine hc.mono ?_
      rintro e w' ⟨rfl, k, os, rfl⟩
      have ho := ownsRow_sorted (ss := zs.map fun z => z.data.toList) (ts := zs.map fun z => z.data.toList) (n := k) (os := os) rfl hbase hgb (by rw [List.length_map]; exact r1) r2 r3
      rw [List.length_map, map_enc] at ho
      exact ⟨rfl, ho, hb.grown (grownBy_sorted _) hb.size (fun j hj => by cases hj; exact hbase)⟩
    clear hrow hnil hb hgb r1 r2 r3 r4 hH
    go_wp2_with fail
    refine HQ.out.mono ?_
    rintro e w' ⟨rfl, ho⟩
    go_wp2_with fail
    go_ret
    exact ⟨_, rfl, ho⟩

end Go.Proofs.YtjlhmgopmdcopaaGreat

/- object.inOrder of names that rise. -/
namespace Go.Proofs.YtjlhmgopmdcopaaGreat
open Go.RowKit Go.Shelf Go.Sort

theorem SRow.of_own {base : Nat} {w : World} {v : Value} {zs : List ByteArray} (h : w.ownsRow base 9 1 v zs.length (zs.map Value.string)) : SRow w.heap.size w v zs := by
  rcases h.2 with ⟨rfl, hz⟩ | ⟨g, cap, cur, rfl, h1, h2, _⟩
  · exact .inl ⟨rfl, List.eq_nil_of_length_eq_zero hz⟩
  · refine .inr ⟨g, 0, cap, rfl, (Array.getElem?_eq_some_iff.1 h2).1, fun j z hj => ?_⟩
    have := h.cells (g := g) rfl j (.string z) (by rw [List.getElem?_map, hj]; rfl)
    have e : (⟨g, 0, none⟩ : Addr).add j = ⟨g, j, none⟩ := by
      unfold Addr.add; split
      · rename_i h0; rw [h0]
      · simp
    rw [e] at this
    rw [Nat.zero_add]; exact this

theorem own_low {W : World} {base base' : Nat} {e : TypeId} {size : Nat} {v : Value} {k : Nat} {xs : List Value} (h : W.ownsRow base e size v k xs) (hb : base' ≤ base) : W.ownsRow base' e size v k xs := by
  rcases h with ⟨h1, h2 | ⟨g, cap, cur, h3, h4, h5⟩⟩
  · exact ⟨h1, .inl h2⟩
  · exact ⟨h1, .inr ⟨g, cap, cur, h3, Nat.le_trans hb h4, h5⟩⟩

set_option maxRecDepth 100000 in
set_option maxHeartbeats 2000000 in
theorem inOrder_up (hS : SortS) (an : Option Addr) (cn : Nat) (zs : List ByteArray) (hup : Sp.up zs) (hnm : ∀ z ∈ zs, Sp.isNm z = true) (hlen : zs.length ≤ 4096) (w : World) (hI : SRow w.heap.size w (.slice an zs.length cn) zs) :
    Calls Tryz.prog 31 #[.slice an zs.length cn] w fun e W' => ∃ v, e = .returned (.tuple #[v, .int .i64 0]) ∧ W'.ownsRow w.heap.size 9 1 v zs.length (zs.map Value.string) ∧ Below w.heap.size w W' := by
  have HV : Hid (∀ W, Calls Tryz.prog 54 #[.slice an zs.length cn] W fun e w' => e = .returned (.func (.func 74) #[] #[.pointer (some ⟨W.heap.size, 0, none⟩)]) ∧ w' = W.alloc (.cells #[.slice an zs.length cn] 45)) := fun W => (callsIn_wide (n := 1)).1 (values_in Fence.wide 1 trivial rfl an zs.length cn W)
  have HW : Hid (∀ W, W = w.alloc (.cells #[.slice an zs.length cn] 45) → Calls Tryz.prog 53 #[.func (.func 74) #[] #[.pointer (some ⟨w.heap.size, 0, none⟩)]] W fun e W' => ∃ v, e = .returned v ∧ W'.ownsRow w.heap.size 9 1 v zs.length (zs.map Value.string) ∧ Below w.heap.size w W') := fun W hW => by
    subst hW
    have hb : Below w.heap.size w (w.alloc (.cells #[.slice an zs.length cn] 45)) := (Below.refl _ w).alloc (Nat.le_refl _) _
    have hI2 : SRow (w.alloc (.cells #[.slice an zs.length cn] 45)).heap.size (w.alloc (.cells #[.slice an zs.length cn] 45)) (.slice an zs.length cn) zs := by
      rcases hI.below hb with h | ⟨b, off, cap, e, h1, h2⟩
      · exact .inl h
      · exact .inr ⟨b, off, cap, e, by rw [World.size_alloc]; omega, h2⟩
    refine (sorted_up hS w.heap.size (.slice an zs.length cn) zs hup (by omega) _ (Boxed.new w _ _).cell hI2).mono ?_
    rintro e W' ⟨v, rfl, ho, hb2⟩
    exact ⟨v, rfl, own_low ho (by rw [World.size_alloc]; omega), hb.trans (hb2.mono (by rw [World.size_alloc]; omega))⟩
  have HN : Hid (∀ (j : Nat) (h : j < zs.length) W, Calls Tryz.prog 55 #[.string zs[j]] W fun e w' => e = .returned (.bool true) ∧ W = w') := fun j h W => by
    have h1 := hnm zs[j] (List.getElem_mem h)
    have hsz : zs[j].size ≤ 32 := by simp [Sp.isNm] at h1; omega
    have := isName_any zs[j] W (by unfold maxLen; omega); rw [h1] at this; exact this
  have HNe : Hid (∀ (k : Nat) (hk : k < zs.length) (hj : k + 1 < zs.length), (zs[k + 1].toList == zs[k].toList) = false) := fun k hk hj => by
    have := List.pairwise_iff_getElem.1 hup k (k + 1) hk hj (by omega)
    have h2 := cmpS_neg zs[k] zs[k + 1]
    rw [same_of]
    exact decide_eq_false (by omega)
  clear hS hI hnm hup
  go_enter Tryz.func31, Tryz.ntmps31
  go_wp2_with (go_at_call 54; refine (HV.out _).mono ?_; rintro e w' ⟨rfl, rfl⟩)
  refine (HW.out _ rfl).mono ?_
  rintro e w1 ⟨v, rfl, ho, hb⟩
  have hI := SRow.of_own ho
  have HO : Hid (w1.ownsRow w.heap.size 9 1 v zs.length (zs.map Value.string) ∧ Below w.heap.size w w1) := ⟨ho, hb⟩
  clear ho hb HW HV
  rcases hI with ⟨rfl, rfl⟩ | ⟨b, off, cap, rfl, hb, hc⟩
  · go_wp2_with fail
    go_loopw [12] (fun x wr => x = .int .i64 0 ∧ Hid (wr = w1)) (fun _ _ => 0)
    case atStart => exact ⟨rfl, rfl⟩
    case round =>
      obtain ⟨rfl, hw⟩ := hrel
      go_wp2_with fail
      go_ret2
      obtain rfl := hw.out
      exact ⟨_, rfl, HO.out⟩
  · go_wp2_with fail
    go_loopw [12] (fun x wr => ∃ j : Nat, x = .int .i64 j ∧ j ≤ zs.length ∧ Hid (wr = w1)) (fun x _ => zs.length - (intOf x).toNat)
    case atStart => exact ⟨0, rfl, by omega, rfl⟩
    case round =>
      obtain ⟨j, rfl, hj, hw⟩ := hrel
      obtain rfl := hw.out
      by_cases hlt : j < zs.length
      · have hcj := hc j zs[j] (List.getElem?_eq_getElem hlt)
        have HNj : Hid _ := fun W => HN.out j hlt W
        have hji0 : (0 : Int) ≤ (j : Int) := Int.natCast_nonneg _
        have hji1 : (j : Int) < (zs.length : Int) := by omega
        cases j with
        | zero =>
          rw [Nat.add_zero] at hcj
          go_wp2_with (go_at_call 55; refine (HNj.out _).mono ?_; rintro e w' ⟨rfl, rfl⟩)
          go_roundw
          case rel => exact ⟨1, rfl, by omega, trivial⟩
          case measure => simp [intOf]; omega
        | succ k =>
          have hkl : k < zs.length := by omega
          have hck : wr.cell? ⟨b, off + k, none⟩ = some (.string zs[k]) := hc k zs[k] (List.getElem?_eq_getElem hkl)
          have hne : (zs[k + 1].toList == zs[k].toList) = false := HNe.out k hkl hlt
          have e1 : ((k + 1 : Nat) : Int) = (k : Int) + 1 := rfl
          rw [e1] at hji0 hji1 ⊢
          have hk0 : (0 : Int) ≤ (k : Int) := Int.natCast_nonneg _
          go_wp2_with (go_at_call 55; refine (HNj.out _).mono ?_; rintro e w' ⟨rfl, rfl⟩)
          go_roundw
          case rel => exact ⟨k + 1 + 1, by go_num, by omega, trivial⟩
          case measure => simp [intOf]; omega
      · obtain rfl : j = zs.length := by omega
        go_wp2_with fail
        go_ret2
        exact ⟨_, rfl, HO.out⟩
end Go.Proofs.YtjlhmgopmdcopaaGreat

/- object.Record of a ghost that is loaded, under its fields' names. -/
namespace Go.Proofs.YtjlhmgopmdcopaaGreat
open Go.RowKit Go.Shelf Go.Sort

theorem NR.of {w : World} {L : TmF} {an : Option Addr} {n cap : Nat} (h : SRow w.heap.size w (.slice an n cap) L.names) : NR w L an := fun J nm t hJ => by
  obtain ⟨h1, h2⟩ := L.nth_name J nm t hJ
  rcases h with ⟨e, hz⟩ | ⟨b, off, c, e, hb, hc⟩
  · rw [hz] at h1; simp at h1
  · injection e with e _ _
    exact ⟨b, off, e, hb, hc J nm h1⟩

theorem Tm.V10 {w : World} {B : Nat → Prop} {tm : Tm} {g : Nat} {a : Option Addr} {cap : Nat} (hk : tm.kind = 10) (hg : B g) (hc : tm.cOf.size ≤ maxLen) (hr : w.heap[g]? = some (.cells #[.string tm.cOf, .int .i64 tm.vOf, .slice a tm.fields.len cap] 59)) (h : tm.fields.LV w B a cap) : tm.V w B (.iface 31 (.pointer (some ⟨g, 0, none⟩))) := by
  cases tm with
  | mk k b i f tx by' rf l fs c vr =>
    obtain rfl : k = 10 := hk
    exact Tm.V_of10 (a := a) (cap := cap) hg (by rw [cell_of_row _ _ 0 _ _ _ hr]; rfl) (by rw [cell_of_row _ _ 1 _ _ _ hr]; rfl) (by rw [cell_of_row _ _ 2 _ _ _ hr]; rfl) hc ⟨⟨_, hr⟩, h.1, h.2⟩

set_option maxRecDepth 100000 in
set_option maxHeartbeats 2000000 in
theorem Record_gh (hS : SortS) (b : Nat) (id : Int) (fn : Value) (tm : Tm) (an : Option Addr) (cn : Nat) (w : World) (hT : LG w b id fn tm) (hk : tm.kind = 10) (he : tm.all.e = 0) (hh : Sp.headR tm.cOf tm.vOf = 0) (hI : SRow w.heap.size w (.slice an tm.fields.len cn) tm.fields.names) :
    Calls Tryz.prog 14 #[.iface 36 (.pointer (some ⟨b, 0, none⟩)), .slice an tm.fields.len cn] w fun e w' => ∃ rb, e = .returned (.tuple #[.pointer (some ⟨rb, 0, none⟩), .int .i64 0]) ∧ Below w.heap.size w w' ∧ tm.V w' (Fr w w') (.iface 31 (.pointer (some ⟨rb, 0, none⟩))) := by
  have hok : (dctT tm.fields).all.e = 0 := by obtain ⟨_, h, _⟩ := hT; exact h
  obtain ⟨hgd, hnamed, hlen⟩ := dct_ok hok
  have hnl : tm.fields.names.length = tm.fields.len := TmF.names_len _
  have HS : Hid (∀ W, Calls Tryz.prog 24 #[.iface 36 (.pointer (some ⟨b, 0, none⟩))] W fun e w' => e = .returned (.int .i64 0) ∧ W = w') := fun W => holds_sm (gsm b) W
  have HO : Hid (Calls Tryz.prog 31 #[.slice an tm.fields.len cn] w fun e W' => ∃ rn rc, e = .returned (.tuple #[.slice rn tm.fields.len rc, .int .i64 0]) ∧ NR W' tm.fields rn ∧ Below w.heap.size w W') := by
    have := inOrder_up hS an cn tm.fields.names (Sp.named_up _ _ hnamed).1 (named_nm _ _ hnamed) hlen w (by rw [hnl]; exact hI)
    rw [hnl] at this
    refine this.mono ?_
    rintro e W' ⟨v, rfl, ho, hb⟩
    rw [← hnl] at ho
    have hR := SRow.of_own ho
    rw [hnl] at ho
    rcases ho.2 with ⟨rfl, hz⟩ | ⟨g, cap, cur, rfl, _⟩
    · exact ⟨none, 0, by rw [hz], NR.of hR, hb⟩
    · exact ⟨_, cap, rfl, NR.of hR, hb⟩
  have HV : Hid (∀ W, Below w.heap.size w W → Calls Tryz.prog 32 #[.iface 36 (.pointer (some ⟨b, 0, none⟩))] W fun e w' => e = .returned (.tuple #[.string tm.cOf, .int .i64 tm.vOf, .bool true, .int .i64 0]) ∧ Below W.heap.size W w') := fun W hW => gVersionOf (hT.keep hW) hh
  have HF : Hid (∀ W rn rc, Below w.heap.size w W → NR W tm.fields rn → Calls Tryz.prog 33 #[.iface 36 (.pointer (some ⟨b, 0, none⟩)), .slice rn tm.fields.len rc] W fun e w' => ∃ a cap, e = .returned (.tuple #[.slice a tm.fields.len cap, .int .i64 0]) ∧ Below W.heap.size W w' ∧ tm.fields.LV w' (Fr W w') a cap) := fun W rn rc hW hN => fieldsOf_gh b id fn tm rn rc W (hT.keep hW) hN
  have HC : Hid (∀ (W : World) (g : Nat) (a : Option Addr) (cap : Nat), g < W.heap.size → W.heap[g]? = some (.cells #[.string tm.cOf, .int .i64 tm.vOf, .slice a tm.fields.len cap] 59) → tm.fields.LV W (Lo W.heap.size) a cap → Calls Tryz.prog 6 #[.iface 31 (.pointer (some ⟨g, 0, none⟩))] W fun e w' => e = .returned (.tuple #[.int .i64 tm.cAt, .int .i64 0]) ∧ Below W.heap.size W w') := fun W g a cap hg hr hl => by
    have := Check_any tm _ W.heap.size W (Nat.le_refl _) (Tm.V10 hk hg (by have := headR_sz hh; unfold maxLen; omega) hr hl)
    rw [he] at this; exact this
  have HD : Hid (∀ (W : World) (B : Nat → Prop) (g : Nat) (a : Option Addr) (cap : Nat), B g → W.heap[g]? = some (.cells #[.string tm.cOf, .int .i64 tm.vOf, .slice a tm.fields.len cap] 59) → tm.fields.LV W B a cap → tm.V W B (.iface 31 (.pointer (some ⟨g, 0, none⟩)))) := fun W B g a cap hg hr hl => Tm.V10 hk hg (by have := headR_sz hh; unfold maxLen; omega) hr hl
  clear hT hk he hh hI hok hgd hnamed hlen hS
  generalize tm.cOf = cc at HV HC HD ⊢
  generalize tm.vOf = vv at HV HC HD ⊢
  generalize tm.cAt = ca at HC ⊢
  go_enter Tryz.func14, Tryz.ntmps14
  go_wp2_with (go_at_call 24; refine (HS.out _).mono ?_; rintro e w' ⟨rfl, rfl⟩)
  refine HO.out.mono ?_
  rintro e w1 ⟨rn, rc, rfl, hN, hb1⟩
  have HB1 : Hid (Below w.heap.size w w1 ∧ NR w1 tm.fields rn) := ⟨hb1, hN⟩
  clear hb1 hN HO HS
  go_wp2_with fail
  refine (HV.out _ HB1.out.1).mono ?_
  rintro e w2 ⟨rfl, hb2⟩
  have HB2 : Hid (Below w.heap.size w w2 ∧ NR w2 tm.fields rn) := ⟨HB1.out.1.trans (hb2.mono HB1.out.1.size), HB1.out.2.keep hb2⟩
  clear hb2 HB1 HV
  go_wp2_with fail
  refine (HF.out _ rn rc HB2.out.1 HB2.out.2).mono ?_
  rintro e w3 ⟨a, cap, rfl, hb3, hl3⟩
  have HB3 : Hid (Below w.heap.size w w3 ∧ tm.fields.LV w3 (Fr w w3) a cap) := ⟨HB2.out.1.trans (hb3.mono HB2.out.1.size), TmF.LV_same (Same.refl _ _) (fun k hk => ⟨Nat.le_trans HB2.out.1.size hk.1, hk.2⟩) _ _ _ hl3⟩
  clear hb3 hl3 HB2 HF
  go_wp2_with fail
  obtain ⟨W, hW⟩ : ∃ W, w3.alloc (.cells #[.string cc, .int .i64 vv, .slice a tm.fields.len cap] 59) = W := ⟨_, rfl⟩
  have hWs : W.heap.size = w3.heap.size + 1 := by rw [← hW]; simp
  have hWr : W.heap[w3.heap.size]? = some (.cells #[.string cc, .int .i64 vv, .slice a tm.fields.len cap] 59) := by rw [← hW]; exact World.alloc_heap_new _ _
  have hWb : Below w3.heap.size w3 W := by rw [← hW]; exact (Below.refl _ _).alloc (Nat.le_refl _) _
  have HW : Hid (Below w.heap.size w W ∧ tm.fields.LV W (Fr w W) a cap) := ⟨HB3.out.1.trans (hWb.mono HB3.out.1.size), TmF.LV_same (fun k hk => hWb.block k hk.2) (fun k hk => ⟨hk.1, by have := hk.2; omega⟩) _ _ _ HB3.out.2⟩
  have HC2 : Hid (Calls Tryz.prog 6 #[.iface 31 (.pointer (some ⟨w3.heap.size, 0, none⟩))] W fun e w' => e = .returned (.tuple #[.int .i64 ca, .int .i64 0]) ∧ Below W.heap.size W w') := HC.out W w3.heap.size a cap (by omega) hWr (TmF.LV_same (Same.refl _ _) (fun k hk => hk.2) _ _ _ HW.out.2)
  have HR : Hid (w.heap.size ≤ w3.heap.size ∧ w3.heap.size < W.heap.size ∧ W.heap[w3.heap.size]? = some (.cells #[.string cc, .int .i64 vv, .slice a tm.fields.len cap] 59)) := ⟨HB3.out.1.size, by omega, hWr⟩
  rw [hW]
  clear hWs hWr hWb hW HC HB3
  generalize w3.heap.size = rb at HC2 HR ⊢
  refine HC2.out.mono ?_
  rintro e w4 ⟨rfl, hb4⟩
  have HZ : Hid (Below w.heap.size w w4 ∧ tm.V w4 (Fr w w4) (.iface 31 (.pointer (some ⟨rb, 0, none⟩)))) := ⟨HW.out.1.trans (hb4.mono HW.out.1.size), HD.out w4 (Fr w w4) rb a cap ⟨HR.out.1, Nat.lt_of_lt_of_le HR.out.2.1 hb4.size⟩ ((hb4.block _ HR.out.2.1).trans HR.out.2.2) (TmF.LV_same (fun k hk => hb4.block k hk.2) (fun k hk => ⟨hk.1, Nat.lt_of_lt_of_le hk.2 hb4.size⟩) _ _ _ HW.out.2)⟩
  clear hb4 HC2 HD HW
  go_wp2_with fail
  go_ret2
  exact ⟨rb, rfl, HZ.out⟩
end Go.Proofs.YtjlhmgopmdcopaaGreat

