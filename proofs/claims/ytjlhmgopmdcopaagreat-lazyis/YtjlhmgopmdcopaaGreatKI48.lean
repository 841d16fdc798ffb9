/- tenonlaw12.LazyIs returns true at every term: where the record can't be. -/
import Derived.Test.YtjlhmgopmdcopaaGreatKI35
import Derived.Test.YtjlhmgopmdcopaaGreatKI37
import Derived.Test.YtjlhmgopmdcopaaGreatKI38
import Derived.Test.YtjlhmgopmdcopaaGreatKI29
import Derived.Test.YtjlhmgopmdcopaaGreatKI45
import Derived.Test.YtjlhmgopmdcopaaGreatKI42
import Derived.Test.YtjlhmgopmdcopaaGreatKI10
import Derived.Test.YtjlhmgopmdcopaaGreatKI47
namespace Go.Proofs.YtjlhmgopmdcopaaGreat
open Go.RowKit

theorem TmF.In_name {w : World} {B : Nat → Prop} : (L : TmF) → ∀ a k j, L.In w B a k → j < L.len → ∃ n g o, L.names[j]? = some n ∧ a = some ⟨g, o, none⟩ ∧ B g ∧ w.cell? ⟨g, o + (k + j) * 12, none⟩ = some (.string n)
  | .nil, _, _, _, _, h => by simp [TmF.len] at h
  | .cons m u l, a, k, 0, h, _ => by
    simp only [TmF.In] at h
    obtain ⟨g, o, cs, e, hg, c0, _⟩ := h
    exact ⟨m, g, o, by simp [TmF.names], e, hg, c0⟩
  | .cons m u l, a, k, j + 1, h, hj => by
    simp only [TmF.In] at h
    obtain ⟨_, _, _, _, _, _, _, _, _, hl⟩ := h
    obtain ⟨n, g, o, h1, h2, h3, h4⟩ := l.In_name a (k + 1) j hl (by simp [TmF.len] at hj; omega)
    exact ⟨n, g, o, by simpa [TmF.names] using h1, h2, h3, by rw [show k + (j + 1) = k + 1 + j by omega]; exact h4⟩

mutual
theorem Tm.clean_two : (t : Tm) → t.Ok → t.clean.eqv t.clean
  | .mk k b i f tx by' rf l fs c v, h => by
    obtain ⟨p1, p2, p3, p4⟩ := h.parts
    rw [Tm.clean]
    simp only [Tm.eqv]
    refine ⟨trivial, ⟨p1, p2⟩, fun _ => trivial, fun _ => trivial, fun _ => trivial, fun _ => trivial, fun _ => trivial, fun _ => trivial, fun e => ?_, fun e => ?_, fun _ => ⟨trivial, trivial⟩⟩
    · rw [if_pos e]; exact TmL.clean_two l (p3 e)
    · rw [if_pos e]; exact TmF.clean_two fs (p4 e)
theorem TmL.clean_two : (l : TmL) → l.Ok → l.clean.eqv l.clean
  | .nil, _ => trivial
  | .cons t l, h => ⟨Tm.clean_two t h.head.1, TmL.clean_two l h.head.2⟩
theorem TmF.clean_two : (l : TmF) → l.Ok → l.clean.eqv l.clean
  | .nil, _ => trivial
  | .cons _ t l, h => ⟨rfl, Tm.clean_two t h.head.1, TmF.clean_two l h.head.2⟩
end
theorem tm_head {tm : Tm} (hk : tm.kind = 10) (he : tm.all.e = 0) : Sp.headR tm.cOf tm.vOf = 0 := by
  cases tm with
  | mk k b i f tx by' rf l fs c vr =>
    obtain rfl : k = 10 := hk
    by_cases h : Sp.headR c vr = 0
    · exact h
    · have h2 : ((Tm.mk 10 b i f tx by' rf l fs c vr).wk 1 0 0).e = 0 := he
      rw [Tm.wk_10' (by decide) h] at h2
      exact h2

theorem sortS : SortS := ⟨fun blk off cap ss W h1 h2 h3 => Tryz.slices_Sort_string blk off cap ss W h1 h2 h3, fun p cap W => Tryz.slices_Sort_string_none p cap W⟩

set_option maxRecDepth 100000 in
set_option maxHeartbeats 4000000 in
theorem LazyIs_any (t : Tm) (cs : Array Value) (w : World) (hi : t.In w (Lo w.heap.size) cs) :
    Calls Tryz.prog 3 #[.agg cs] w fun e w' => e = .returned (.bool true) ∧ Below w.heap.size w w' := by
  cases t with
  | mk k b i f tx by' rf l fs c vr =>
  simp only [Tm.In] at hi
  obtain ⟨ab, cb, al, cl, af, cf, rfl, hbd, hby, hl, hf⟩ := hi
  have hmf : ∀ (fn : Fn) (first cap : Array Value) (w : World), (Instr.makeFunc fn first cap).run Tryz.prog w = .ok (.func fn first cap) w := fun _ _ _ _ => rfl
  have HLv : Hid (∀ W, Calls Tryz.prog 4 #[] W fun e w' => e = .returned (.bool true) ∧ Below W.heap.size W w') := fun W => lives12_any W
  obtain ⟨tm, htm⟩ : ∃ tm, tm = Tm.mk 10 b i f tx by' rf l fs c vr := ⟨_, rfl⟩
  have hin : ∀ W, Below w.heap.size w W → tm.In W (Lo w.heap.size) (tcells 10 b i f tx (.slice ab by'.size cb) rf (.slice al l.len cl) (.slice af fs.len cf) c vr) := fun W hW => by
    refine tm.In_same (Same.of_below hW (Nat.le_refl _)) (fun _ h => h) _ ?_
    subst htm
    simp only [Tm.In]
    refine ⟨ab, cb, al, cl, af, cf, rfl, ?_, hby, hl, hf⟩
    exact { hbd with k0 := by omega, k1 := by omega }
  have HR : Hid (∀ W, Below w.heap.size w W → Calls Tryz.prog 5 #[.agg (tcells 10 b i f tx (.slice ab by'.size cb) rf (.slice al l.len cl) (.slice af fs.len cf) c vr)] W fun e w' => ∃ rv, e = .returned (.pointer rv) ∧ Below W.heap.size W w' ∧ tm.V w' (Fr W w') (.iface 31 (.pointer rv))) := fun W hW => by
    have := mRec_any tm _ (Lo w.heap.size) W (hin W hW) (fun k hk => by have : k < w.heap.size := hk; have := hW.size; omega)
    rw [show recT tm = tm by subst htm; rfl] at this
    exact this
  clear hbd hby hl
  unfold tcells at HR ⊢
  go_enter Tryz.func3, Tryz.ntmps3
  go_wp2_with fail
  refine (HLv.out _).mono ?_
  rintro e w1 ⟨rfl, hb1⟩
  obtain ⟨hR1, hbw1, hsz1⟩ := box_at1 hb1
  clear hb1 HLv
  obtain ⟨X, hX⟩ : ∃ X, w1.setCell ⟨w.heap.size, 0, none⟩ (.int .i64 10) = X := ⟨_, rfl⟩
  have hXr : X.heap[w.heap.size]? = some (.cells #[.int .i64 10, .bool b, .int .i64 i, .float .f64 f, .string tx, .slice ab by'.size cb, .int .u64 rf, .slice al l.len cl, .slice af fs.len cf, .string c, .int .i64 vr] 29) := by rw [← hX, setCell_eq_setRow _ _ _ _ _ _ _ hR1]; exact setRow_heap _ _ _ _ _ _ hR1
  have hXb : Below w.heap.size w X := by rw [← hX]; exact hbw1.setCell (p := ⟨w.heap.size, 0, none⟩) (Nat.le_refl _) _
  have c0 : w1.cell? ⟨w.heap.size, 0, none⟩ = some (.int .i64 k) := by rw [cell_of_row _ _ 0 _ _ _ hR1]; rfl
  have z0 : w1.frozen? ⟨w.heap.size, 0, none⟩ = false := frozen_of_row _ _ 0 _ _ hR1
  -- the term in its box
  have HTB : Hid (∀ W, Below X.heap.size X W → Below w.heap.size w W ∧ W.heap[w.heap.size]? = some (.cells #[.int .i64 10, .bool b, .int .i64 i, .float .f64 f, .string tx, .slice ab by'.size cb, .int .u64 rf, .slice al l.len cl, .slice af fs.len cf, .string c, .int .i64 vr] 29)) := fun W hW => ⟨hXb.trans (hW.mono hXb.size), (hW.block _ (Array.getElem?_eq_some_iff.1 hXr).1).trans hXr⟩
  have HLD : Hid ((loadVar 29 ⟨w.heap.size, 0, none⟩).run Tryz.prog X = .ok (.agg #[.int .i64 10, .bool b, .int .i64 i, .float .f64 f, .string tx, .slice ab by'.size cb, .int .u64 rf, .slice al l.len cl, .slice af fs.len cf, .string c, .int .i64 vr]) X) := tm_ldz hXr
  clear hR1 hbw1 hsz1 hXr hXb
  go_wp2_with ((with_reducible refine ldr ?_ ?_ HLD.out ?_); rfl; rfl)
  refine (HR.out X (HTB.out X (Below.refl _ _)).1).mono ?_
  rintro e w2 ⟨rv, rfl, hb2, hv2⟩
  obtain ⟨U, hU⟩ : ∃ U, w2.alloc (.cells #[.pointer rv] 31) = U := ⟨_, rfl⟩
  have hUb : Below w2.heap.size w2 U := by rw [← hU]; exact (Below.refl _ _).alloc (Nat.le_refl _) _
  have hUq : U.heap[w2.heap.size]? = some (.cells #[.pointer rv] 31) := by rw [← hU]; exact heap_alloc_last _ _
  have cq : U.cell? ⟨w2.heap.size, 0, none⟩ = some (.pointer rv) := by rw [cell_of_row _ _ 0 _ _ _ hUq]; rfl
  have HU : Hid (Below X.heap.size X U ∧ U.heap[w2.heap.size]? = some (.cells #[.pointer rv] 31) ∧ tm.V U (fun k => X.heap.size ≤ k ∧ k < w2.heap.size) (.iface 31 (.pointer rv)) ∧ X.heap.size ≤ w2.heap.size) := ⟨hb2.trans (hUb.mono hb2.size), hUq, tm.V_same (fun k hk => hUb.block k hk.2) (fun _ h => h) _ hv2, hb2.size⟩
  have HCk : Hid (Calls Tryz.prog 6 #[.iface 31 (.pointer rv)] U fun e w' => e = .returned (.tuple #[.int .i64 tm.cAt, .int .i64 tm.all.e]) ∧ Below U.heap.size U w') := Check_any tm _ U.heap.size U (Nat.le_refl _) (tm.V_same (Same.refl _ _) (fun k hk => by have := hk.2; have := hUb.size; show k < _; omega) _ HU.out.2.2.1)
  have hlq : w2.heap.size < U.heap.size := (Array.getElem?_eq_some_iff.1 hUq).1
  clear hb2 hv2 hUb hUq HLD c0 z0 hX
  have hU' : w2.alloc (.cells #[.pointer rv] 31) = U := hU
  generalize hqq : w2.heap.size = q at HU cq hlq
  generalize tm.cAt = ca at HCk
  generalize hec : tm.all.e = ec at HCk
  have HEC : Hid (tm.all.e = ec) := hec
  clear hec
  go_wp2_with fail
  refine HCk.out.mono ?_
  rintro e w3 ⟨rfl, hb3⟩
  have HNw : Hid (Calls Tryz.prog 7 #[.int .u64 9, .func (.func 8) #[] #[.pointer (some ⟨q, 0, none⟩)]] w3 fun e w' => e = .returned (.tuple #[.pointer (some ⟨w3.heap.size, 0, none⟩), .int .i64 0]) ∧ w' = w3.alloc (.cells (gc 9 (.func (.func 8) #[] #[.pointer (some ⟨q, 0, none⟩)]) false 0 ⟨#[]⟩ 0 none) 71)) := gNew_any 9 _ _ w3 (by decide)
  have H3 : Hid (Below U.heap.size U w3) := hb3
  clear hb3 HCk cq hU hU' hqq
  go_wp2_with fail
  refine HNw.out.mono ?_
  rintro e W0 ⟨rfl, hW0⟩
  have hW0b : Below w3.heap.size w3 W0 := by rw [hW0]; exact (Below.refl _ _).alloc (Nat.le_refl _) _
  have hG0 : Gh W0 w3.heap.size (gc 9 (isF q) false 0 ⟨#[]⟩ 0 none) := by rw [hW0]; exact heap_alloc_last _ _
  have hz3 := H3.out.size
  have hq3 : q < w3.heap.size := by omega
  have HRI : Hid (RI W0 w3.heap.size q rv tm) := ⟨(hW0b.block q hq3).trans ((H3.out.block q hlq).trans HU.out.2.1), by omega, tm.V_same (fun k hk => (hW0b.block k (by have := hk.2; have := HU.out.2.2.2; omega)).trans (H3.out.block k (by have := hk.2; omega))) (fun k hk => ⟨by have := hk.2; have := hW0b.size; omega, by have := hk.2; omega⟩) _ HU.out.2.2.1⟩
  have HVr : Hid (tm.V W0 (fun k => X.heap.size ≤ k ∧ k < q) (.iface 31 (.pointer rv))) := tm.V_same (fun k hk => (hW0b.block k (by have := hk.2; omega)).trans (H3.out.block k (by have := hk.2; omega))) (fun _ h => h) _ HU.out.2.2.1
  have HW0 : Hid (Below X.heap.size X W0 ∧ w.heap.size < X.heap.size ∧ X.heap.size ≤ q ∧ q < w3.heap.size ∧ Gh W0 w3.heap.size (gc 9 (isF q) false 0 ⟨#[]⟩ 0 none)) := ⟨(HU.out.1.trans (H3.out.mono HU.out.1.size)).trans (hW0b.mono (by have := HU.out.1.size; omega)), (Array.getElem?_eq_some_iff.1 (HTB.out X (Below.refl _ _)).2).1, HU.out.2.2.2, hq3, hG0⟩
  clear HU H3 HNw hW0 hW0b hG0 hz3 hq3 hlq
  generalize w3.heap.size = g at HRI HW0 ⊢
  have hq : ∀ W, (binOp .eql 36 (.pointer (some ⟨g, 0, none⟩)) (.pointer none)).run Tryz.prog W = .ok (.bool false) W := fun W => by kernel_rfl
  have hgq : ∀ x y W, (eqGuard .eql 36 x y (.pointer (some ⟨g, 0, none⟩)) (.pointer none)).run Tryz.prog W = .ok () W := fun x y W => by kernel_rfl
  have HAb : Hid (∀ W, Calls Tryz.prog 9 #[.iface 36 (.pointer (some ⟨g, 0, none⟩))] W fun e w' => e = .returned (.tuple #[.int .i64 9, .int .i64 0]) ∧ W = w') := fun W => gAbilities g W
  have HLo : Hid (Calls Tryz.prog 10 #[.iface 36 (.pointer (some ⟨g, 0, none⟩))] W0 fun e w' => e = .returned (.int .i64 ec) ∧ After W0 g q tm w') := by rw [← HEC.out]; exact oLoad_no HW0.out.2.2.2.2 HRI.out
  go_wp2_with (go_at_call 9; refine (HAb.out _).mono ?_; rintro e w' ⟨rfl, rfl⟩)
  refine HLo.out.mono ?_
  rintro e w4 ⟨rfl, hA⟩
  have HA : Hid (After W0 g q tm w4 ∧ RI w4 g q rv tm) := ⟨hA, HRI.out.keep hA.1⟩
  have hee : (ec != ec) = false := by simp
  clear hA HLo HAb hq hgq
  by_cases he : ec = 0
  · subst he
    have cq4 : w4.cell? ⟨q, 0, none⟩ = some (.pointer rv) := by rw [cell_of_row _ _ 0 _ _ _ HA.out.2.box]; rfl
    have hk4 := HA.out.1.1
    have hz4 := hk4.size
    have hzs := HW0.out.2
    have hz0 := HW0.out.2.2.2.2.lt
    have HSp : Hid (Calls Tryz.prog 13 #[.iface 31 (.pointer rv)] w4 fun e w' => e = .returned (.tuple #[]) ∧ Dg (fun k => X.heap.size ≤ k ∧ k < q) w4 w') := Spoil_any tm _ _ w4 (tm.V_same (fun k hk => hk4.block k (by have := hk.2; omega) (by have := hk.2; omega)) (fun _ h => h) _ HVr.out) (fun k hk => by have := hk.2; omega) HEC.out
    obtain ⟨fb, ga, gb, gth⟩ := HA.out.1.2.1 HEC.out
    have HY : Hid (∀ w5, Dg (fun k => X.heap.size ≤ k ∧ k < q) w4 w5 → LG w5 g 9 (isF q) tm ∧ Below w.heap.size w w5 ∧ w5.heap[w.heap.size]? = some (.cells #[.int .i64 10, .bool b, .int .i64 i, .float .f64 f, .string tx, .slice ab by'.size cb, .int .u64 rf, .slice al l.len cl, .slice af fs.len cf, .string c, .int .i64 vr] 29)) := fun w5 hd => by
      have hz5 := hd.size
      have f5 : ∀ k, k < w4.heap.size → ¬ (X.heap.size ≤ k ∧ k < q) → w5.heap[k]? = w4.heap[k]? := fun k h1 h2 => hd.far k h1 h2
      have hTB := HTB.out W0 HW0.out.1
      have hB4 : Below w.heap.size w w4 := hTB.1.trans (hk4.below (fun j hj => by omega) (by omega))
      refine ⟨⟨fb, ga, gb.keep (f5 g (by omega) (by omega)), (gth.keep (fun k hk => f5 k hk.2 (by have := hk.1; omega)) (fun k hk => Nat.lt_of_lt_of_le hk.2 hz5)).th (fun k hk => hk)⟩, ?_, ?_⟩
      · exact hB4.trans ⟨hd.os, hd.tape, hd.output, hd.size, fun j hj => f5 j (by omega) (by omega)⟩
      · exact (f5 _ (by omega) (by omega)).trans ((hk4.block _ (by omega) (by omega)).trans hTB.2)
    clear hk4 hz4 hzs hz0 ga gb gth
    go_wp2_with fail
    refine HSp.out.mono ?_
    rintro e Y ⟨rfl, hd⟩
    have HY5 := HY.out Y hd
    have HY5 : Hid _ := HY5
    have hfs : tm.fields = fs := by subst htm; rfl
    obtain ⟨hgd, hnamed, hlen0⟩ := dct_ok (show (dctT fs).all.e = 0 by obtain ⟨_, h, _⟩ := HY5.out.1; rw [hfs] at h; exact h)
    have hnl : fs.names.length = fs.len := TmF.names_len _
    have hlen : fs.len ≤ 4096 := by rw [← hnl]; exact hlen0
    have HN8 : Hid (∀ W, Below Y.heap.size Y W → W.cell? ⟨w.heap.size, 8, none⟩ = some (.slice af fs.len cf)) := fun W hW => by
      have h8 := HY5.out.2.2
      rw [cell_of_row _ _ 8 _ _ _ ((hW.block _ (Array.getElem?_eq_some_iff.1 h8).1).trans h8)]; rfl
    have HFn : Hid (∀ j, j < fs.len → ∃ n ge oe, fs.names[j]? = some n ∧ af = some ⟨ge, oe, none⟩ ∧ ∀ W, Below Y.heap.size Y W → W.cell? ⟨ge, oe + j * 12, none⟩ = some (.string n)) := fun j hj => by
      obtain ⟨n, ge, oe, h1, h2, h3, h4⟩ := fs.In_name af 0 j hf hj
      refine ⟨n, ge, oe, h1, h2, fun W hW => ?_⟩
      have hB := HY5.out.2.1.trans (hW.mono HY5.out.2.1.size)
      rw [hB.cell (p := ⟨ge, oe + j * 12, none⟩) h3]
      rw [Nat.zero_add] at h4; exact h4
    have HRec : Hid (∀ W an cn, Below Y.heap.size Y W → SRow W.heap.size W (.slice an fs.len cn) fs.names → Calls Tryz.prog 14 #[.iface 36 (.pointer (some ⟨g, 0, none⟩)), .slice an fs.len cn] W fun e w' => ∃ rb, e = .returned (.tuple #[.pointer (some ⟨rb, 0, none⟩), .int .i64 0]) ∧ Below W.heap.size W w' ∧ tm.V w' (Fr W w') (.iface 31 (.pointer (some ⟨rb, 0, none⟩)))) := fun W an cn hW hs => by
      have := Record_gh sortS g 9 (isF q) tm an cn W (HY5.out.1.keep hW) (by subst htm; rfl) HEC.out (tm_head (by subst htm; rfl) HEC.out) (by rw [hfs]; exact hs)
      rw [hfs] at this; exact this
    obtain ⟨i0, hi, hz0, hz1, hz2⟩ := info_parts Tryz.infoZs
    clear hd HSp HY cq4 HVr HA HW0 HRI HTB hgd hnamed hlen0
    go_wp2_with fail
    go_loopw [10, 11] (fun v x wr => ∃ j : Nat, x = .int .i64 j ∧ j ≤ fs.len ∧ Hid (wr.ownsRow Y.heap.size 9 1 v j ((fs.names.take j).map Value.string) ∧ Below Y.heap.size Y wr)) (fun _ x _ => fs.len - (intOf x).toNat)
    case atStart => exact ⟨0, rfl, by omega, World.ownsRow_nil _ _ _ _, Below.refl _ _⟩
    case round =>
      obtain ⟨j, rfl, hj, HO⟩ := hrel
      have d8 := HN8.out wr HO.out.2
      by_cases hlt : j < fs.len
      · obtain ⟨n, ge, oe, hn, rfl, hcn⟩ := HFn.out j hlt
        have dn := hcn wr HO.out.2
        have hji0 : (0 : Int) ≤ (j : Int) := Int.natCast_nonneg _
        have hji1 : (j : Int) < (fs.len : Int) := by omega
        have htk : (fs.names.take j).map Value.string ++ [.string n] = (fs.names.take (j + 1)).map Value.string := by rw [List.take_add_one, hn]; simp
        clear hcn
        go_wp2_with (at_builtin; refine wpList_app _ rfl _ _ 45 rfl Y.heap.size 9 i0 _ 1 16 Tryz.undZs hi hz0 hz1 hz2 rfl (by decide) _ j _ rfl (HO.out.1.alloc _) ⟨wr.heap.size, 0, none⟩ 1 1 [.string n] rfl rfl (cell_one_new _ _ _) (by simp [Value.oneCell']) (by decide) (by unfold maxLen; omega) (by omega) (by have := HO.out.2.size; simp; omega) ?_; intro g' cap' w9 hown' hgrow hor; have HNx : Hid (w9.ownsRow Y.heap.size 9 1 (.slice (some ⟨g', 0, none⟩) (j + 1) cap') (j + 1) ((fs.names.take (j + 1)).map Value.string) ∧ Below Y.heap.size Y w9) := ⟨by rw [← htk]; exact hown', (HO.out.2.alloc HO.out.2.size _).grown hgrow (by have := HO.out.2.size; simp; omega) (fun k e => by rcases HO.out.1.2 with ⟨rfl, _⟩ | ⟨g2, c2, u2, rfl, hb2, _⟩; cases e; cases e; exact hb2)⟩; clear hown' hgrow hor)
        go_roundw
        case rel => exact ⟨j + 1, by go_num, by omega, HNx⟩
        case measure => simp [intOf]; omega
      · obtain rfl : j = fs.len := by omega
        have htl : (fs.names.take fs.len).map Value.string = fs.names.map Value.string := by rw [← hnl, List.take_length]
        have HO2 : Hid (wr.ownsRow Y.heap.size 9 1 u10 fs.len (fs.names.map Value.string) ∧ Below Y.heap.size Y wr) := by rw [← htl]; exact HO
        obtain ⟨an, cn, rfl⟩ : ∃ an cn, u10 = .slice an fs.len cn := by
          rcases HO2.out.1.2 with ⟨e, hz⟩ | ⟨g2, c2, _, e, _⟩
          · exact ⟨none, 0, by rw [hz]; exact e⟩
          · exact ⟨_, _, e⟩
        have hsr : SRow wr.heap.size wr (.slice an fs.len cn) fs.names := SRow.of_own (base := Y.heap.size) (by rw [hnl]; exact HO2.out.1)
        have HRe2 : Hid (∀ W, Below wr.heap.size wr W → Calls Tryz.prog 14 #[.iface 36 (.pointer (some ⟨g, 0, none⟩)), .slice an fs.len cn] W fun e w' => ∃ rb, e = .returned (.tuple #[.pointer (some ⟨rb, 0, none⟩), .int .i64 0]) ∧ Below W.heap.size W w' ∧ tm.V w' (Fr W w') (.iface 31 (.pointer (some ⟨rb, 0, none⟩)))) := fun W hW => by
          refine HRec.out W an cn (HO2.out.2.trans (hW.mono HO2.out.2.size)) ?_
          rcases hsr.below hW with h | ⟨b2, o2, c2, e, h1, h2⟩
          · exact .inl h
          · exact .inr ⟨b2, o2, c2, e, Nat.lt_of_lt_of_le h1 hW.size, h2⟩
        have HBw : Hid (Below w.heap.size w wr ∧ wr.heap[w.heap.size]? = some (.cells #[.int .i64 10, .bool b, .int .i64 i, .float .f64 f, .string tx, .slice ab by'.size cb, .int .u64 rf, .slice al l.len cl, .slice af fs.len cf, .string c, .int .i64 vr] 29)) := ⟨HY5.out.2.1.trans (HO2.out.2.mono HY5.out.2.1.size), (HO2.out.2.block _ (Array.getElem?_eq_some_iff.1 HY5.out.2.2).1).trans HY5.out.2.2⟩
        clear HRec HN8 HFn HO HY5 HO2 hsr
        go_wp2_with fail
        refine (HRe2.out wr (Below.refl _ _)).mono ?_
        rintro e w6 ⟨xb, rfl, hb6, hv6⟩
        have H6 : Hid (Below wr.heap.size wr w6 ∧ tm.V w6 (Fr wr w6) (.iface 31 (.pointer (some ⟨xb, 0, none⟩)))) := ⟨hb6, hv6⟩
        clear hb6 hv6 d8
        go_wp2_with fail
        refine (HRe2.out w6 H6.out.1).mono ?_
        rintro e w7 ⟨yb, rfl, hb7, hv7⟩
        have H7 : Hid (Below w6.heap.size w6 w7 ∧ tm.V w7 (Fr w6 w7) (.iface 31 (.pointer (some ⟨yb, 0, none⟩)))) := ⟨hb7, hv7⟩
        clear hb7 hv7
        have hB7 : Below wr.heap.size wr w7 := H6.out.1.trans (H7.out.1.mono H6.out.1.size)
        have HS : Hid (∀ W, Below w7.heap.size w7 W → W.cell? ⟨w.heap.size, 0, none⟩ = some (.int .i64 10) ∧ W.cell? ⟨w.heap.size, 1, none⟩ = some (.bool b) ∧ W.cell? ⟨w.heap.size, 2, none⟩ = some (.int .i64 i) ∧ W.cell? ⟨w.heap.size, 3, none⟩ = some (.float .f64 f) ∧ W.cell? ⟨w.heap.size, 4, none⟩ = some (.string tx) ∧ W.cell? ⟨w.heap.size, 5, none⟩ = some (.slice ab by'.size cb) ∧ W.cell? ⟨w.heap.size, 6, none⟩ = some (.int .u64 rf) ∧ W.cell? ⟨w.heap.size, 7, none⟩ = some (.slice al l.len cl) ∧ W.cell? ⟨w.heap.size, 8, none⟩ = some (.slice af fs.len cf) ∧ W.cell? ⟨w.heap.size, 9, none⟩ = some (.string c) ∧ W.cell? ⟨w.heap.size, 10, none⟩ = some (.int .i64 vr)) := fun W hW => by
          have hr := ((hB7.trans (hW.mono hB7.size)).block _ (Array.getElem?_eq_some_iff.1 HBw.out.2).1).trans HBw.out.2
          refine ⟨?_, ?_, ?_, ?_, ?_, ?_, ?_, ?_, ?_, ?_, ?_⟩
          · rw [cell_of_row _ _ 0 _ _ _ hr]; rfl
          · rw [cell_of_row _ _ 1 _ _ _ hr]; rfl
          · rw [cell_of_row _ _ 2 _ _ _ hr]; rfl
          · rw [cell_of_row _ _ 3 _ _ _ hr]; rfl
          · rw [cell_of_row _ _ 4 _ _ _ hr]; rfl
          · rw [cell_of_row _ _ 5 _ _ _ hr]; rfl
          · rw [cell_of_row _ _ 6 _ _ _ hr]; rfl
          · rw [cell_of_row _ _ 7 _ _ _ hr]; rfl
          · rw [cell_of_row _ _ 8 _ _ _ hr]; rfl
          · rw [cell_of_row _ _ 9 _ _ _ hr]; rfl
          · rw [cell_of_row _ _ 10 _ _ _ hr]; rfl
        have hz6 := H6.out.1.size
        have hz7 := H7.out.1.size
        have HVx : Hid (∀ W, Below w7.heap.size w7 W → tm.V W (Fr wr w6) (.iface 31 (.pointer (some ⟨xb, 0, none⟩)))) := fun W hW => tm.V_same (fun k hk => (hW.block k (by have := hk.2; omega)).trans (H7.out.1.block k hk.2)) (fun _ h => h) _ H6.out.2
        have HVy : Hid (∀ W, Below w7.heap.size w7 W → tm.V W (Fr w6 w7) (.iface 31 (.pointer (some ⟨yb, 0, none⟩)))) := fun W hW => tm.V_same (fun k hk => hW.block k hk.2) (fun _ h => h) _ H7.out.2
        have HSm : Hid (∀ W, Below w7.heap.size w7 W → Calls Tryz.prog 15 #[.iface 31 (.pointer (some ⟨xb, 0, none⟩)), .iface 31 (.pointer (some ⟨yb, 0, none⟩))] W fun e w' => e = .returned (.bool true) ∧ Below W.heap.size W w') := fun W hW => by
          have := Same_any tm tm _ _ W.heap.size W (Nat.le_refl _) (tm.V_same (Same.refl _ _) (fun k hk => by have := hk.2; have := hW.size; show k < _; omega) _ (HVx.out W hW)) (tm.V_same (Same.refl _ _) (fun k hk => by have := hk.2; have := hW.size; show k < _; omega) _ (HVy.out W hW))
          rw [Tm.same_self HEC.out] at this; exact this
        have HBd : Hid tm.Bdd := tm.In_bdd _ (hin w (Below.refl _ _))
        have HPl : Hid (∀ W v S, tm.V W S v → Sub S W → Calls Tryz.prog 17 #[v] W fun e w' => ∃ k1 b1 i1 f1 tx1 ab1 nb1 cb1 rf1 al1 nl1 cl1 af1 nf1 cf1 c1 vr1, e = .returned (.agg #[.int .i64 k1, .bool b1, .int .i64 i1, .float .f64 f1, .string tx1, .slice ab1 nb1 cb1, .int .u64 rf1, .slice al1 nl1 cl1, .slice af1 nf1 cf1, .string c1, .int .i64 vr1]) ∧ Below W.heap.size W w' ∧ tm.clean.In w' (Fr W w') #[.int .i64 k1, .bool b1, .int .i64 i1, .float .f64 f1, .string tx1, .slice ab1 nb1 cb1, .int .u64 rf1, .slice al1 nl1 cl1, .slice af1 nf1 cf1, .string c1, .int .i64 vr1]) := fun W v S h1 h2 => mPlain_any tm v W S h1 h2 HEC.out HBd.out
        have HMs : Hid (∀ W (cs ct : Array Value), tm.clean.In W (Lo W.heap.size) cs → tm.clean.In W (Lo W.heap.size) ct → Calls Tryz.prog 16 #[.agg cs, .agg ct] W fun e w' => e = .returned (.bool true) ∧ Below W.heap.size W w') := fun W cs ct h1 h2 => msame_any tm.clean.sz tm.clean tm.clean (Nat.le_refl _) (Tm.clean_two tm ⟨1, 0, 0, HEC.out⟩) cs ct (Lo W.heap.size) W h1 h2 (fun _ h => h)
        have HB07 : Hid (Below w.heap.size w w7) := HBw.out.1.trans (hB7.mono HBw.out.1.size)
        clear hB7 hz6 hz7
        go_wp2_with fail
        go_region_held3 (fun W => W.cell? ⟨w.heap.size, 0, none⟩ = some (.int .i64 10) ∧ W.cell? ⟨w.heap.size, 1, none⟩ = some (.bool b) ∧ W.cell? ⟨w.heap.size, 2, none⟩ = some (.int .i64 i) ∧ W.cell? ⟨w.heap.size, 3, none⟩ = some (.float .f64 f) ∧ W.cell? ⟨w.heap.size, 4, none⟩ = some (.string tx) ∧ W.cell? ⟨w.heap.size, 5, none⟩ = some (.slice ab by'.size cb) ∧ W.cell? ⟨w.heap.size, 6, none⟩ = some (.int .u64 rf) ∧ W.cell? ⟨w.heap.size, 7, none⟩ = some (.slice al l.len cl) ∧ W.cell? ⟨w.heap.size, 8, none⟩ = some (.slice af fs.len cf) ∧ W.cell? ⟨w.heap.size, 9, none⟩ = some (.string c) ∧ W.cell? ⟨w.heap.size, 10, none⟩ = some (.int .i64 vr))
          (first | exact HS.out _ (Below.refl _ _) | exact HS.out _ (Below.refl _ _).drew | exact HS.out _ HB8.out | exact HS.out _ HB9.out | exact HS.out _ HB10.out | exact HS.out _ HB11.out | exact HS.out _ HB12.out)
          (first
            | (go_at_call 15; refine (HSm.out _ ?_).mono ?_; exact (Below.refl _ _).drew; rintro e w8 ⟨rfl, hb8⟩; have HB8 : Hid (Below w7.heap.size w7 w8) := (Below.refl _ _).drew.trans hb8; clear hb8)
            | (go_at_call 17; refine (HPl.out w8 (.iface 31 (.pointer (some ⟨xb, 0, none⟩))) (Fr wr w6) (HVx.out _ HB8.out) ?_).mono ?_; exact fun k hk => by have := hk.2; have := HB8.out.size; have := H7.out.1.size; omega
               rintro e w9 ⟨k1, b1, i1, f1, tx1, ab1, nb1, cb1, rf1, al1, nl1, cl1, af1, nf1, cf1, c1, vr1, rfl, hb9, hin9⟩; have HB9 : Hid (Below w7.heap.size w7 w9) := HB8.out.trans (hb9.mono HB8.out.size); have HI9 : Hid (Below w8.heap.size w8 w9 ∧ tm.clean.In w9 (Fr w8 w9) #[.int .i64 k1, .bool b1, .int .i64 i1, .float .f64 f1, .string tx1, .slice ab1 nb1 cb1, .int .u64 rf1, .slice al1 nl1 cl1, .slice af1 nf1 cf1, .string c1, .int .i64 vr1]) := ⟨hb9, hin9⟩; clear hb9 hin9)
            | (go_at_call 5; refine (HR.out w9 ?_).mono ?_; exact HB07.out.trans (HB9.out.mono HB07.out.size)
               rintro e w10 ⟨rv2, rfl, hb10, hv10⟩; have HB10 : Hid (Below w7.heap.size w7 w10) := HB9.out.trans (hb10.mono HB9.out.size); have HV10 : Hid (Below w9.heap.size w9 w10 ∧ tm.V w10 (Fr w9 w10) (.iface 31 (.pointer rv2))) := ⟨hb10, hv10⟩; clear hb10 hv10)
            | (go_at_call 17; refine (HPl.out w10 (.iface 31 (.pointer rv2)) (Fr w9 w10) HV10.out.2 ?_).mono ?_; exact fun k hk => hk.2
               rintro e w11 ⟨k2, b2, i2, f2, tx2, ab2, nb2, cb2, rf2, al2, nl2, cl2, af2, nf2, cf2, c2, vr2, rfl, hb11, hin11⟩; have HB11 : Hid (Below w7.heap.size w7 w11) := HB10.out.trans (hb11.mono HB10.out.size); have HI11 : Hid (Below w10.heap.size w10 w11 ∧ tm.clean.In w11 (Fr w10 w11) #[.int .i64 k2, .bool b2, .int .i64 i2, .float .f64 f2, .string tx2, .slice ab2 nb2 cb2, .int .u64 rf2, .slice al2 nl2 cl2, .slice af2 nf2 cf2, .string c2, .int .i64 vr2]) := ⟨hb11, hin11⟩; clear hb11 hin11)
            | (go_at_call 16; refine (HMs.out w11 _ _ ?_ ?_).mono ?_
               exact tm.clean.In_same (fun k hk => (HI11.out.1.block k (by have := hk.2; have := HV10.out.1.size; omega)).trans (HV10.out.1.block k hk.2)) (fun k hk => by have := hk.2; have := HV10.out.1.size; have := HI11.out.1.size; show k < _; omega) _ HI9.out.2
               exact tm.clean.In_same (Same.refl _ _) (fun k hk => hk.2) _ HI11.out.2
               rintro e w12 ⟨rfl, hb12⟩; have HB12 : Hid (Below w7.heap.size w7 w12) := HB11.out.trans (hb12.mono HB11.out.size); clear hb12))
        have HSx : Hid (Calls Tryz.prog 13 #[.iface 31 (.pointer (some ⟨xb, 0, none⟩))] w12 fun e w' => e = .returned (.tuple #[]) ∧ Dg (Fr wr w6) w12 w') := Spoil_any tm _ _ w12 (HVx.out _ HB12.out) (fun k hk => by have := hk.2; have := H7.out.1.size; have := HB12.out.size; omega) HEC.out
        have HD : Hid (∀ W, Dg (Fr wr w6) w12 W → Below wr.heap.size wr W ∧ tm.V W (Fr w6 w7) (.iface 31 (.pointer (some ⟨yb, 0, none⟩))) ∧ w7.heap.size ≤ W.heap.size) := fun W hd => by
          have hz6 := H6.out.1.size
          have hz7 := H7.out.1.size
          have hz12 := HB12.out.size
          have hz := hd.size
          have hB : Below wr.heap.size wr w12 := (H6.out.1.trans (H7.out.1.mono H6.out.1.size)).trans (HB12.out.mono (by omega))
          refine ⟨hB.trans ⟨hd.os, hd.tape, hd.output, hd.size, fun j hj => hd.far j (by omega) (fun h => by have := h.1; omega)⟩, tm.V_same (fun k hk => hd.far k (by have := hk.2; omega) (fun h => by have := h.2; have := hk.1; omega)) (fun _ h => h) _ (HVy.out _ HB12.out), by omega⟩
        go_wp2_with fail
        refine HSx.out.mono ?_
        rintro e w13 ⟨rfl, hd⟩
        have H13 := HD.out w13 hd
        have H13 : Hid (Below wr.heap.size wr w13 ∧ tm.V w13 (Fr w6 w7) (.iface 31 (.pointer (some ⟨yb, 0, none⟩))) ∧ w7.heap.size ≤ w13.heap.size) := H13
        clear hd HSx HD HB8 HB9 HB10 HB11 HI9 HI11 HV10 HS HPl HMs HVx HVy HSm
        go_wp2_with fail
        refine (HRe2.out w13 H13.out.1).mono ?_
        rintro e w14 ⟨zb, rfl, hb14, hv14⟩
        have H14 : Hid (Below w.heap.size w w14) := HBw.out.1.trans ((H13.out.1.trans (hb14.mono H13.out.1.size)).mono HBw.out.1.size)
        have HSz : Hid (Calls Tryz.prog 15 #[.iface 31 (.pointer (some ⟨yb, 0, none⟩)), .iface 31 (.pointer (some ⟨zb, 0, none⟩))] w14 fun e w' => e = .returned (.bool true) ∧ Below w14.heap.size w14 w') := by
          have hz := hb14.size
          have := Same_any tm tm _ _ w14.heap.size w14 (Nat.le_refl _) (tm.V_same (fun k hk => hb14.block k (by have := hk.2; have := H13.out.2.2; omega)) (fun k hk => by have := hk.2; have := H13.out.2.2; show k < _; omega) _ H13.out.2.1) (tm.V_same (Same.refl _ _) (fun k hk => hk.2) _ hv14)
          rw [Tm.same_self HEC.out] at this; exact this
        clear hb14 hv14
        go_wp2_with fail
        refine HSz.out.mono ?_
        rintro e w15 ⟨rfl, hb15⟩
        have H15 : Hid (Below w.heap.size w w15) := H14.out.trans (hb15.mono H14.out.size)
        clear hb15 HSz
        go_wp2_with fail
        go_ret
        exact ⟨rfl, H15.out⟩
  · have he' := ne_bool he
    have hG4 : Gh w4 g (gc 9 (isF q) false ec ⟨#[]⟩ 0 none) := by rw [← HEC.out]; exact HA.out.1.2.2 (by rw [HEC.out]; exact he)
    have HCl : Hid (∀ W, Kx (· = g) w4 W → Gh W g (gc 9 (isF q) false ec ⟨#[]⟩ 0 none) → Calls Tryz.prog 11 #[.pointer (some ⟨g, 0, none⟩)] W fun e w' => e = .returned (.string ⟨#[]⟩) ∧ Kx (· = g) w4 w' ∧ Gh w' g (gc 9 (isF q) false ec ⟨#[]⟩ 0 none)) := fun W hW hg => by
      refine (is_cls hg (HA.out.2.keep hW) (by rw [HEC.out]; exact he)).mono ?_
      rintro e w' ⟨rfl, h1, h2⟩
      exact ⟨rfl, hW.trans h1, by rw [← HEC.out]; exact h2⟩
    have HVe : Hid (∀ W, Kx (· = g) w4 W → Gh W g (gc 9 (isF q) false ec ⟨#[]⟩ 0 none) → Calls Tryz.prog 12 #[.pointer (some ⟨g, 0, none⟩)] W fun e w' => e = .returned (.int .i64 0) ∧ Kx (· = g) w4 w' ∧ Gh w' g (gc 9 (isF q) false ec ⟨#[]⟩ 0 none)) := fun W hW hg => by
      refine (is_ver hg (HA.out.2.keep hW) (by rw [HEC.out]; exact he)).mono ?_
      rintro e w' ⟨rfl, h1, h2⟩
      exact ⟨rfl, hW.trans h1, by rw [← HEC.out]; exact h2⟩
    have HG4 : Hid (Gh w4 g (gc 9 (isF q) false ec ⟨#[]⟩ 0 none)) := hG4
    clear hG4 he
    go_wp2_with fail
    refine (HCl.out _ (Kx.refl _ _) HG4.out).mono ?_
    rintro e w5 ⟨rfl, h51, h52⟩
    have H5 : Hid (Kx (· = g) w4 w5 ∧ Gh w5 g (gc 9 (isF q) false ec ⟨#[]⟩ 0 none)) := ⟨h51, h52⟩
    clear h51 h52
    go_wp2_with fail
    refine (HVe.out _ H5.out.1 H5.out.2).mono ?_
    rintro e w6 ⟨rfl, h61, h62⟩
    have H6 : Hid (Kx (· = g) W0 w6) := HA.out.1.1.trans h61
    clear h61 h62
    go_wp2_with fail
    go_ret
    refine ⟨rfl, (HTB.out W0 HW0.out.1).1.trans (H6.out.below (fun j hj => ?_) ?_)⟩
    · have := HW0.out.2; omega
    · have := HW0.out.2; have := HW0.out.1.size; omega
end Go.Proofs.YtjlhmgopmdcopaaGreat

