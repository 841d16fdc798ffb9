/- The document's reading of a way: tenonref04.Parse. -/
import Derived.Test.YtghnipbcbbphbaaDoorPRNm
namespace Go.Proofs.YtghnipbcbbphbaaDoor
open Go.RowKit

theorem set3_belG {w W : World} {B g : Nat} (h : Below B w W) (hg : B ≤ g) (x y z : Value) : Below B w (((W.setCell ⟨g, 0, none⟩ x).setCell ⟨g, 1, none⟩ y).setCell ⟨g, 2, none⟩ z) :=
  ((h.setCell (p := ⟨g, 0, none⟩) hg x).setCell (p := ⟨g, 1, none⟩) hg y).setCell (p := ⟨g, 2, none⟩) hg z
theorem own_set {W : World} {B : Nat} {e : TypeId} {size n : Nat} {v : Value} {xs : List Value} {g j : Nat} (h : W.ownsRow B e size v n xs) (hne : v.ownBlock ≠ some g) (x : Value) : (W.setCell ⟨g, j, none⟩ x).ownsRow B e size v n xs :=
  h.kept (row := some g) ⟨rfl, rfl, rfl, by simp [World.setCell], fun k _ hk => Below.heap_setCell _ _ _ _ (fun e => hk (by simp [e]))⟩ (.inr hne)
theorem own_set3 {W : World} {B : Nat} {e : TypeId} {size n : Nat} {v : Value} {xs : List Value} {g : Nat} (h : W.ownsRow B e size v n xs) (hne : v.ownBlock ≠ some g) (x y z : Value) : (((W.setCell ⟨g, 0, none⟩ x).setCell ⟨g, 1, none⟩ y).setCell ⟨g, 2, none⟩ z).ownsRow B e size v n xs :=
  own_set (own_set (own_set h hne x) hne y) hne z
theorem own_ne {w : World} {B : Nat} {e : TypeId} {size n : Nat} {v : Value} {xs : List Value} (h : w.ownsRow B e size v n xs) : v.ownBlock ≠ some w.heap.size := by
  intro hk
  rcases h.2 with ⟨e, _⟩ | ⟨g, c, cur, e, hg, hc, _⟩
  · rw [e] at hk; simp [Value.ownBlock] at hk
  · rw [e] at hk
    simp [Value.ownBlock] at hk
    rw [hk] at hc
    simp at hc

set_option maxRecDepth 100000 in
set_option maxHeartbeats 4000000 in
theorem rParse_any (s : ByteArray) (w : World) (hs : s.size ≤ 140737488355328) :
    Calls Tryd.prog 11 #[.string s] w fun e w' => (Sp.way s).is w.heap.size w' e ∧ Below w.heap.size w w' := by
  obtain ⟨i0, hi, hz0, hz1, hz2⟩ := info_parts Tryd.infoW
  go_enter Tryd.func11, Tryd.ntmps11
  go_wp2_with fail
  go_loopw [5, 6] (fun u i wr => ∃ (k : Nat) (acc : List Stp) (a : Option Addr) (m cap : Nat), u = .slice a m cap ∧ i = .int .i64 (k : Int) ∧ k ≤ s.size ∧ m ≤ 64 ∧ Hid (m = acc.length) ∧ Hid (wr.ownsRow w.heap.size 39 3 (.slice a m cap) m (Sp.wcells acc)) ∧ Hid (WI s k acc) ∧ Hid (Below w.heap.size w wr)) (fun _ i _ => s.size - (intOf i).toNat)
  case atStart => exact ⟨0, [], _, 0, 0, rfl, rfl, by omega, by omega, rfl, ⟨rfl, .inl ⟨rfl, rfl⟩⟩, WI.start s, Below.refl _ _⟩
  case round =>
    obtain ⟨k, acc, a, m, cap, rfl, rfl, hk, hm, HM, HO, HI, HB⟩ := hrel
    by_cases hlt : k < s.size
    · have hbk := byte_bd s k
      have ek := byte_at s k hlt
      have HX : Hid (∀ W, Below wr.heap.size wr W → Calls Tryd.prog 15 #[.string s, .int .i64 (k : Int)] W fun e w' => e = .returned (Sp.rdIdx s k).val ∧ Below W.heap.size W w') := fun W _ => rIndex_any s k W hs hlt
      have HNM : Hid (∀ W, Below wr.heap.size wr W → Calls Tryd.prog 16 #[.string s, .int .i64 0] W fun e w' => e = .returned (Sp.rdName s 0).val ∧ Below W.heap.size W w') := fun W _ => rName_any s 0 W hs (by omega)
      have HNN : Hid (∀ W, Below wr.heap.size wr W → Calls Tryd.prog 16 #[.string s, .int .i64 ((k : Int) + 1)] W fun e w' => e = .returned (Sp.rdName s (k + 1)).val ∧ Below W.heap.size W w') := fun W _ => by
        have := rName_any s (k + 1) W hs (by omega)
        exact this
      by_cases c0 : k = 0
      · have c0' : ((k : Int) == 0) = true := by simp [c0]
        have c0'' : ¬ (0 : Int) < (k : Int) := by omega
        have HC0 : Hid (¬ (k ≠ 0 ∧ Sp.byte s k ≠ 46 ∧ Sp.byte s k ≠ 91)) := fun h => h.1 c0
        have hm0 : ((m : Int) == 64) = false := by
          have h1 := HI.out.len
          have h2 := HM.out
          simp; omega
        by_cases c2 : Sp.byte s k = 91
        · have c2' : (Sp.byte s k == 91) = true := by simp [c2]
          have HRS : Hid (Sp.rdStep s k m = Sp.rdIdx s k) := by
            show _ = _
            rw [Sp.rdStep, if_neg HC0.out, if_neg (by simp at hm0; omega), if_pos c2]
          clear c0 c2
          generalize Sp.rdIdx s k = r at HX HRS
          have HC := HX
          cases hr : r with
          | err n e =>
            rw [hr] at HC
            have HR : Hid (Sp.way s = .err n e) := HI.out.err hlt (by rw [← HM.out]; exact HRS.out.trans hr)
            have HE : Hid (n ≤ s.size ∧ 1 ≤ e ∧ e ≤ 8) := (Sp.rdStep_bd hlt).1 n e (HRS.out.trans hr)
            have he : (e != 0) = true := by have := HE.out; simp; omega
            clear hr
            unfold PRes.val at HC
            go_wp2_with fail
            refine (HC.out _ ((Below.refl _ _).alloc (Nat.le_refl _) _)).mono ?_
            rintro e' w1 ⟨rfl, hb1⟩
            have HB1 : Hid (Below w.heap.size w w1) := below_to HB.out (below_to ((Below.refl _ _).alloc (Nat.le_refl _) _) hb1)
            obtain ⟨z0, z1, z2, y0, y1, y2⟩ := zbox hb1
            clear hb1
            go_wp2_with fail
            refine bodyPost_ret (v := .tuple #[.slice none 0 0, .int .i64 (n : Int), .int .i64 e]) (by simp [results, Tryd.results11, go_sem]) rfl ⟨?_, ?_⟩
            · rw [HR.out]
              exact ⟨rfl, HE.out.2.1, by have := HE.out.1; omega⟩
            · exact set3_belG HB1.out HB.out.size _ _ _
          | ok x n =>
            rw [hr] at HC
            have HN : Hid (WI s n (acc ++ [x])) := HI.out.next hlt (by rw [← HM.out]; exact HRS.out.trans hr)
            have HE : Hid (k < n ∧ n ≤ s.size ∧ x.rule = 0 ∧ m < 64) := (Sp.rdStep_bd hlt).2 x n (HRS.out.trans hr)
            obtain ⟨hkn, hns, _, hm64⟩ := HE.out
            clear hr
            unfold PRes.val at HC
            go_wp2_with fail
            refine (HC.out _ ((Below.refl _ _).alloc (Nat.le_refl _) _)).mono ?_
            rintro e' w1 ⟨rfl, hb1⟩
            have HB1 : Hid (Below w.heap.size w w1) := below_to HB.out (below_to ((Below.refl _ _).alloc (Nat.le_refl _) _) hb1)
            have HO1 : Hid (w1.ownsRow w.heap.size 39 3 (.slice a m cap) m (Sp.wcells acc)) := own_on HO.out (below_to ((Below.refl _ _).alloc (Nat.le_refl _) _) hb1)
            obtain ⟨z0, z1, z2, y0, y1, y2⟩ := zbox hb1
            have HVB : Hid (Below w.heap.size w (((w1.setCell ⟨wr.heap.size, 0, none⟩ (.string x.name)).setCell ⟨wr.heap.size, 1, none⟩ (.bool x.at')).setCell ⟨wr.heap.size, 2, none⟩ (.int .i64 x.idx))) := set3_belG HB1.out HB.out.size _ _ _
            have HVO : Hid ((((w1.setCell ⟨wr.heap.size, 0, none⟩ (.string x.name)).setCell ⟨wr.heap.size, 1, none⟩ (.bool x.at')).setCell ⟨wr.heap.size, 2, none⟩ (.int .i64 x.idx)).ownsRow w.heap.size 39 3 (.slice a m cap) m (Sp.wcells acc)) := own_set3 HO1.out (own_ne HO.out) _ _ _
            have HZ1 : Hid (w.heap.size ≤ w1.heap.size) := HB1.out.size
            obtain ⟨k0, k1, k2⟩ := set3 (.string x.name) (.bool x.at') (.int .i64 x.idx) z0 z1 z2
            have HA : Hid (((((w1.setCell ⟨wr.heap.size, 0, none⟩ (.string x.name)).setCell ⟨wr.heap.size, 1, none⟩ (.bool x.at')).setCell ⟨wr.heap.size, 2, none⟩ (.int .i64 x.idx)).alloc (.cells #[.string x.name, .bool x.at', .int .i64 x.idx] 39)).ownsRow w.heap.size 39 3 (.slice a m cap) m (Sp.wcells acc) ∧ Below w.heap.size w ((((w1.setCell ⟨wr.heap.size, 0, none⟩ (.string x.name)).setCell ⟨wr.heap.size, 1, none⟩ (.bool x.at')).setCell ⟨wr.heap.size, 2, none⟩ (.int .i64 x.idx)).alloc (.cells #[.string x.name, .bool x.at', .int .i64 x.idx] 39))) := ⟨HVO.out.alloc _, below_to HVB.out ((Below.refl _ _).alloc (Nat.le_refl _) _)⟩
            have HNW : Hid (∀ j u, x.cells[j]? = some u → ((((w1.setCell ⟨wr.heap.size, 0, none⟩ (.string x.name)).setCell ⟨wr.heap.size, 1, none⟩ (.bool x.at')).setCell ⟨wr.heap.size, 2, none⟩ (.int .i64 x.idx)).alloc (.cells #[.string x.name, .bool x.at', .int .i64 x.idx] 39)).cell? ((⟨w1.heap.size, 0, none⟩ : Addr).add j) = some u) := news_at _ x _ (by simp)
            clear hb1
            go_wp2_with (at_builtin; refine wpList_app _ rfl _ _ 35 rfl w.heap.size 39 i0 (.agg #[.string ByteArray.empty, .bool false, .int .i64 0]) 3 32 Tryd.undW hi hz0 hz1 hz2 rfl (by decide) _ m (Sp.wcells acc) rfl HA.out.1 ⟨w1.heap.size, 0, none⟩ 1 1 x.cells rfl rfl HNW.out (cells_one x) (by decide) (by unfold maxLen; omega) (by omega) (by have := HZ1.out; simp; omega) ?_; intro g' cap' w3 hown' hgrow hor)
            have HO3 : Hid (w3.ownsRow w.heap.size 39 3 (.slice (some ⟨g', 0, none⟩) (m + 1) cap') (m + 1) (Sp.wcells (acc ++ [x]))) := by
              show World.ownsRow _ _ _ _ _ _ _
              rw [wcells_app]
              simpa [Sp.wcells] using hown'
            have HB3 : Hid (Below w.heap.size w w3) := HA.out.2.grown hgrow (by have := HZ1.out; simp; omega) (fun q hq => own_ge HA.out.1 hq)
            clear hown' hgrow hor
            go_wp2_with fail
            go_roundw
            case rel => exact ⟨n, acc ++ [x], _, m + 1, cap', rfl, rfl, hns, by omega, (by rw [List.length_append, ← HM.out]; rfl), HO3, HN, HB3⟩
            case measure => simp [intOf]; omega
        · have c2' : (Sp.byte s k == 91) = false := by simp [c2]
          have HRS : Hid (Sp.rdStep s k m = Sp.rdName s 0) := by
            show _ = _
            rw [Sp.rdStep, if_neg HC0.out, if_neg (by simp at hm0; omega), if_neg c2, if_pos c0]
          clear c0 c2
          generalize Sp.rdName s 0 = r at HNM HRS
          have HC := HNM
          cases hr : r with
          | err n e =>
            rw [hr] at HC
            have HR : Hid (Sp.way s = .err n e) := HI.out.err hlt (by rw [← HM.out]; exact HRS.out.trans hr)
            have HE : Hid (n ≤ s.size ∧ 1 ≤ e ∧ e ≤ 8) := (Sp.rdStep_bd hlt).1 n e (HRS.out.trans hr)
            have he : (e != 0) = true := by have := HE.out; simp; omega
            clear hr
            unfold PRes.val at HC
            go_wp2_with fail
            refine (HC.out _ ((Below.refl _ _).alloc (Nat.le_refl _) _)).mono ?_
            rintro e' w1 ⟨rfl, hb1⟩
            have HB1 : Hid (Below w.heap.size w w1) := below_to HB.out (below_to ((Below.refl _ _).alloc (Nat.le_refl _) _) hb1)
            obtain ⟨z0, z1, z2, y0, y1, y2⟩ := zbox hb1
            clear hb1
            go_wp2_with fail
            refine bodyPost_ret (v := .tuple #[.slice none 0 0, .int .i64 (n : Int), .int .i64 e]) (by simp [results, Tryd.results11, go_sem]) rfl ⟨?_, ?_⟩
            · rw [HR.out]
              exact ⟨rfl, HE.out.2.1, by have := HE.out.1; omega⟩
            · exact set3_belG HB1.out HB.out.size _ _ _
          | ok x n =>
            rw [hr] at HC
            have HN : Hid (WI s n (acc ++ [x])) := HI.out.next hlt (by rw [← HM.out]; exact HRS.out.trans hr)
            have HE : Hid (k < n ∧ n ≤ s.size ∧ x.rule = 0 ∧ m < 64) := (Sp.rdStep_bd hlt).2 x n (HRS.out.trans hr)
            obtain ⟨hkn, hns, _, hm64⟩ := HE.out
            clear hr
            unfold PRes.val at HC
            go_wp2_with fail
            refine (HC.out _ ((Below.refl _ _).alloc (Nat.le_refl _) _)).mono ?_
            rintro e' w1 ⟨rfl, hb1⟩
            have HB1 : Hid (Below w.heap.size w w1) := below_to HB.out (below_to ((Below.refl _ _).alloc (Nat.le_refl _) _) hb1)
            have HO1 : Hid (w1.ownsRow w.heap.size 39 3 (.slice a m cap) m (Sp.wcells acc)) := own_on HO.out (below_to ((Below.refl _ _).alloc (Nat.le_refl _) _) hb1)
            obtain ⟨z0, z1, z2, y0, y1, y2⟩ := zbox hb1
            have HVB : Hid (Below w.heap.size w (((w1.setCell ⟨wr.heap.size, 0, none⟩ (.string x.name)).setCell ⟨wr.heap.size, 1, none⟩ (.bool x.at')).setCell ⟨wr.heap.size, 2, none⟩ (.int .i64 x.idx))) := set3_belG HB1.out HB.out.size _ _ _
            have HVO : Hid ((((w1.setCell ⟨wr.heap.size, 0, none⟩ (.string x.name)).setCell ⟨wr.heap.size, 1, none⟩ (.bool x.at')).setCell ⟨wr.heap.size, 2, none⟩ (.int .i64 x.idx)).ownsRow w.heap.size 39 3 (.slice a m cap) m (Sp.wcells acc)) := own_set3 HO1.out (own_ne HO.out) _ _ _
            have HZ1 : Hid (w.heap.size ≤ w1.heap.size) := HB1.out.size
            obtain ⟨k0, k1, k2⟩ := set3 (.string x.name) (.bool x.at') (.int .i64 x.idx) z0 z1 z2
            have HA : Hid (((((w1.setCell ⟨wr.heap.size, 0, none⟩ (.string x.name)).setCell ⟨wr.heap.size, 1, none⟩ (.bool x.at')).setCell ⟨wr.heap.size, 2, none⟩ (.int .i64 x.idx)).alloc (.cells #[.string x.name, .bool x.at', .int .i64 x.idx] 39)).ownsRow w.heap.size 39 3 (.slice a m cap) m (Sp.wcells acc) ∧ Below w.heap.size w ((((w1.setCell ⟨wr.heap.size, 0, none⟩ (.string x.name)).setCell ⟨wr.heap.size, 1, none⟩ (.bool x.at')).setCell ⟨wr.heap.size, 2, none⟩ (.int .i64 x.idx)).alloc (.cells #[.string x.name, .bool x.at', .int .i64 x.idx] 39))) := ⟨HVO.out.alloc _, below_to HVB.out ((Below.refl _ _).alloc (Nat.le_refl _) _)⟩
            have HNW : Hid (∀ j u, x.cells[j]? = some u → ((((w1.setCell ⟨wr.heap.size, 0, none⟩ (.string x.name)).setCell ⟨wr.heap.size, 1, none⟩ (.bool x.at')).setCell ⟨wr.heap.size, 2, none⟩ (.int .i64 x.idx)).alloc (.cells #[.string x.name, .bool x.at', .int .i64 x.idx] 39)).cell? ((⟨w1.heap.size, 0, none⟩ : Addr).add j) = some u) := news_at _ x _ (by simp)
            clear hb1
            go_wp2_with (at_builtin; refine wpList_app _ rfl _ _ 35 rfl w.heap.size 39 i0 (.agg #[.string ByteArray.empty, .bool false, .int .i64 0]) 3 32 Tryd.undW hi hz0 hz1 hz2 rfl (by decide) _ m (Sp.wcells acc) rfl HA.out.1 ⟨w1.heap.size, 0, none⟩ 1 1 x.cells rfl rfl HNW.out (cells_one x) (by decide) (by unfold maxLen; omega) (by omega) (by have := HZ1.out; simp; omega) ?_; intro g' cap' w3 hown' hgrow hor)
            have HO3 : Hid (w3.ownsRow w.heap.size 39 3 (.slice (some ⟨g', 0, none⟩) (m + 1) cap') (m + 1) (Sp.wcells (acc ++ [x]))) := by
              show World.ownsRow _ _ _ _ _ _ _
              rw [wcells_app]
              simpa [Sp.wcells] using hown'
            have HB3 : Hid (Below w.heap.size w w3) := HA.out.2.grown hgrow (by have := HZ1.out; simp; omega) (fun q hq => own_ge HA.out.1 hq)
            clear hown' hgrow hor
            go_wp2_with fail
            go_roundw
            case rel => exact ⟨n, acc ++ [x], _, m + 1, cap', rfl, rfl, hns, by omega, (by rw [List.length_append, ← HM.out]; rfl), HO3, HN, HB3⟩
            case measure => simp [intOf]; omega
      · have c0' : ((k : Int) == 0) = false := by simp; omega
        have c0'' : (0 : Int) < (k : Int) := by omega
        by_cases c2 : Sp.byte s k = 91
        · have c2' : (Sp.byte s k == 91) = true := by simp [c2]
          have c2'' : (Sp.byte s k != 91) = false := by simp [c2]
          have HC0 : Hid (¬ (k ≠ 0 ∧ Sp.byte s k ≠ 46 ∧ Sp.byte s k ≠ 91)) := fun h => h.2.2 c2
          by_cases c1 : 64 ≤ m
          · have hm0 : ((m : Int) == 64) = true := by simp; omega
            have HR : Hid (Sp.way s = .err k 2) := HI.out.err hlt (by rw [← HM.out, Sp.rdStep, if_neg HC0.out, if_pos c1])
            clear c0 c2
            go_wp2_with fail
            refine bodyPost_ret (v := .tuple #[.slice none 0 0, .int .i64 (k : Int), .int .i64 2]) (by simp [results, Tryd.results11, go_sem]) rfl ⟨?_, HB.out⟩
            rw [HR.out]
            exact ⟨rfl, by decide, by omega⟩
          · have hm0 : ((m : Int) == 64) = false := by simp; omega
            have HRS : Hid (Sp.rdStep s k m = Sp.rdIdx s k) := by
              show _ = _
              rw [Sp.rdStep, if_neg HC0.out, if_neg c1, if_pos c2]
            clear c0 c2
            generalize Sp.rdIdx s k = r at HX HRS
            have HC := HX
            cases hr : r with
            | err n e =>
              rw [hr] at HC
              have HR : Hid (Sp.way s = .err n e) := HI.out.err hlt (by rw [← HM.out]; exact HRS.out.trans hr)
              have HE : Hid (n ≤ s.size ∧ 1 ≤ e ∧ e ≤ 8) := (Sp.rdStep_bd hlt).1 n e (HRS.out.trans hr)
              have he : (e != 0) = true := by have := HE.out; simp; omega
              clear hr
              unfold PRes.val at HC
              go_wp2_with fail
              refine (HC.out _ ((Below.refl _ _).alloc (Nat.le_refl _) _)).mono ?_
              rintro e' w1 ⟨rfl, hb1⟩
              have HB1 : Hid (Below w.heap.size w w1) := below_to HB.out (below_to ((Below.refl _ _).alloc (Nat.le_refl _) _) hb1)
              obtain ⟨z0, z1, z2, y0, y1, y2⟩ := zbox hb1
              clear hb1
              go_wp2_with fail
              refine bodyPost_ret (v := .tuple #[.slice none 0 0, .int .i64 (n : Int), .int .i64 e]) (by simp [results, Tryd.results11, go_sem]) rfl ⟨?_, ?_⟩
              · rw [HR.out]
                exact ⟨rfl, HE.out.2.1, by have := HE.out.1; omega⟩
              · exact set3_belG HB1.out HB.out.size _ _ _
            | ok x n =>
              rw [hr] at HC
              have HN : Hid (WI s n (acc ++ [x])) := HI.out.next hlt (by rw [← HM.out]; exact HRS.out.trans hr)
              have HE : Hid (k < n ∧ n ≤ s.size ∧ x.rule = 0 ∧ m < 64) := (Sp.rdStep_bd hlt).2 x n (HRS.out.trans hr)
              obtain ⟨hkn, hns, _, hm64⟩ := HE.out
              clear hr
              unfold PRes.val at HC
              go_wp2_with fail
              refine (HC.out _ ((Below.refl _ _).alloc (Nat.le_refl _) _)).mono ?_
              rintro e' w1 ⟨rfl, hb1⟩
              have HB1 : Hid (Below w.heap.size w w1) := below_to HB.out (below_to ((Below.refl _ _).alloc (Nat.le_refl _) _) hb1)
              have HO1 : Hid (w1.ownsRow w.heap.size 39 3 (.slice a m cap) m (Sp.wcells acc)) := own_on HO.out (below_to ((Below.refl _ _).alloc (Nat.le_refl _) _) hb1)
              obtain ⟨z0, z1, z2, y0, y1, y2⟩ := zbox hb1
              have HVB : Hid (Below w.heap.size w (((w1.setCell ⟨wr.heap.size, 0, none⟩ (.string x.name)).setCell ⟨wr.heap.size, 1, none⟩ (.bool x.at')).setCell ⟨wr.heap.size, 2, none⟩ (.int .i64 x.idx))) := set3_belG HB1.out HB.out.size _ _ _
              have HVO : Hid ((((w1.setCell ⟨wr.heap.size, 0, none⟩ (.string x.name)).setCell ⟨wr.heap.size, 1, none⟩ (.bool x.at')).setCell ⟨wr.heap.size, 2, none⟩ (.int .i64 x.idx)).ownsRow w.heap.size 39 3 (.slice a m cap) m (Sp.wcells acc)) := own_set3 HO1.out (own_ne HO.out) _ _ _
              have HZ1 : Hid (w.heap.size ≤ w1.heap.size) := HB1.out.size
              obtain ⟨k0, k1, k2⟩ := set3 (.string x.name) (.bool x.at') (.int .i64 x.idx) z0 z1 z2
              have HA : Hid (((((w1.setCell ⟨wr.heap.size, 0, none⟩ (.string x.name)).setCell ⟨wr.heap.size, 1, none⟩ (.bool x.at')).setCell ⟨wr.heap.size, 2, none⟩ (.int .i64 x.idx)).alloc (.cells #[.string x.name, .bool x.at', .int .i64 x.idx] 39)).ownsRow w.heap.size 39 3 (.slice a m cap) m (Sp.wcells acc) ∧ Below w.heap.size w ((((w1.setCell ⟨wr.heap.size, 0, none⟩ (.string x.name)).setCell ⟨wr.heap.size, 1, none⟩ (.bool x.at')).setCell ⟨wr.heap.size, 2, none⟩ (.int .i64 x.idx)).alloc (.cells #[.string x.name, .bool x.at', .int .i64 x.idx] 39))) := ⟨HVO.out.alloc _, below_to HVB.out ((Below.refl _ _).alloc (Nat.le_refl _) _)⟩
              have HNW : Hid (∀ j u, x.cells[j]? = some u → ((((w1.setCell ⟨wr.heap.size, 0, none⟩ (.string x.name)).setCell ⟨wr.heap.size, 1, none⟩ (.bool x.at')).setCell ⟨wr.heap.size, 2, none⟩ (.int .i64 x.idx)).alloc (.cells #[.string x.name, .bool x.at', .int .i64 x.idx] 39)).cell? ((⟨w1.heap.size, 0, none⟩ : Addr).add j) = some u) := news_at _ x _ (by simp)
              clear hb1
              go_wp2_with (at_builtin; refine wpList_app _ rfl _ _ 35 rfl w.heap.size 39 i0 (.agg #[.string ByteArray.empty, .bool false, .int .i64 0]) 3 32 Tryd.undW hi hz0 hz1 hz2 rfl (by decide) _ m (Sp.wcells acc) rfl HA.out.1 ⟨w1.heap.size, 0, none⟩ 1 1 x.cells rfl rfl HNW.out (cells_one x) (by decide) (by unfold maxLen; omega) (by omega) (by have := HZ1.out; simp; omega) ?_; intro g' cap' w3 hown' hgrow hor)
              have HO3 : Hid (w3.ownsRow w.heap.size 39 3 (.slice (some ⟨g', 0, none⟩) (m + 1) cap') (m + 1) (Sp.wcells (acc ++ [x]))) := by
                show World.ownsRow _ _ _ _ _ _ _
                rw [wcells_app]
                simpa [Sp.wcells] using hown'
              have HB3 : Hid (Below w.heap.size w w3) := HA.out.2.grown hgrow (by have := HZ1.out; simp; omega) (fun q hq => own_ge HA.out.1 hq)
              clear hown' hgrow hor
              go_wp2_with fail
              go_roundw
              case rel => exact ⟨n, acc ++ [x], _, m + 1, cap', rfl, rfl, hns, by omega, (by rw [List.length_append, ← HM.out]; rfl), HO3, HN, HB3⟩
              case measure => simp [intOf]; omega
        · have c2' : (Sp.byte s k == 91) = false := by simp [c2]
          have c2'' : (Sp.byte s k != 91) = true := by simp [c2]
          by_cases c3 : Sp.byte s k = 46
          · have c3' : (Sp.byte s k != 46) = false := by simp [c3]
            have HC0 : Hid (¬ (k ≠ 0 ∧ Sp.byte s k ≠ 46 ∧ Sp.byte s k ≠ 91)) := fun h => h.2.1 c3
            by_cases c1 : 64 ≤ m
            · have hm0 : ((m : Int) == 64) = true := by simp; omega
              have HR : Hid (Sp.way s = .err k 2) := HI.out.err hlt (by rw [← HM.out, Sp.rdStep, if_neg HC0.out, if_pos c1])
              clear c0 c2 c3
              go_wp2_with fail
              refine bodyPost_ret (v := .tuple #[.slice none 0 0, .int .i64 (k : Int), .int .i64 2]) (by simp [results, Tryd.results11, go_sem]) rfl ⟨?_, HB.out⟩
              rw [HR.out]
              exact ⟨rfl, by decide, by omega⟩
            · have hm0 : ((m : Int) == 64) = false := by simp; omega
              have HRS : Hid (Sp.rdStep s k m = Sp.rdName s (k + 1)) := by
                show _ = _
                rw [Sp.rdStep, if_neg HC0.out, if_neg c1, if_neg c2, if_neg c0]
              clear c0 c2 c3
              generalize Sp.rdName s (k + 1) = r at HNN HRS
              have HC := HNN
              cases hr : r with
              | err n e =>
                rw [hr] at HC
                have HR : Hid (Sp.way s = .err n e) := HI.out.err hlt (by rw [← HM.out]; exact HRS.out.trans hr)
                have HE : Hid (n ≤ s.size ∧ 1 ≤ e ∧ e ≤ 8) := (Sp.rdStep_bd hlt).1 n e (HRS.out.trans hr)
                have he : (e != 0) = true := by have := HE.out; simp; omega
                clear hr
                unfold PRes.val at HC
                go_wp2_with fail
                refine (HC.out _ ((Below.refl _ _).alloc (Nat.le_refl _) _)).mono ?_
                rintro e' w1 ⟨rfl, hb1⟩
                have HB1 : Hid (Below w.heap.size w w1) := below_to HB.out (below_to ((Below.refl _ _).alloc (Nat.le_refl _) _) hb1)
                obtain ⟨z0, z1, z2, y0, y1, y2⟩ := zbox hb1
                clear hb1
                go_wp2_with fail
                refine bodyPost_ret (v := .tuple #[.slice none 0 0, .int .i64 (n : Int), .int .i64 e]) (by simp [results, Tryd.results11, go_sem]) rfl ⟨?_, ?_⟩
                · rw [HR.out]
                  exact ⟨rfl, HE.out.2.1, by have := HE.out.1; omega⟩
                · exact set3_belG HB1.out HB.out.size _ _ _
              | ok x n =>
                rw [hr] at HC
                have HN : Hid (WI s n (acc ++ [x])) := HI.out.next hlt (by rw [← HM.out]; exact HRS.out.trans hr)
                have HE : Hid (k < n ∧ n ≤ s.size ∧ x.rule = 0 ∧ m < 64) := (Sp.rdStep_bd hlt).2 x n (HRS.out.trans hr)
                obtain ⟨hkn, hns, _, hm64⟩ := HE.out
                clear hr
                unfold PRes.val at HC
                go_wp2_with fail
                refine (HC.out _ ((Below.refl _ _).alloc (Nat.le_refl _) _)).mono ?_
                rintro e' w1 ⟨rfl, hb1⟩
                have HB1 : Hid (Below w.heap.size w w1) := below_to HB.out (below_to ((Below.refl _ _).alloc (Nat.le_refl _) _) hb1)
                have HO1 : Hid (w1.ownsRow w.heap.size 39 3 (.slice a m cap) m (Sp.wcells acc)) := own_on HO.out (below_to ((Below.refl _ _).alloc (Nat.le_refl _) _) hb1)
                obtain ⟨z0, z1, z2, y0, y1, y2⟩ := zbox hb1
                have HVB : Hid (Below w.heap.size w (((w1.setCell ⟨wr.heap.size, 0, none⟩ (.string x.name)).setCell ⟨wr.heap.size, 1, none⟩ (.bool x.at')).setCell ⟨wr.heap.size, 2, none⟩ (.int .i64 x.idx))) := set3_belG HB1.out HB.out.size _ _ _
                have HVO : Hid ((((w1.setCell ⟨wr.heap.size, 0, none⟩ (.string x.name)).setCell ⟨wr.heap.size, 1, none⟩ (.bool x.at')).setCell ⟨wr.heap.size, 2, none⟩ (.int .i64 x.idx)).ownsRow w.heap.size 39 3 (.slice a m cap) m (Sp.wcells acc)) := own_set3 HO1.out (own_ne HO.out) _ _ _
                have HZ1 : Hid (w.heap.size ≤ w1.heap.size) := HB1.out.size
                obtain ⟨k0, k1, k2⟩ := set3 (.string x.name) (.bool x.at') (.int .i64 x.idx) z0 z1 z2
                have HA : Hid (((((w1.setCell ⟨wr.heap.size, 0, none⟩ (.string x.name)).setCell ⟨wr.heap.size, 1, none⟩ (.bool x.at')).setCell ⟨wr.heap.size, 2, none⟩ (.int .i64 x.idx)).alloc (.cells #[.string x.name, .bool x.at', .int .i64 x.idx] 39)).ownsRow w.heap.size 39 3 (.slice a m cap) m (Sp.wcells acc) ∧ Below w.heap.size w ((((w1.setCell ⟨wr.heap.size, 0, none⟩ (.string x.name)).setCell ⟨wr.heap.size, 1, none⟩ (.bool x.at')).setCell ⟨wr.heap.size, 2, none⟩ (.int .i64 x.idx)).alloc (.cells #[.string x.name, .bool x.at', .int .i64 x.idx] 39))) := ⟨HVO.out.alloc _, below_to HVB.out ((Below.refl _ _).alloc (Nat.le_refl _) _)⟩
                have HNW : Hid (∀ j u, x.cells[j]? = some u → ((((w1.setCell ⟨wr.heap.size, 0, none⟩ (.string x.name)).setCell ⟨wr.heap.size, 1, none⟩ (.bool x.at')).setCell ⟨wr.heap.size, 2, none⟩ (.int .i64 x.idx)).alloc (.cells #[.string x.name, .bool x.at', .int .i64 x.idx] 39)).cell? ((⟨w1.heap.size, 0, none⟩ : Addr).add j) = some u) := news_at _ x _ (by simp)
                clear hb1
                go_wp2_with (at_builtin; refine wpList_app _ rfl _ _ 35 rfl w.heap.size 39 i0 (.agg #[.string ByteArray.empty, .bool false, .int .i64 0]) 3 32 Tryd.undW hi hz0 hz1 hz2 rfl (by decide) _ m (Sp.wcells acc) rfl HA.out.1 ⟨w1.heap.size, 0, none⟩ 1 1 x.cells rfl rfl HNW.out (cells_one x) (by decide) (by unfold maxLen; omega) (by omega) (by have := HZ1.out; simp; omega) ?_; intro g' cap' w3 hown' hgrow hor)
                have HO3 : Hid (w3.ownsRow w.heap.size 39 3 (.slice (some ⟨g', 0, none⟩) (m + 1) cap') (m + 1) (Sp.wcells (acc ++ [x]))) := by
                  show World.ownsRow _ _ _ _ _ _ _
                  rw [wcells_app]
                  simpa [Sp.wcells] using hown'
                have HB3 : Hid (Below w.heap.size w w3) := HA.out.2.grown hgrow (by have := HZ1.out; simp; omega) (fun q hq => own_ge HA.out.1 hq)
                clear hown' hgrow hor
                go_wp2_with fail
                go_roundw
                case rel => exact ⟨n, acc ++ [x], _, m + 1, cap', rfl, rfl, hns, by omega, (by rw [List.length_append, ← HM.out]; rfl), HO3, HN, HB3⟩
                case measure => simp [intOf]; omega
          · have c3' : (Sp.byte s k != 46) = true := by simp [c3]
            have HR : Hid (Sp.way s = .err k 3) := HI.out.err hlt (by rw [Sp.rdStep, if_pos ⟨c0, c3, c2⟩])
            clear c0 c2 c3
            go_wp2_with fail
            refine bodyPost_ret (v := .tuple #[.slice none 0 0, .int .i64 (k : Int), .int .i64 3]) (by simp [results, Tryd.results11, go_sem]) rfl ⟨?_, HB.out⟩
            rw [HR.out]
            exact ⟨rfl, by decide, by omega⟩
    · have HR : Hid (Sp.way s = .ok acc) := HI.out.fin hlt
      go_wp2_with fail
      refine bodyPost_ret (v := .tuple #[.slice a m cap, .int .i64 0, .int .i64 0]) (by simp [results, Tryd.results11, go_sem]) rfl ⟨?_, HB.out⟩
      rw [HR.out]
      refine ⟨a, cap, by rw [← HM.out], by rw [← HM.out]; exact HO.out, fun x hx => by have := rule_name (HI.out.rule x hx); unfold maxLen; omega, by rw [← HM.out]; exact hm⟩
end Go.Proofs.YtghnipbcbbphbaaDoor
