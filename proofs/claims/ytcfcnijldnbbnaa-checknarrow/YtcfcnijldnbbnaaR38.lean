/- check.narrow: by the kind of the type. -/
import Derived.Test.YtcfcnijldnbbnaaR37
import Derived.BigQuiet
namespace Go.Proofs.Ytcfcnijldnbbnaa
open Go.RowKit

section
variable (b B : Nat) (w : World)
set_option maxRecDepth 100000 in
set_option maxHeartbeats 4000000 in
theorem narC_l (r : Nar) (al : Option Addr) (nl cl : Nat) (HT : ∀ W, Below w.heap.size w W → Calls Try.prog 52 #[.pointer (some ⟨b, 0, none⟩), .slice al nl cl] W (NarE r B W)) (hB : B ≤ w.heap.size) (hbw : b < w.heap.size) (c0 : w.cell? ⟨b, 0, none⟩ = some (.int .i64 5)) :
    Calls Try.prog 27 #[.pointer (some ⟨b, 0, none⟩), .iface 49 (.slice al nl cl)] w (NarE r B w) := by
  obtain ⟨W1, hW1⟩ : ∃ W1, w.alloc (.cells n0cells 80) = W1 := ⟨_, rfl⟩
  have hw1 : Below w.heap.size w W1 := hW1 ▸ ((Below.refl _ _).alloc (Nat.le_refl _) _)
  have d0 : W1.cell? ⟨b, 0, none⟩ = some (.int .i64 5) := by rw [hw1.cell (p := ⟨b, 0, none⟩) hbw]; exact c0
  have HO := HT W1 hw1
  have HO : Hid _ := HO
  have HNB : Hid (∀ W, Below W1.heap.size W1 W → W.cell? ⟨w.heap.size, 0, none⟩ = some .nilIface ∧ W.cell? ⟨w.heap.size, 1, none⟩ = some (.bool false) ∧ W.cell? ⟨w.heap.size, 2, none⟩ = some (.bool false) ∧ W.frozen? ⟨w.heap.size, 0, none⟩ = false ∧ W.frozen? ⟨w.heap.size, 1, none⟩ = false ∧ W.frozen? ⟨w.heap.size, 2, none⟩ = false) := by
    rw [← hW1]; exact fun W h => (nbox h).2
  have HEND : Hid (∀ W vs, Below W1.heap.size W1 W → Below w.heap.size w (setN W w.heap.size 0 vs) ∧ Same (BF (Lo B) W1 W) W (setN W w.heap.size 0 vs) ∧ (∀ k, BF (Lo B) W1 W k → BF (Lo B) w (setN W w.heap.size 0 vs) k)) := fun W vs hW => by
    refine ⟨setN_below (Nat.le_refl _) _ _ _ _ (below_to hw1 hW), ?_, ?_⟩
    · rw [← hW1]; exact nbox_same hB vs
    · rw [← hW1]; exact nbox_up vs
  clear HT hB c0 hw1
  go_enter Try.func27, Try.ntmps27
  go_wp2_with fail
  refine (show Calls _ _ _ _ _ from HO.out).mono ?_
  rintro e w1 ⟨hb1, xr, ok, wh, rfl, hR⟩
  obtain ⟨b0, b1, b2, z0, z1, z2⟩ := HNB.out w1 hb1
  have hshr := hR.shape
  have HR : Hid (NarR r ok wh xr B W1 w1 ∧ Below W1.heap.size W1 w1) := ⟨hR, hb1⟩
  clear hR hb1
  rcases hshr with rfl | ⟨T0, y0, rfl⟩
  · go_wp2_with fail
    refine bodyPost_ret (v := .agg #[.nilIface, .bool ok, .bool wh]) (by simp [results, Try.results27, go_sem, b0, b1, b2]) rfl ?_
    obtain ⟨e1, e2, e3⟩ := HEND.out w1 [.nilIface, .bool ok, .bool wh] HR.out.2
    refine ⟨e1, .nilIface, ok, wh, rfl, ?_⟩
    rcases HR.out.1 with q | ⟨y, q1, q2, q3⟩
    · exact .inl q
    · exact .inr ⟨y, q1, q2, y.V_same e2 e3 _ q3⟩
  · go_wp2_with fail
    refine bodyPost_ret (v := .agg #[.iface T0 y0, .bool ok, .bool wh]) (by simp [results, Try.results27, go_sem, b0, b1, b2]) rfl ?_
    obtain ⟨e1, e2, e3⟩ := HEND.out w1 [.iface T0 y0, .bool ok, .bool wh] HR.out.2
    refine ⟨e1, .iface T0 y0, ok, wh, rfl, ?_⟩
    rcases HR.out.1 with q | ⟨y, q1, q2, q3⟩
    · exact .inl q
    · exact .inr ⟨y, q1, q2, y.V_same e2 e3 _ q3⟩
set_option maxRecDepth 100000 in
set_option maxHeartbeats 4000000 in
theorem narC_d (r : Nar) (al : Option Addr) (nl cl : Nat) (HT : ∀ W, Below w.heap.size w W → Calls Try.prog 53 #[.pointer (some ⟨b, 0, none⟩), .slice al nl cl] W (NarE r B W)) (hB : B ≤ w.heap.size) (hbw : b < w.heap.size) (c0 : w.cell? ⟨b, 0, none⟩ = some (.int .i64 6)) :
    Calls Try.prog 27 #[.pointer (some ⟨b, 0, none⟩), .iface 57 (.slice al nl cl)] w (NarE r B w) := by
  obtain ⟨W1, hW1⟩ : ∃ W1, w.alloc (.cells n0cells 80) = W1 := ⟨_, rfl⟩
  have hw1 : Below w.heap.size w W1 := hW1 ▸ ((Below.refl _ _).alloc (Nat.le_refl _) _)
  have d0 : W1.cell? ⟨b, 0, none⟩ = some (.int .i64 6) := by rw [hw1.cell (p := ⟨b, 0, none⟩) hbw]; exact c0
  have HO := HT W1 hw1
  have HO : Hid _ := HO
  have HNB : Hid (∀ W, Below W1.heap.size W1 W → W.cell? ⟨w.heap.size, 0, none⟩ = some .nilIface ∧ W.cell? ⟨w.heap.size, 1, none⟩ = some (.bool false) ∧ W.cell? ⟨w.heap.size, 2, none⟩ = some (.bool false) ∧ W.frozen? ⟨w.heap.size, 0, none⟩ = false ∧ W.frozen? ⟨w.heap.size, 1, none⟩ = false ∧ W.frozen? ⟨w.heap.size, 2, none⟩ = false) := by
    rw [← hW1]; exact fun W h => (nbox h).2
  have HEND : Hid (∀ W vs, Below W1.heap.size W1 W → Below w.heap.size w (setN W w.heap.size 0 vs) ∧ Same (BF (Lo B) W1 W) W (setN W w.heap.size 0 vs) ∧ (∀ k, BF (Lo B) W1 W k → BF (Lo B) w (setN W w.heap.size 0 vs) k)) := fun W vs hW => by
    refine ⟨setN_below (Nat.le_refl _) _ _ _ _ (below_to hw1 hW), ?_, ?_⟩
    · rw [← hW1]; exact nbox_same hB vs
    · rw [← hW1]; exact nbox_up vs
  clear HT hB c0 hw1
  go_enter Try.func27, Try.ntmps27
  go_wp2_with fail
  refine (show Calls _ _ _ _ _ from HO.out).mono ?_
  rintro e w1 ⟨hb1, xr, ok, wh, rfl, hR⟩
  obtain ⟨b0, b1, b2, z0, z1, z2⟩ := HNB.out w1 hb1
  have hshr := hR.shape
  have HR : Hid (NarR r ok wh xr B W1 w1 ∧ Below W1.heap.size W1 w1) := ⟨hR, hb1⟩
  clear hR hb1
  rcases hshr with rfl | ⟨T0, y0, rfl⟩
  · go_wp2_with fail
    refine bodyPost_ret (v := .agg #[.nilIface, .bool ok, .bool wh]) (by simp [results, Try.results27, go_sem, b0, b1, b2]) rfl ?_
    obtain ⟨e1, e2, e3⟩ := HEND.out w1 [.nilIface, .bool ok, .bool wh] HR.out.2
    refine ⟨e1, .nilIface, ok, wh, rfl, ?_⟩
    rcases HR.out.1 with q | ⟨y, q1, q2, q3⟩
    · exact .inl q
    · exact .inr ⟨y, q1, q2, y.V_same e2 e3 _ q3⟩
  · go_wp2_with fail
    refine bodyPost_ret (v := .agg #[.iface T0 y0, .bool ok, .bool wh]) (by simp [results, Try.results27, go_sem, b0, b1, b2]) rfl ?_
    obtain ⟨e1, e2, e3⟩ := HEND.out w1 [.iface T0 y0, .bool ok, .bool wh] HR.out.2
    refine ⟨e1, .iface T0 y0, ok, wh, rfl, ?_⟩
    rcases HR.out.1 with q | ⟨y, q1, q2, q3⟩
    · exact .inl q
    · exact .inr ⟨y, q1, q2, y.V_same e2 e3 _ q3⟩
set_option maxRecDepth 100000 in
set_option maxHeartbeats 4000000 in
theorem narC_u (r : Nar) (x : Value) (hxs : x = .nilIface ∨ ∃ T y, x = .iface T y) (HT : ∀ W, Below w.heap.size w W → Calls Try.prog 54 #[.pointer (some ⟨b, 0, none⟩), x] W (NarE r B W)) (hB : B ≤ w.heap.size) (hbw : b < w.heap.size) (c0 : w.cell? ⟨b, 0, none⟩ = some (.int .i64 7)) :
    Calls Try.prog 27 #[.pointer (some ⟨b, 0, none⟩), x] w (NarE r B w) := by
  obtain ⟨W1, hW1⟩ : ∃ W1, w.alloc (.cells n0cells 80) = W1 := ⟨_, rfl⟩
  have hw1 : Below w.heap.size w W1 := hW1 ▸ ((Below.refl _ _).alloc (Nat.le_refl _) _)
  have d0 : W1.cell? ⟨b, 0, none⟩ = some (.int .i64 7) := by rw [hw1.cell (p := ⟨b, 0, none⟩) hbw]; exact c0
  have HO := HT W1 hw1
  have HO : Hid _ := HO
  have HNB : Hid (∀ W, Below W1.heap.size W1 W → W.cell? ⟨w.heap.size, 0, none⟩ = some .nilIface ∧ W.cell? ⟨w.heap.size, 1, none⟩ = some (.bool false) ∧ W.cell? ⟨w.heap.size, 2, none⟩ = some (.bool false) ∧ W.frozen? ⟨w.heap.size, 0, none⟩ = false ∧ W.frozen? ⟨w.heap.size, 1, none⟩ = false ∧ W.frozen? ⟨w.heap.size, 2, none⟩ = false) := by
    rw [← hW1]; exact fun W h => (nbox h).2
  have HEND : Hid (∀ W vs, Below W1.heap.size W1 W → Below w.heap.size w (setN W w.heap.size 0 vs) ∧ Same (BF (Lo B) W1 W) W (setN W w.heap.size 0 vs) ∧ (∀ k, BF (Lo B) W1 W k → BF (Lo B) w (setN W w.heap.size 0 vs) k)) := fun W vs hW => by
    refine ⟨setN_below (Nat.le_refl _) _ _ _ _ (below_to hw1 hW), ?_, ?_⟩
    · rw [← hW1]; exact nbox_same hB vs
    · rw [← hW1]; exact nbox_up vs
  clear HT hB c0 hw1
  rcases hxs with rfl | ⟨T, y, rfl⟩
  all_goals
    go_enter Try.func27, Try.ntmps27
    go_wp2_with fail
    refine (show Calls _ _ _ _ _ from HO.out).mono ?_
    rintro e w1 ⟨hb1, xr, ok, wh, rfl, hR⟩
    obtain ⟨b0, b1, b2, z0, z1, z2⟩ := HNB.out w1 hb1
    have hshr := hR.shape
    have HR : Hid (NarR r ok wh xr B W1 w1 ∧ Below W1.heap.size W1 w1) := ⟨hR, hb1⟩
    clear hR hb1
    rcases hshr with rfl | ⟨T0, y0, rfl⟩
    · go_wp2_with fail
      refine bodyPost_ret (v := .agg #[.nilIface, .bool ok, .bool wh]) (by simp [results, Try.results27, go_sem, b0, b1, b2]) rfl ?_
      obtain ⟨e1, e2, e3⟩ := HEND.out w1 [.nilIface, .bool ok, .bool wh] HR.out.2
      refine ⟨e1, .nilIface, ok, wh, rfl, ?_⟩
      rcases HR.out.1 with q | ⟨y, q1, q2, q3⟩
      · exact .inl q
      · exact .inr ⟨y, q1, q2, y.V_same e2 e3 _ q3⟩
    · go_wp2_with fail
      refine bodyPost_ret (v := .agg #[.iface T0 y0, .bool ok, .bool wh]) (by simp [results, Try.results27, go_sem, b0, b1, b2]) rfl ?_
      obtain ⟨e1, e2, e3⟩ := HEND.out w1 [.iface T0 y0, .bool ok, .bool wh] HR.out.2
      refine ⟨e1, .iface T0 y0, ok, wh, rfl, ?_⟩
      rcases HR.out.1 with q | ⟨y, q1, q2, q3⟩
      · exact .inl q
      · exact .inr ⟨y, q1, q2, y.V_same e2 e3 _ q3⟩
set_option maxRecDepth 100000 in
set_option maxHeartbeats 4000000 in
theorem narC_h (k : Int) (v : Tm) (x : Value) (rb : Bool) (rq : Int) (hv : v.V w (Lo B) x) (HT : ∀ W, Below w.heap.size w W → Calls Try.prog 20 #[.pointer (some ⟨b, 0, none⟩), x] W fun e w' => e = .returned (.tuple #[.bool rb, .int .i64 rq]) ∧ Below W.heap.size W w') (hB : B ≤ w.heap.size) (hbw : b < w.heap.size) (c0 : w.cell? ⟨b, 0, none⟩ = some (.int .i64 k))
    (hk : ((k = 1 ∨ k = 2 ∨ k = 3 ∨ k = 4 ∨ k = 8) ∧ (x = .nilIface ∨ ∃ T y, x = .iface T y)) ∨ (k = 5 ∧ (x = .nilIface ∨ ∃ T y, x = .iface T y ∧ T ≠ 49)) ∨ (k = 6 ∧ (x = .nilIface ∨ ∃ T y, x = .iface T y ∧ T ≠ 57))) :
    Calls Try.prog 27 #[.pointer (some ⟨b, 0, none⟩), x] w (NarE (if rb then some (v, true) else none) B w) := by
  obtain ⟨W1, hW1⟩ : ∃ W1, w.alloc (.cells n0cells 80) = W1 := ⟨_, rfl⟩
  have hw1 : Below w.heap.size w W1 := hW1 ▸ ((Below.refl _ _).alloc (Nat.le_refl _) _)
  have d0 : W1.cell? ⟨b, 0, none⟩ = some (.int .i64 k) := by rw [hw1.cell (p := ⟨b, 0, none⟩) hbw]; exact c0
  have HO := HT W1 hw1
  have HO : Hid _ := HO
  have HNB : Hid (∀ W, Below W1.heap.size W1 W → W.cell? ⟨w.heap.size, 0, none⟩ = some .nilIface ∧ W.cell? ⟨w.heap.size, 1, none⟩ = some (.bool false) ∧ W.cell? ⟨w.heap.size, 2, none⟩ = some (.bool false) ∧ W.frozen? ⟨w.heap.size, 0, none⟩ = false ∧ W.frozen? ⟨w.heap.size, 1, none⟩ = false ∧ W.frozen? ⟨w.heap.size, 2, none⟩ = false) := by
    rw [← hW1]; exact fun W h => (nbox h).2
  have HEND : Hid (∀ W vs, Below W1.heap.size W1 W → Below w.heap.size w (setN W w.heap.size 0 vs) ∧ Same (BF (Lo B) W1 W) W (setN W w.heap.size 0 vs) ∧ (∀ k, BF (Lo B) W1 W k → BF (Lo B) w (setN W w.heap.size 0 vs) k)) := fun W vs hW => by
    refine ⟨setN_below (Nat.le_refl _) _ _ _ _ (below_to hw1 hW), ?_, ?_⟩
    · rw [← hW1]; exact nbox_same hB vs
    · rw [← hW1]; exact nbox_up vs
  have HV : Hid (∀ vs W, Below W1.heap.size W1 W → v.V (setN W w.heap.size 0 vs) (BF (Lo B) w (setN W w.heap.size 0 vs)) x) := fun vs W hW => by
    have hbl := (HEND.out W vs hW).1
    exact v.V_same (fun k hk => hbl.block k (Nat.lt_of_lt_of_le hk hB)) (fun k hk => .inl hk) x hv
  obtain ⟨r, HRr⟩ : ∃ r : Nar, Hid (r = if rb then some (v, true) else none) := ⟨_, show _ = _ from rfl⟩
  rw [← HRr.out]
  clear HT hB c0 hw1 hv
  rcases hk with ⟨rfl | rfl | rfl | rfl | rfl, hx⟩ | ⟨rfl, hx⟩ | ⟨rfl, hx⟩
  · rcases hx with rfl | ⟨T, y, rfl⟩
    · go_enter Try.func27, Try.ntmps27
      go_wp2_with fail
      refine (show Calls _ _ _ _ _ from HO.out).mono ?_
      rintro e w1 ⟨rfl, hb1⟩
      obtain ⟨b0, b1, b2, z0, z1, z2⟩ := HNB.out w1 hb1
      have HB1 : Hid (Below W1.heap.size W1 w1) := hb1
      clear hb1
      cases rb with
      | false =>
        go_wp2_with fail
        refine bodyPost_ret (v := .agg #[.nilIface, .bool false, .bool false]) (by simp [results, Try.results27, go_sem, b0, b1, b2]) rfl ?_
        exact ⟨(HEND.out w1 [.nilIface, .bool false, .bool false] HB1.out).1, .nilIface, false, false, rfl, .inl ⟨by rw [HRr.out]; rfl, rfl, rfl, rfl⟩⟩
      | true =>
        go_wp2_with fail
        refine bodyPost_ret (v := .agg #[.nilIface, .bool true, .bool true]) (by simp [results, Try.results27, go_sem, b0, b1, b2]) rfl ?_
        exact ⟨(HEND.out w1 [.nilIface, .bool true, .bool true] HB1.out).1, .nilIface, true, true, rfl, .inr ⟨v, by rw [HRr.out]; rfl, rfl, HV.out [.nilIface, .bool true, .bool true] w1 HB1.out⟩⟩
    · go_enter Try.func27, Try.ntmps27
      go_wp2_with fail
      refine (show Calls _ _ _ _ _ from HO.out).mono ?_
      rintro e w1 ⟨rfl, hb1⟩
      obtain ⟨b0, b1, b2, z0, z1, z2⟩ := HNB.out w1 hb1
      have HB1 : Hid (Below W1.heap.size W1 w1) := hb1
      clear hb1
      cases rb with
      | false =>
        go_wp2_with fail
        refine bodyPost_ret (v := .agg #[.nilIface, .bool false, .bool false]) (by simp [results, Try.results27, go_sem, b0, b1, b2]) rfl ?_
        exact ⟨(HEND.out w1 [.nilIface, .bool false, .bool false] HB1.out).1, .nilIface, false, false, rfl, .inl ⟨by rw [HRr.out]; rfl, rfl, rfl, rfl⟩⟩
      | true =>
        go_wp2_with fail
        refine bodyPost_ret (v := .agg #[.iface T y, .bool true, .bool true]) (by simp [results, Try.results27, go_sem, b0, b1, b2]) rfl ?_
        exact ⟨(HEND.out w1 [.iface T y, .bool true, .bool true] HB1.out).1, .iface T y, true, true, rfl, .inr ⟨v, by rw [HRr.out]; rfl, rfl, HV.out [.iface T y, .bool true, .bool true] w1 HB1.out⟩⟩
  · rcases hx with rfl | ⟨T, y, rfl⟩
    · go_enter Try.func27, Try.ntmps27
      go_wp2_with fail
      refine (show Calls _ _ _ _ _ from HO.out).mono ?_
      rintro e w1 ⟨rfl, hb1⟩
      obtain ⟨b0, b1, b2, z0, z1, z2⟩ := HNB.out w1 hb1
      have HB1 : Hid (Below W1.heap.size W1 w1) := hb1
      clear hb1
      cases rb with
      | false =>
        go_wp2_with fail
        refine bodyPost_ret (v := .agg #[.nilIface, .bool false, .bool false]) (by simp [results, Try.results27, go_sem, b0, b1, b2]) rfl ?_
        exact ⟨(HEND.out w1 [.nilIface, .bool false, .bool false] HB1.out).1, .nilIface, false, false, rfl, .inl ⟨by rw [HRr.out]; rfl, rfl, rfl, rfl⟩⟩
      | true =>
        go_wp2_with fail
        refine bodyPost_ret (v := .agg #[.nilIface, .bool true, .bool true]) (by simp [results, Try.results27, go_sem, b0, b1, b2]) rfl ?_
        exact ⟨(HEND.out w1 [.nilIface, .bool true, .bool true] HB1.out).1, .nilIface, true, true, rfl, .inr ⟨v, by rw [HRr.out]; rfl, rfl, HV.out [.nilIface, .bool true, .bool true] w1 HB1.out⟩⟩
    · go_enter Try.func27, Try.ntmps27
      go_wp2_with fail
      refine (show Calls _ _ _ _ _ from HO.out).mono ?_
      rintro e w1 ⟨rfl, hb1⟩
      obtain ⟨b0, b1, b2, z0, z1, z2⟩ := HNB.out w1 hb1
      have HB1 : Hid (Below W1.heap.size W1 w1) := hb1
      clear hb1
      cases rb with
      | false =>
        go_wp2_with fail
        refine bodyPost_ret (v := .agg #[.nilIface, .bool false, .bool false]) (by simp [results, Try.results27, go_sem, b0, b1, b2]) rfl ?_
        exact ⟨(HEND.out w1 [.nilIface, .bool false, .bool false] HB1.out).1, .nilIface, false, false, rfl, .inl ⟨by rw [HRr.out]; rfl, rfl, rfl, rfl⟩⟩
      | true =>
        go_wp2_with fail
        refine bodyPost_ret (v := .agg #[.iface T y, .bool true, .bool true]) (by simp [results, Try.results27, go_sem, b0, b1, b2]) rfl ?_
        exact ⟨(HEND.out w1 [.iface T y, .bool true, .bool true] HB1.out).1, .iface T y, true, true, rfl, .inr ⟨v, by rw [HRr.out]; rfl, rfl, HV.out [.iface T y, .bool true, .bool true] w1 HB1.out⟩⟩
  · rcases hx with rfl | ⟨T, y, rfl⟩
    · go_enter Try.func27, Try.ntmps27
      go_wp2_with fail
      refine (show Calls _ _ _ _ _ from HO.out).mono ?_
      rintro e w1 ⟨rfl, hb1⟩
      obtain ⟨b0, b1, b2, z0, z1, z2⟩ := HNB.out w1 hb1
      have HB1 : Hid (Below W1.heap.size W1 w1) := hb1
      clear hb1
      cases rb with
      | false =>
        go_wp2_with fail
        refine bodyPost_ret (v := .agg #[.nilIface, .bool false, .bool false]) (by simp [results, Try.results27, go_sem, b0, b1, b2]) rfl ?_
        exact ⟨(HEND.out w1 [.nilIface, .bool false, .bool false] HB1.out).1, .nilIface, false, false, rfl, .inl ⟨by rw [HRr.out]; rfl, rfl, rfl, rfl⟩⟩
      | true =>
        go_wp2_with fail
        refine bodyPost_ret (v := .agg #[.nilIface, .bool true, .bool true]) (by simp [results, Try.results27, go_sem, b0, b1, b2]) rfl ?_
        exact ⟨(HEND.out w1 [.nilIface, .bool true, .bool true] HB1.out).1, .nilIface, true, true, rfl, .inr ⟨v, by rw [HRr.out]; rfl, rfl, HV.out [.nilIface, .bool true, .bool true] w1 HB1.out⟩⟩
    · go_enter Try.func27, Try.ntmps27
      go_wp2_with fail
      refine (show Calls _ _ _ _ _ from HO.out).mono ?_
      rintro e w1 ⟨rfl, hb1⟩
      obtain ⟨b0, b1, b2, z0, z1, z2⟩ := HNB.out w1 hb1
      have HB1 : Hid (Below W1.heap.size W1 w1) := hb1
      clear hb1
      cases rb with
      | false =>
        go_wp2_with fail
        refine bodyPost_ret (v := .agg #[.nilIface, .bool false, .bool false]) (by simp [results, Try.results27, go_sem, b0, b1, b2]) rfl ?_
        exact ⟨(HEND.out w1 [.nilIface, .bool false, .bool false] HB1.out).1, .nilIface, false, false, rfl, .inl ⟨by rw [HRr.out]; rfl, rfl, rfl, rfl⟩⟩
      | true =>
        go_wp2_with fail
        refine bodyPost_ret (v := .agg #[.iface T y, .bool true, .bool true]) (by simp [results, Try.results27, go_sem, b0, b1, b2]) rfl ?_
        exact ⟨(HEND.out w1 [.iface T y, .bool true, .bool true] HB1.out).1, .iface T y, true, true, rfl, .inr ⟨v, by rw [HRr.out]; rfl, rfl, HV.out [.iface T y, .bool true, .bool true] w1 HB1.out⟩⟩
  · rcases hx with rfl | ⟨T, y, rfl⟩
    · go_enter Try.func27, Try.ntmps27
      go_wp2_with fail
      refine (show Calls _ _ _ _ _ from HO.out).mono ?_
      rintro e w1 ⟨rfl, hb1⟩
      obtain ⟨b0, b1, b2, z0, z1, z2⟩ := HNB.out w1 hb1
      have HB1 : Hid (Below W1.heap.size W1 w1) := hb1
      clear hb1
      cases rb with
      | false =>
        go_wp2_with fail
        refine bodyPost_ret (v := .agg #[.nilIface, .bool false, .bool false]) (by simp [results, Try.results27, go_sem, b0, b1, b2]) rfl ?_
        exact ⟨(HEND.out w1 [.nilIface, .bool false, .bool false] HB1.out).1, .nilIface, false, false, rfl, .inl ⟨by rw [HRr.out]; rfl, rfl, rfl, rfl⟩⟩
      | true =>
        go_wp2_with fail
        refine bodyPost_ret (v := .agg #[.nilIface, .bool true, .bool true]) (by simp [results, Try.results27, go_sem, b0, b1, b2]) rfl ?_
        exact ⟨(HEND.out w1 [.nilIface, .bool true, .bool true] HB1.out).1, .nilIface, true, true, rfl, .inr ⟨v, by rw [HRr.out]; rfl, rfl, HV.out [.nilIface, .bool true, .bool true] w1 HB1.out⟩⟩
    · go_enter Try.func27, Try.ntmps27
      go_wp2_with fail
      refine (show Calls _ _ _ _ _ from HO.out).mono ?_
      rintro e w1 ⟨rfl, hb1⟩
      obtain ⟨b0, b1, b2, z0, z1, z2⟩ := HNB.out w1 hb1
      have HB1 : Hid (Below W1.heap.size W1 w1) := hb1
      clear hb1
      cases rb with
      | false =>
        go_wp2_with fail
        refine bodyPost_ret (v := .agg #[.nilIface, .bool false, .bool false]) (by simp [results, Try.results27, go_sem, b0, b1, b2]) rfl ?_
        exact ⟨(HEND.out w1 [.nilIface, .bool false, .bool false] HB1.out).1, .nilIface, false, false, rfl, .inl ⟨by rw [HRr.out]; rfl, rfl, rfl, rfl⟩⟩
      | true =>
        go_wp2_with fail
        refine bodyPost_ret (v := .agg #[.iface T y, .bool true, .bool true]) (by simp [results, Try.results27, go_sem, b0, b1, b2]) rfl ?_
        exact ⟨(HEND.out w1 [.iface T y, .bool true, .bool true] HB1.out).1, .iface T y, true, true, rfl, .inr ⟨v, by rw [HRr.out]; rfl, rfl, HV.out [.iface T y, .bool true, .bool true] w1 HB1.out⟩⟩
  · rcases hx with rfl | ⟨T, y, rfl⟩
    · go_enter Try.func27, Try.ntmps27
      go_wp2_with fail
      refine (show Calls _ _ _ _ _ from HO.out).mono ?_
      rintro e w1 ⟨rfl, hb1⟩
      obtain ⟨b0, b1, b2, z0, z1, z2⟩ := HNB.out w1 hb1
      have HB1 : Hid (Below W1.heap.size W1 w1) := hb1
      clear hb1
      cases rb with
      | false =>
        go_wp2_with fail
        refine bodyPost_ret (v := .agg #[.nilIface, .bool false, .bool false]) (by simp [results, Try.results27, go_sem, b0, b1, b2]) rfl ?_
        exact ⟨(HEND.out w1 [.nilIface, .bool false, .bool false] HB1.out).1, .nilIface, false, false, rfl, .inl ⟨by rw [HRr.out]; rfl, rfl, rfl, rfl⟩⟩
      | true =>
        go_wp2_with fail
        refine bodyPost_ret (v := .agg #[.nilIface, .bool true, .bool true]) (by simp [results, Try.results27, go_sem, b0, b1, b2]) rfl ?_
        exact ⟨(HEND.out w1 [.nilIface, .bool true, .bool true] HB1.out).1, .nilIface, true, true, rfl, .inr ⟨v, by rw [HRr.out]; rfl, rfl, HV.out [.nilIface, .bool true, .bool true] w1 HB1.out⟩⟩
    · go_enter Try.func27, Try.ntmps27
      go_wp2_with fail
      refine (show Calls _ _ _ _ _ from HO.out).mono ?_
      rintro e w1 ⟨rfl, hb1⟩
      obtain ⟨b0, b1, b2, z0, z1, z2⟩ := HNB.out w1 hb1
      have HB1 : Hid (Below W1.heap.size W1 w1) := hb1
      clear hb1
      cases rb with
      | false =>
        go_wp2_with fail
        refine bodyPost_ret (v := .agg #[.nilIface, .bool false, .bool false]) (by simp [results, Try.results27, go_sem, b0, b1, b2]) rfl ?_
        exact ⟨(HEND.out w1 [.nilIface, .bool false, .bool false] HB1.out).1, .nilIface, false, false, rfl, .inl ⟨by rw [HRr.out]; rfl, rfl, rfl, rfl⟩⟩
      | true =>
        go_wp2_with fail
        refine bodyPost_ret (v := .agg #[.iface T y, .bool true, .bool true]) (by simp [results, Try.results27, go_sem, b0, b1, b2]) rfl ?_
        exact ⟨(HEND.out w1 [.iface T y, .bool true, .bool true] HB1.out).1, .iface T y, true, true, rfl, .inr ⟨v, by rw [HRr.out]; rfl, rfl, HV.out [.iface T y, .bool true, .bool true] w1 HB1.out⟩⟩
  · rcases hx with rfl | ⟨T, y, rfl, hT⟩
    · go_enter Try.func27, Try.ntmps27
      go_wp2_with fail
      refine (show Calls _ _ _ _ _ from HO.out).mono ?_
      rintro e w1 ⟨rfl, hb1⟩
      obtain ⟨b0, b1, b2, z0, z1, z2⟩ := HNB.out w1 hb1
      have HB1 : Hid (Below W1.heap.size W1 w1) := hb1
      clear hb1
      cases rb with
      | false =>
        go_wp2_with fail
        refine bodyPost_ret (v := .agg #[.nilIface, .bool false, .bool false]) (by simp [results, Try.results27, go_sem, b0, b1, b2]) rfl ?_
        exact ⟨(HEND.out w1 [.nilIface, .bool false, .bool false] HB1.out).1, .nilIface, false, false, rfl, .inl ⟨by rw [HRr.out]; rfl, rfl, rfl, rfl⟩⟩
      | true =>
        go_wp2_with fail
        refine bodyPost_ret (v := .agg #[.nilIface, .bool true, .bool true]) (by simp [results, Try.results27, go_sem, b0, b1, b2]) rfl ?_
        exact ⟨(HEND.out w1 [.nilIface, .bool true, .bool true] HB1.out).1, .nilIface, true, true, rfl, .inr ⟨v, by rw [HRr.out]; rfl, rfl, HV.out [.nilIface, .bool true, .bool true] w1 HB1.out⟩⟩
    · go_enter Try.func27, Try.ntmps27
      go_wp2_with fail
      refine (show Calls _ _ _ _ _ from HO.out).mono ?_
      rintro e w1 ⟨rfl, hb1⟩
      obtain ⟨b0, b1, b2, z0, z1, z2⟩ := HNB.out w1 hb1
      have HB1 : Hid (Below W1.heap.size W1 w1) := hb1
      clear hb1
      cases rb with
      | false =>
        go_wp2_with fail
        refine bodyPost_ret (v := .agg #[.nilIface, .bool false, .bool false]) (by simp [results, Try.results27, go_sem, b0, b1, b2]) rfl ?_
        exact ⟨(HEND.out w1 [.nilIface, .bool false, .bool false] HB1.out).1, .nilIface, false, false, rfl, .inl ⟨by rw [HRr.out]; rfl, rfl, rfl, rfl⟩⟩
      | true =>
        go_wp2_with fail
        refine bodyPost_ret (v := .agg #[.iface T y, .bool true, .bool true]) (by simp [results, Try.results27, go_sem, b0, b1, b2]) rfl ?_
        exact ⟨(HEND.out w1 [.iface T y, .bool true, .bool true] HB1.out).1, .iface T y, true, true, rfl, .inr ⟨v, by rw [HRr.out]; rfl, rfl, HV.out [.iface T y, .bool true, .bool true] w1 HB1.out⟩⟩
  · rcases hx with rfl | ⟨T, y, rfl, hT⟩
    · go_enter Try.func27, Try.ntmps27
      go_wp2_with fail
      refine (show Calls _ _ _ _ _ from HO.out).mono ?_
      rintro e w1 ⟨rfl, hb1⟩
      obtain ⟨b0, b1, b2, z0, z1, z2⟩ := HNB.out w1 hb1
      have HB1 : Hid (Below W1.heap.size W1 w1) := hb1
      clear hb1
      cases rb with
      | false =>
        go_wp2_with fail
        refine bodyPost_ret (v := .agg #[.nilIface, .bool false, .bool false]) (by simp [results, Try.results27, go_sem, b0, b1, b2]) rfl ?_
        exact ⟨(HEND.out w1 [.nilIface, .bool false, .bool false] HB1.out).1, .nilIface, false, false, rfl, .inl ⟨by rw [HRr.out]; rfl, rfl, rfl, rfl⟩⟩
      | true =>
        go_wp2_with fail
        refine bodyPost_ret (v := .agg #[.nilIface, .bool true, .bool true]) (by simp [results, Try.results27, go_sem, b0, b1, b2]) rfl ?_
        exact ⟨(HEND.out w1 [.nilIface, .bool true, .bool true] HB1.out).1, .nilIface, true, true, rfl, .inr ⟨v, by rw [HRr.out]; rfl, rfl, HV.out [.nilIface, .bool true, .bool true] w1 HB1.out⟩⟩
    · go_enter Try.func27, Try.ntmps27
      go_wp2_with fail
      refine (show Calls _ _ _ _ _ from HO.out).mono ?_
      rintro e w1 ⟨rfl, hb1⟩
      obtain ⟨b0, b1, b2, z0, z1, z2⟩ := HNB.out w1 hb1
      have HB1 : Hid (Below W1.heap.size W1 w1) := hb1
      clear hb1
      cases rb with
      | false =>
        go_wp2_with fail
        refine bodyPost_ret (v := .agg #[.nilIface, .bool false, .bool false]) (by simp [results, Try.results27, go_sem, b0, b1, b2]) rfl ?_
        exact ⟨(HEND.out w1 [.nilIface, .bool false, .bool false] HB1.out).1, .nilIface, false, false, rfl, .inl ⟨by rw [HRr.out]; rfl, rfl, rfl, rfl⟩⟩
      | true =>
        go_wp2_with fail
        refine bodyPost_ret (v := .agg #[.iface T y, .bool true, .bool true]) (by simp [results, Try.results27, go_sem, b0, b1, b2]) rfl ?_
        exact ⟨(HEND.out w1 [.iface T y, .bool true, .bool true] HB1.out).1, .iface T y, true, true, rfl, .inr ⟨v, by rw [HRr.out]; rfl, rfl, HV.out [.iface T y, .bool true, .bool true] w1 HB1.out⟩⟩
end
theorem narrow_any : ∀ N, NarC N
  | 0 => fun t h => by cases t; simp [Ty.sz] at h
  | N + 1 => fun t hN hok v x b B w hg hv hsh hB => by
    have has := fun W (hW : Below w.heap.size w W) => has_any (N + 1) t hN hok v x b B W hg (v.V_same (fun k hk => hW.block k (Nat.lt_of_lt_of_le hk hB)) (fun _ h => h) x hv) (t.Sh_same (fun k hk => hW.block k (Nat.lt_of_lt_of_le hk hB)) (fun _ h => h) b hsh) (Nat.le_trans hB hW.size)
    unfold HasE at has
    cases t with
    | mk k o t p n l op c =>
      have hN' : p.sz ≤ N := by simp only [Ty.sz] at hN; omega
      simp only [Ty.Sh] at hsh
      obtain ⟨hb, o', u, s, ap, np, cp, an, nn, cn, ak, nk, ck, op', c', hh, h3, h4, h5, h6, h8⟩ := hsh
      have hb' : b < B := hb
      have hbw : b < w.heap.size := Nat.lt_of_lt_of_le hb hB
      have c0 : w.cell? ⟨b, 0, none⟩ = some (.int .i64 k) := by rw [cell_of_row _ _ _ _ _ _ hh]; rfl
      have hxs := v.V_shape x hv
      have how : (Ty.mk k o t p n l op c).own = true := by simp only [Ty.ok, Bool.and_eq_true] at hok; exact hok.1.1
      have hkk : k = 1 ∨ k = 2 ∨ k = 3 ∨ k = 4 ∨ k = 5 ∨ k = 6 ∨ k = 7 ∨ k = 8 := by
        simp only [Ty.own] at how
        (repeat' split at how) <;> simp_all <;> omega
      have hpo : Sp.parted k = true → p.ok = true := fun h => by simp only [Ty.ok, h, if_true, Bool.and_eq_true] at hok; exact hok.2
      have hby : (((k = 1 ∨ k = 2 ∨ k = 3 ∨ k = 4 ∨ k = 8) ∧ (x = .nilIface ∨ ∃ T y, x = .iface T y)) ∨ (k = 5 ∧ (x = .nilIface ∨ ∃ T y, x = .iface T y ∧ T ≠ 49)) ∨ (k = 6 ∧ (x = .nilIface ∨ ∃ T y, x = .iface T y ∧ T ≠ 57))) → ¬ (k = 5 ∧ v.knd = 8) → ¬ (k = 6 ∧ v.knd = 9) → ¬ k = 7 → Calls Try.prog 27 #[.pointer (some ⟨b, 0, none⟩), x] w (NarE ((Ty.mk k o t p n l op c).nar v) B w) := fun q n1 n2 n3 => by
        have e : (Ty.mk k o t p n l op c).nar v = if ((Ty.mk k o t p n l op c).has v).1 then some (v, true) else none := by
          rw [Ty.nar, if_neg n1, if_neg n2, if_neg n3]
        rw [e]
        exact narC_h b B w k v x _ _ hv has hB hbw c0 q
      by_cases k5 : k = 5
      · subst k5
        by_cases hk : v.knd = 8
        · obtain ⟨rfl, q2, q3⟩ := h5 rfl
          have hpl : p.len = 1 := by simpa [Ty.own] using how
          have hp' := hpo rfl
          cases p with
          | nil => simp [TyL.len] at hpl
          | cons t0 p' =>
            cases p' with
            | cons _ _ => simp [TyL.len] at hpl
            | nil =>
              simp only [TyL.Sh] at q3
              obtain ⟨g, o1, b', rfl, hgg, hc, hs', -⟩ := q3
              have c4 : w.cell? ⟨b, 4, none⟩ = some (.slice (some ⟨g, o1, none⟩) (TyL.cons t0 .nil).len cp) := by rw [cell_of_row _ _ _ _ _ _ hh]; rfl
              have e : (Ty.mk 5 o t (.cons t0 .nil) n l op c).nar v = some (v.setL (Sp.narL t0.nar v.lst).1, (Sp.narL t0.nar v.lst).2) := by
                rw [Ty.nar, if_pos ⟨rfl, hk⟩]; rfl
              rw [e]
              cases v with
              | mk kv b2 i f tx by' rf l' fs cv vr =>
                have hk' : kv = 8 := hk
                subst hk'
                have hgp2 := (Tm.good_parts hg).1 rfl
                have hv' := hv
                simp only [Tm.V] at hv
                obtain ⟨-, -, -, -, -, -, -, h8', -, -, -, -⟩ := hv
                obtain ⟨a, cap, rfl, hln, hlv⟩ := h8' trivial
                refine narC_l b B w _ a l'.len cap (fun W hW => ?_) hB hbw c0
                have hs : Same (Lo B) w W := fun k hk => hW.block k (Nat.lt_of_lt_of_le hk hB)
                have hB2 : B ≤ W.heap.size := Nat.le_trans hB hW.size
                refine (narList_any t0 l' a cap b g o1 b' B (TyL.cons t0 .nil).len cp W (fun u y W2 hW2 hu hy => ?_) hB2 hb' hgg (by simp [TyL.len]) (by rw [hs.cell (p := ⟨b, 4, none⟩) hb]; exact c4) (by rw [hs.cell (p := ⟨g, o1, none⟩) hgg]; simpa using hc) (l'.V_same hs (fun _ h => h) a 0 hlv) hgp2.1 (by have := TmL.len_pn l'; have := hgp2.2; omega)).mono ?_
                · have hs2 : Same (Lo B) W W2 := fun k hk => hW2.block k (Nat.lt_of_lt_of_le hk hB2)
                  exact narrow_any N t0 (by simp [TyL.sz] at hN'; omega) (by simpa [TyL.ok] using hp') u y b' B W2 hu (u.V_same hs2 (fun _ h => h) y hy) (t0.Sh_same (hs.trans hs2) (fun _ h => h) b' hs') (Nat.le_trans hB2 hW2.size)
                · rintro e w' ⟨hb1, a', cap', rfl, hlv'⟩
                  exact ⟨hb1, _, true, _, rfl, .inr ⟨_, rfl, rfl, Tm.V_of8 hlv'⟩⟩
        · exact hby (.inr (.inl ⟨rfl, (Tm.V_other hv hg).1 hk⟩)) (fun h => hk h.2) (by simp) (by simp)
      · by_cases k6 : k = 6
        · subst k6
          by_cases hk : v.knd = 9
          · obtain ⟨rfl, q2, q3⟩ := h5 rfl
            obtain ⟨rfl, rfl, rfl, r4, r5⟩ := h6 rfl
            simp [Ty.own] at how
            obtain ⟨⟨a1, a2⟩, a3⟩ := how
            simp only [Sp.namesFit, Bool.and_eq_true, decide_eq_true_eq] at a3
            have e : (Ty.mk 6 o t p n l op' c).nar v = (Sp.foldN (Sp.nstep op' l p.narFns v.flds.names v.flds.vals) (Sp.mrg (n.length + v.flds.len) 0 0 n v.flds.names)).map fun r => (v.setF r.1, r.2) := by
              rw [Ty.nar, if_neg (by simp), if_pos ⟨rfl, hk⟩, Sp.narD_mrg op' l p.narFns v.flds.names v.flds.vals _ 0 0 n l p.narFns v.flds a2.symm (by rw [TyL.narFns_len]; exact a1.symm) (fun k => by rw [Nat.zero_add]) (fun k => by rw [Nat.zero_add]) (fun k => by rw [Nat.zero_add]) (fun k => by rw [Nat.zero_add])]
            rw [e]
            have c4 : w.cell? ⟨b, 4, none⟩ = some (.slice ap p.len cp) := by rw [cell_of_row _ _ _ _ _ _ hh]; rfl
            have c5 : w.cell? ⟨b, 5, none⟩ = some (.slice an n.length cn) := by rw [cell_of_row _ _ _ _ _ _ hh]; rfl
            have c6 : w.cell? ⟨b, 6, none⟩ = some (.slice ak l.length ck) := by rw [cell_of_row _ _ _ _ _ _ hh]; rfl
            have c7 : w.cell? ⟨b, 7, none⟩ = some (.bool op') := by rw [cell_of_row _ _ _ _ _ _ hh]; rfl
            cases v with
            | mk kv b2 i f tx by' rf l' fs cv vr =>
              have hk' : kv = 9 := hk
              subst hk'
              have hgp2 := (Tm.good_parts hg).2 (.inl rfl)
              have hgl := Tm.good_len hg
              have hv' := hv
              simp only [Tm.V] at hv
              obtain ⟨-, -, -, -, -, -, -, -, h9', -, -, -⟩ := hv
              obtain ⟨a, cap, rfl, hln, hlv⟩ := h9' trivial
              have hcp := hln.cap
              refine narC_d b B w _ a fs.len cap (fun W hW => ?_) hB hbw c0
              have hs : Same (Lo B) w W := fun k hk => hW.block k (Nat.lt_of_lt_of_le hk hB)
              refine (narDict_any N (narrow_any N) p hN' (hpo rfl) n l op' fs a cap b B ap an ak cp cn ck W (Nat.le_trans hB hW.size) hb' (by rw [hs.cell (p := ⟨b, 4, none⟩) hb]; exact c4) (by rw [hs.cell (p := ⟨b, 5, none⟩) hb]; exact c5) (by rw [hs.cell (p := ⟨b, 6, none⟩) hb]; exact c6) (by rw [hs.cell (p := ⟨b, 7, none⟩) hb]; exact c7)
                (r4.same hs (fun _ h => h)) (r5.same hs (fun _ h => h)) (p.Sh_same hs (fun _ h => h) ap 0 q3) (fs.V_same hs (fun _ h => h) a 0 hlv) hgp2.1 a1 a2.symm a3.1 hgl hcp.1).mono ?_
              rintro e w' ⟨hb1, ⟨hr, rfl⟩ | ⟨A, wh, a', cap', hr, rfl, hlv'⟩⟩
              · exact ⟨hb1, _, false, false, rfl, .inl ⟨congrArg (Option.map fun r => ((Tm.mk 9 b2 i f tx by' rf l' fs cv vr).setF r.1, r.2)) hr, rfl, rfl, rfl⟩⟩
              · exact ⟨hb1, _, true, wh, rfl, .inr ⟨Tm.mk 9 b2 i f tx by' rf l' A cv vr, congrArg (Option.map fun r => ((Tm.mk 9 b2 i f tx by' rf l' fs cv vr).setF r.1, r.2)) hr, rfl, Tm.V_of9 hlv'⟩⟩
          · exact hby (.inr (.inr ⟨rfl, (Tm.V_other hv hg).2.1 hk⟩)) (by simp) (fun h => hk h.2) (by simp)
        · by_cases k7 : k = 7
          · subst k7
            obtain ⟨rfl, q2, q3⟩ := h5 rfl
            have e : (Ty.mk 7 o t p n l op c).nar v = p.narU v none := by rw [Ty.nar, if_neg (by simp), if_neg (by simp), if_pos rfl]
            rw [e]
            have c4 : w.cell? ⟨b, 4, none⟩ = some (.slice ap p.len cp) := by rw [cell_of_row _ _ _ _ _ _ hh]; rfl
            refine narC_u b B w _ x hxs (fun W hW => ?_) hB hbw c0
            have hs : Same (Lo B) w W := fun k hk => hW.block k (Nat.lt_of_lt_of_le hk hB)
            exact narUnion_any N (narrow_any N) p hN' (hpo rfl) v x b B ap cp W hg (Nat.le_trans hB hW.size) hb' (v.V_same hs (fun _ h => h) x hv) (by rw [hs.cell (p := ⟨b, 4, none⟩) hb]; exact c4) (p.Sh_same hs (fun _ h => h) ap 0 q3) q2
          · exact hby (.inl ⟨by omega, hxs⟩) (fun h => k5 h.1) (fun h => k6 h.1) k7
end Go.Proofs.Ytcfcnijldnbbnaa

/- check.Narrow: a value as far as it is of a type. -/
namespace Go.Proofs.Ytcfcnijldnbbnaa
open Go.RowKit

/-- what Narrow answers: an error; nothing; what is left, in new memory or in old -/
def Sp.narA (v : Tm) (t : Ty) : Nar × Int := if v.all.e ≠ 0 then (none, v.all.e) else if t.can = false then (none, 70) else (t.nar v, 0)
def NarFin (r : Nar) (ok : Bool) (x : Value) (w' : World) : Prop := (r = none ∧ ok = false ∧ x = .nilIface) ∨ ∃ y wh, r = some (y, wh) ∧ ok = true ∧ y.V w' (Lo w'.heap.size) x
def NarAE (r : Nar × Int) (w : World) (e : Ending) (w' : World) : Prop := Below w.heap.size w w' ∧ ∃ x ok, e = .returned (.tuple #[x, .bool ok, .int .i64 r.2]) ∧ NarFin r.1 ok x w'
section
variable (v : Tm) (x : Value) (t : Ty) (cs : Array Value) (B : Nat) (w : World)
set_option maxRecDepth 100000 in
set_option maxHeartbeats 2000000 in
theorem Narrow_any (hB : B ≤ w.heap.size) (hv : v.V w (Lo B) x) (ht : t.In w (Lo B) cs) : Calls Try.prog 13 #[x, .agg cs] w (NarAE (Sp.narA v t) w) := by
  unfold NarAE
  obtain ⟨hsz, -⟩ := Ty.In_cells ht
  have hs : ∀ W, Below w.heap.size w W → Same (Lo B) w W := fun W hW k hk => hW.block k (Nat.lt_of_lt_of_le hk hB)
  have HBW : Hid (Below w.heap.size w (w.alloc (.cells cs 34))) := (Below.refl _ _).alloc (Nat.le_refl _) _
  have HL : Hid ((loadVar 34 ⟨w.heap.size, 0, none⟩).run Try.prog (w.alloc (.cells cs 34)) = .ok (.agg cs) (w.alloc (.cells cs 34))) := yld hsz (heap_alloc_new w _)
  have hv0 := v.V_same (hs _ HBW.out) (fun _ h => h) x hv
  have ht0 := t.In_same (hs _ HBW.out) (fun _ h => h) cs ht
  have hB0 : B ≤ (w.alloc (.cells cs 34)).heap.size := Nat.le_trans hB HBW.out.size
  by_cases he : v.all.e ≠ 0
  · have HR : Hid (Calls Try.prog 19 #[x, .agg cs] (w.alloc (.cells cs 34)) fun e w' => e = .returned (.tuple #[.nilIface, .pointer none, .int .i64 v.all.e]) ∧ Below (w.alloc (.cells cs 34)).heap.size (w.alloc (.cells cs 34)) w') := ready_err v x cs B _ hB0 hv0 he
    have HX : Sp.narA v t = (none, v.all.e) := by unfold Sp.narA; rw [if_pos he]
    rw [HX]
    have he' := ne_bool he
    clear hv ht hv0 ht0 hB hB0 hs HX he
    generalize v.all.e = q at *
    go_enter Try.func13, Try.ntmps13
    go_wp2_with ((with_reducible refine ld_row ?_ ?_ HL.out ?_); rfl; rfl)
    refine HR.out.mono ?_
    rintro e w1 ⟨rfl, hb1⟩
    have H1 : Hid (Below w.heap.size w w1) := HBW.out.trans (hb1.mono (by simp))
    clear hb1
    go_wp2_with fail
    go_ret3
    exact ⟨H1.out, .nilIface, false, rfl, .inl ⟨rfl, rfl, rfl⟩⟩
  · have he0 := Decidable.not_not.1 he
    cases hc : t.can with
    | false =>
      have HR : Hid (Calls Try.prog 19 #[x, .agg cs] (w.alloc (.cells cs 34)) fun e w' => e = .returned (.tuple #[.nilIface, .pointer none, .int .i64 70]) ∧ Below (w.alloc (.cells cs 34)).heap.size (w.alloc (.cells cs 34)) w') := ready_no v x t cs B _ hB0 hv0 ht0 he0 hc
      have HX : Sp.narA v t = (none, 70) := by unfold Sp.narA; rw [if_neg he, if_pos hc]
      rw [HX]
      clear hv ht hv0 ht0 hB hB0 hs HX he he0 hc
      go_enter Try.func13, Try.ntmps13
      go_wp2_with ((with_reducible refine ld_row ?_ ?_ HL.out ?_); rfl; rfl)
      refine HR.out.mono ?_
      rintro e w1 ⟨rfl, hb1⟩
      have H1 : Hid (Below w.heap.size w w1) := HBW.out.trans (hb1.mono (by simp))
      clear hb1
      go_wp2_with fail
      go_ret3
      exact ⟨H1.out, .nilIface, false, rfl, .inl ⟨rfl, rfl, rfl⟩⟩
    | true =>
      have HR : Hid (Calls Try.prog 19 #[x, .agg cs] (w.alloc (.cells cs 34)) fun e w' => ∃ v' b, e = .returned (.tuple #[v', .pointer (some ⟨b, 0, none⟩), .int .i64 0]) ∧ Below (w.alloc (.cells cs 34)).heap.size (w.alloc (.cells cs 34)) w' ∧ v.V w' (Lo w'.heap.size) v' ∧ t.Sh w' (Lo w'.heap.size) b) := ready_ok v x t cs B _ hB0 hv0 ht0 he0 hc
      have HX : Sp.narA v t = (t.nar v, 0) := by unfold Sp.narA; rw [if_neg he, if_neg (by rw [hc]; decide)]
      rw [HX]
      have HHH : Hid (∀ v' b W, v.V W (Lo W.heap.size) v' → t.Sh W (Lo W.heap.size) b → Calls Try.prog 27 #[.pointer (some ⟨b, 0, none⟩), v'] W (NarE (t.nar v) W.heap.size W)) := fun v' b W h1 h2 => narrow_any t.sz t (Nat.le_refl _) (Ty.can_ok hc).1 v v' b W.heap.size W he0 h1 h2 (Nat.le_refl _)
      clear hv ht hv0 ht0 hB hB0 hs HX he he0 hc
      generalize t.nar v = r at *
      go_enter Try.func13, Try.ntmps13
      go_wp2_with ((with_reducible refine ld_row ?_ ?_ HL.out ?_); rfl; rfl)
      refine HR.out.mono ?_
      rintro e w1 ⟨v', b, rfl, hb1, hv1, hsh⟩
      have H1 : Hid (Below w.heap.size w w1 ∧ w.heap.size ≤ w1.heap.size) := ⟨HBW.out.trans (hb1.mono (by simp)), by have := hb1.size; simp at this; omega⟩
      have HG := HHH.out v' b w1 hv1 hsh
      have HG : Hid _ := HG
      clear hb1 hv1 hsh
      go_wp2_with fail
      refine (show Calls _ _ _ _ _ from HG.out).mono ?_
      rintro e w2 ⟨hb2, xr, ok, wh, rfl, hR⟩
      have hshr := hR.shape
      have H2 : Hid (∀ o n, Below w.heap.size w ((w2.alloc o).drewN n)) := fun o n => (below_to H1.out.1 (hb2.alloc hb2.size _)).trans (below_drewN' _ _ n)
      have H3 : Hid (∀ o, (r = none ∧ ok = false ∧ xr = .nilIface) ∨ ∃ y wh, r = some (y, wh) ∧ ok = true ∧ y.V (w2.alloc o) (Lo (w2.alloc o).heap.size) xr) := fun o => by
        rcases hR with ⟨q1, q2, q3, q4⟩ | ⟨y, q1, q2, q3⟩
        · exact .inl ⟨q1, q2, q4⟩
        · refine .inr ⟨y, wh, q1, q2, y.V_same (fun k hk => Below.heap_alloc _ _ _ ?_) (fun k hk => ?_) xr q3⟩
          · rcases hk with hk | hk
            · exact Nat.lt_of_lt_of_le hk hb2.size
            · exact hk.2
          · show k < (w2.alloc o).heap.size
            simp only [World.size_alloc]
            rcases hk with hk | hk
            · have : k < w1.heap.size := hk
              have := hb2.size
              omega
            · have := hk.2; omega
      have H4 : Hid (∀ o n, NarFin r ok xr ((w2.alloc o).drewN n)) := fun o n => by
        have hd := below_drewN' (w2.alloc o).heap.size (w2.alloc o) n
        rcases H3.out o with q | ⟨y, wh, q1, q2, q3⟩
        · exact .inl q
        · exact .inr ⟨y, wh, q1, q2, y.V_same (fun k hk => hd.block k hk) (fun k hk => Nat.lt_of_lt_of_le hk hd.size) xr q3⟩
      clear hb2 hR H3
      rcases hshr with rfl | ⟨T0, y0, rfl⟩
      all_goals
        go_wp2_with fail
        go_quiet (fail)
        go_wp2_with fail
        go_ret3
        exact ⟨H2.out _ _, _, _, rfl, H4.out _ _⟩
end
end Go.Proofs.Ytcfcnijldnbbnaa

