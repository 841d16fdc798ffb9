/- value.copyOf, whole; value.Copy. -/
import Derived.Test.YtjlhmgopmdcopaaGreatKI17
import Derived.Test.YtjlhmgopmdcopaaGreatKI6
namespace Go.Proofs.YtjlhmgopmdcopaaGreat
open Go.RowKit

set_option maxRecDepth 100000 in
set_option maxHeartbeats 400000 in
theorem cof_1 (w : World) : Calls Tryz.prog 91 #[.nilIface] w fun e w' => e = .returned (.nilIface) ∧ Below w.heap.size w w' := by
  go_enter Tryz.func91, Tryz.ntmps91
  go_wp2_with fail
  go_ret
  exact ⟨rfl, Below.refl _ _⟩
set_option maxRecDepth 100000 in
set_option maxHeartbeats 400000 in
theorem cof_2 (b : Bool) (w : World) : Calls Tryz.prog 91 #[.iface 4 (.bool b)] w fun e w' => e = .returned (.iface 4 (.bool b)) ∧ Below w.heap.size w w' := by
  go_enter Tryz.func91, Tryz.ntmps91
  go_wp2_with fail
  go_ret
  exact ⟨rfl, Below.refl _ _⟩
set_option maxRecDepth 100000 in
set_option maxHeartbeats 400000 in
theorem cof_3 (i : Int) (w : World) : Calls Tryz.prog 91 #[.iface 2 (.int .i64 i)] w fun e w' => e = .returned (.iface 2 (.int .i64 i)) ∧ Below w.heap.size w w' := by
  go_enter Tryz.func91, Tryz.ntmps91
  go_wp2_with fail
  go_ret
  exact ⟨rfl, Below.refl _ _⟩
set_option maxRecDepth 100000 in
set_option maxHeartbeats 400000 in
theorem cof_4 (f : Nat) (w : World) : Calls Tryz.prog 91 #[.iface 22 (.float .f64 f)] w fun e w' => e = .returned (.iface 22 (.float .f64 f)) ∧ Below w.heap.size w w' := by
  go_enter Tryz.func91, Tryz.ntmps91
  go_wp2_with fail
  go_ret
  exact ⟨rfl, Below.refl _ _⟩
set_option maxRecDepth 100000 in
set_option maxHeartbeats 400000 in
theorem cof_7 (rf : Int) (w : World) : Calls Tryz.prog 91 #[.iface 25 (.int .u64 rf)] w fun e w' => e = .returned (.iface 25 (.int .u64 rf)) ∧ Below w.heap.size w w' := by
  go_enter Tryz.func91, Tryz.ntmps91
  go_wp2_with fail
  go_ret
  exact ⟨rfl, Below.refl _ _⟩
set_option maxRecDepth 100000 in
set_option maxHeartbeats 400000 in
theorem cof_5 (s : ByteArray) (w : World) (hs : s.size ≤ 140737488355328) : Calls Tryz.prog 91 #[.iface 9 (.string s)] w fun e w' => e = .returned (.iface 9 (.string s)) ∧ Below w.heap.size w w' := by
  go_enter Tryz.func91, Tryz.ntmps91
  go_wp2_with (go_at_call 94; refine (sClone_any s _ hs).mono ?_; rintro e w1 ⟨rfl, hb1⟩)
  go_ret
  exact ⟨rfl, hb1⟩
set_option maxRecDepth 100000 in
set_option maxHeartbeats 400000 in
theorem cof_6 (ab : Option Addr) (L : ByteArray) (cb : Nat) (B : Nat → Prop) (w : World) (hB : Sub B w) (hl : BytesAt w B ab L) (hs : L.size ≤ 140737488355328) : Calls Tryz.prog 91 #[.iface 23 (.slice ab L.size cb)] w fun e w' => ∃ a cap, e = .returned (.iface 23 (.slice a L.size cap)) ∧ Below w.heap.size w w' ∧ BytesLV w' (Fr w w') a L cap := by
  have HC : Hid (Calls Tryz.prog 104 #[.slice ab L.size cb] w fun e w' => ∃ a cap, e = .returned (.slice a L.size cap) ∧ Below w.heap.size w w' ∧ BytesLV w' (Fr w w') a L cap) := bClone_any L ab cb B w hB hl hs
  clear hl
  go_enter Tryz.func91, Tryz.ntmps91
  go_wp2_with (go_at_call 104; refine HC.out.mono ?_; rintro e w1 ⟨a, cap, rfl, hb1, hl1⟩)
  go_ret
  exact ⟨_, _, rfl, hb1, hl1⟩
set_option maxRecDepth 100000 in
set_option maxHeartbeats 400000 in
theorem cof_9 (al : Option Addr) (L : TmF) (cl : Nat) (w : World) (h : Calls Tryz.prog 105 #[.slice al L.len cl] w fun e w' => ∃ a cap, e = .returned (.slice a L.len cap) ∧ Below w.heap.size w w' ∧ L.LV w' (Fr w w') a cap) :
    Calls Tryz.prog 91 #[.iface 57 (.slice al L.len cl)] w fun e w' => ∃ a cap, e = .returned (.iface 57 (.slice a L.len cap)) ∧ Below w.heap.size w w' ∧ L.LV w' (Fr w w') a cap := by
  have HC : Hid (Calls Tryz.prog 105 #[.slice al L.len cl] w fun e w' => ∃ a cap, e = .returned (.slice a L.len cap) ∧ Below w.heap.size w w' ∧ L.LV w' (Fr w w') a cap) := h
  clear h
  go_enter Tryz.func91, Tryz.ntmps91
  go_wp2_with (go_at_call 105; refine HC.out.mono ?_; rintro e w1 ⟨a, cap, rfl, hb1, hl1⟩)
  go_ret
  exact ⟨_, _, rfl, hb1, hl1⟩
set_option maxRecDepth 100000 in
set_option maxHeartbeats 1000000 in
theorem cof_10 (g : Nat) (s : ByteArray) (vr : Int) (al : Option Addr) (L : TmF) (cl : Nat) (w : World) (hg : g < w.heap.size) (c0 : w.cell? ⟨g, 0, none⟩ = some (.string s)) (c1 : w.cell? ⟨g, 1, none⟩ = some (.int .i64 vr)) (c2 : w.cell? ⟨g, 2, none⟩ = some (.slice al L.len cl)) (hs : s.size ≤ 140737488355328)
    (h : ∀ W, Below w.heap.size w W → Calls Tryz.prog 105 #[.slice al L.len cl] W fun e w' => ∃ a cap, e = .returned (.slice a L.len cap) ∧ Below W.heap.size W w' ∧ L.LV w' (Fr W w') a cap) :
    Calls Tryz.prog 91 #[.iface 31 (.pointer (some ⟨g, 0, none⟩))] w fun e w' => ∃ g' a cap, e = .returned (.iface 31 (.pointer (some ⟨g', 0, none⟩))) ∧ Below w.heap.size w w' ∧ Fr w w' g' ∧ w'.cell? ⟨g', 0, none⟩ = some (.string s) ∧ w'.cell? ⟨g', 1, none⟩ = some (.int .i64 vr) ∧ w'.cell? ⟨g', 2, none⟩ = some (.slice a L.len cap) ∧ L.RV w' (Fr w w') g' a cap := by
  have HD : Hid _ := h
  have HX : Hid (∀ W, Below w.heap.size w W → W.cell? ⟨g, 0, none⟩ = some (.string s) ∧ W.cell? ⟨g, 1, none⟩ = some (.int .i64 vr) ∧ W.cell? ⟨g, 2, none⟩ = some (.slice al L.len cl)) := fun W hW => ⟨by rw [hW.cell (p := ⟨g, 0, none⟩) hg]; exact c0, by rw [hW.cell (p := ⟨g, 1, none⟩) hg]; exact c1, by rw [hW.cell (p := ⟨g, 2, none⟩) hg]; exact c2⟩
  go_enter Tryz.func91, Tryz.ntmps91
  go_wp2_with fail
  clear h
  go_region_held3 (fun W => W.cell? ⟨g, 0, none⟩ = some (.string s) ∧ W.cell? ⟨g, 1, none⟩ = some (.int .i64 vr) ∧ W.cell? ⟨g, 2, none⟩ = some (.slice al L.len cl))
    (first | with_reducible exact HX.out _ HB2.out | with_reducible exact HX.out _ (HB2.out.alloc HB2.out.size _) | with_reducible exact HX.out _ HB1.out | with_reducible exact HX.out _ (Below.refl _ _) | with_reducible exact HX.out _ (Below.refl _ _).drew)
    ((first
      | (go_at_call 94; refine (sClone_any s _ hs).mono ?_; rintro e w1 ⟨rfl, hb1⟩; have HB1 : Hid (Below w.heap.size w w1) := below_to (Below.refl _ _).drew hb1; clear hb1)
      | (go_at_call 105; refine (HD.out _ ?_).mono ?_; exact HB1.out; rintro e w2 ⟨a, cap, rfl, hb2, hv⟩; have HB2 : Hid (Below w.heap.size w w2) := below_to HB1.out hb2; have HV : Hid (L.LV w2 (Fr w w2) a cap) := L.LV_same (Same.refl _ _) (fun k hk => ⟨Nat.le_trans HB1.out.size hk.1, hk.2⟩) a cap hv; clear hb2 hv)))
  go_wp2_with fail
  go_ret
  have hz := HB2.out.size
  refine ⟨w2.heap.size, a, cap, rfl, HB2.out.alloc (by omega) _, ⟨by omega, by simp⟩, by simp, by simp, by simp, ⟨_, heap_alloc_new _ _⟩, L.LV_same (B' := Fr w (w2.alloc _)) (fun k hk => Below.heap_alloc _ _ _ hk.2) (fun k hk => ⟨hk.1, by have := hk.2; simp; omega⟩) a cap HV.out⟩

set_option maxHeartbeats 1000000 in
theorem copyOf_any (N : Nat) : CopC N := by
  induction N with
  | zero => intro t ht; cases t; simp [Tm.sz] at ht
  | succ N ih =>
    intro t hN v B w hv hB ho
    cases t with
    | mk k b i f tx by' rf l fs c vr =>
      have hlN : l.sz ≤ N ∧ fs.sz ≤ N := by simp [Tm.sz] at hN; omega
      obtain ⟨p1, p2, p3, p4⟩ := ho.parts
      obtain ⟨q1, q2, q3, q4, q5⟩ := ho.bounds
      simp only [Tm.V] at hv
      obtain ⟨h1, h2, h3, h4, h5, h6, h7, h8, h9, h10, h11, h12⟩ := hv
      have HF : ∀ (hk : k = 9 ∨ k = 10) (al : Option Addr) (cl : Nat), fs.V w B al 0 → ∀ W, Below w.heap.size w W → Calls Tryz.prog 105 #[.slice al fs.len cl] W fun e w' => ∃ a cap, e = .returned (.slice a fs.len cap) ∧ Below W.heap.size W w' ∧ fs.LV w' (Fr W w') a cap := fun hk al cl hfs W hW =>
        copyDict_any N ih al fs cl W hlN.2 B (hB.later hW) (fs.V_same (hB.same hW) (fun _ h => h) al 0 hfs) (TmF.nm (q4 hk)).1 (TmF.nm (q4 hk)).2 (p4 hk)
      by_cases k1 : k = 1
      · subst k1; rw [h1 rfl]; refine (cof_1 w).mono ?_
        rintro e w' ⟨rfl, hb⟩; exact ⟨_, rfl, hb, by simp [Tm.V]⟩
      by_cases k2 : k = 2
      · subst k2; rw [h2 rfl]; refine (cof_2 b w).mono ?_
        rintro e w' ⟨rfl, hb⟩; exact ⟨_, rfl, hb, by simp [Tm.V]⟩
      by_cases k3 : k = 3
      · subst k3; rw [h3 rfl]; refine (cof_3 i w).mono ?_
        rintro e w' ⟨rfl, hb⟩; exact ⟨_, rfl, hb, by simp [Tm.V]⟩
      by_cases k4 : k = 4
      · subst k4; rw [(h4 rfl).1]; refine (cof_4 f w).mono ?_
        have hf := (h4 rfl).2
        rintro e w' ⟨rfl, hb⟩; exact ⟨_, rfl, hb, by simp [Tm.V, hf]⟩
      by_cases k5 : k = 5
      · subst k5; rw [(h5 rfl).1]; refine (cof_5 tx w (by have := q1 rfl; omega)).mono ?_
        have hf := (h5 rfl).2
        rintro e w' ⟨rfl, hb⟩; exact ⟨_, rfl, hb, by simp [Tm.V, hf]⟩
      by_cases k6 : k = 6
      · subst k6
        obtain ⟨a, cap, rfl, -, hby⟩ := h6 rfl
        refine (cof_6 a by' cap B w hB hby (by have := q2 rfl; omega)).mono ?_
        rintro e w' ⟨a', cap', rfl, hb, hv⟩; exact ⟨_, rfl, hb, Tm.V_of6 hv⟩
      by_cases k7 : k = 7
      · subst k7; rw [h7 rfl]; refine (cof_7 rf w).mono ?_
        rintro e w' ⟨rfl, hb⟩; exact ⟨_, rfl, hb, by simp [Tm.V]⟩
      by_cases k8 : k = 8
      · subst k8
        obtain ⟨a, cap, rfl, ⟨hm, -⟩, hl⟩ := h8 rfl
        refine (cof_8 N ih a l cap w hlN.1 B hB hl (q3 rfl) (p3 rfl)).mono ?_
        rintro e w' ⟨a', cap', rfl, hb, hv⟩; exact ⟨_, rfl, hb, Tm.V_of8 hv⟩
      by_cases k9 : k = 9
      · subst k9
        obtain ⟨a, cap, rfl, ⟨hm, -⟩, hl⟩ := h9 rfl
        refine (cof_9 a fs cap w (HF (.inl rfl) a cap hl w (Below.refl _ _))).mono ?_
        rintro e w' ⟨a', cap', rfl, hb, hv⟩; exact ⟨_, rfl, hb, Tm.V_of9 hv⟩
      have k10 : k = 10 := by clear h1 h2 h3 h4 h5 h6 h7 h8 h9 h10 h11 h12 HF; omega
      subst k10
      obtain ⟨g, a, cap, rfl, hg, c0, c1, c2, ⟨hcl, -⟩, ⟨hm, -⟩, hl⟩ := h10 rfl
      have hcs := head_len (q5 rfl)
      refine (cof_10 g c vr a fs cap w (hB g hg) c0 c1 c2 (by omega) (HF (.inr rfl) a cap hl)).mono ?_
      rintro e w' ⟨g', a', cap', rfl, hb, hg', d0, d1, d2, hv⟩
      exact ⟨_, rfl, hb, Tm.V_of10 hg' d0 d1 d2 hcl hv⟩

set_option maxRecDepth 100000 in
set_option maxHeartbeats 400000 in
theorem Copy_ok (t : Tm) (v : Value) (B : Nat) (w : World) (hB : B ≤ w.heap.size) (h : t.V w (Lo B) v) (he : t.all.e = 0) :
    Calls Tryz.prog 64 #[v] w fun e w' => ∃ v', e = .returned (.tuple #[v', .int .i64 0]) ∧ Below w.heap.size w w' ∧ t.V w' (Fr w w') v' := by
  have HC : Hid (Calls Tryz.prog 6 #[v] w fun e w' => e = .returned (.tuple #[.int .i64 t.cAt, .int .i64 0]) ∧ Below w.heap.size w w') := by
    have := Check_any t v B w hB h; rw [he] at this; exact this
  have HV : Hid (∀ W, Below w.heap.size w W → Calls Tryz.prog 91 #[v] W fun e w' => ∃ v', e = .returned v' ∧ Below W.heap.size W w' ∧ t.V w' (Fr W w') v') := fun W hW =>
    copyOf_any t.sz t (Nat.le_refl _) v (Lo B) W (t.V_same (Same.of_below hW hB) (fun _ h => h) v h) (Sub.lo (Nat.le_trans hB hW.size)) (Tm.ok_all he)
  clear he h
  go_enter Tryz.func64, Tryz.ntmps64
  go_wp2_with (first
    | (go_at_call 6; refine HC.out.mono ?_; rintro e w1 ⟨rfl, hb1⟩; have HB1 : Hid _ := hb1; clear hb1)
    | (go_at_call 91; refine (HV.out _ HB1.out).mono ?_; rintro e w2 ⟨v', rfl, hb2, hv2⟩; have HB2 : Hid _ := hb2; have HV2 : Hid _ := hv2; clear hb2 hv2))
  go_ret2
  exact ⟨v', rfl, below_to HB1.out HB2.out, t.V_same (Same.refl _ _) (fun k hk => ⟨Nat.le_trans HB1.out.size hk.1, hk.2⟩) v' HV2.out⟩
end Go.Proofs.YtjlhmgopmdcopaaGreat

