/- tenonlaw14.GraphWalks returns true. -/
import Derived.Test.YtghfikeakfiopaaK34
import Derived.Test.YtghfikeakfiopaaK15
namespace Go.Proofs.Ytghfikeakfiopaa
open Go.RowKit Go.ChangeMaps

theorem RefsAt.mono' {w : World} {B B' : Nat} {a : Option Addr} {l : List Int} (h : RefsAt w B a l) (hb : B ≤ B') : RefsAt w B' a l := ⟨h.row.same (fun _ _ => rfl) (fun _ hk => Nat.lt_of_lt_of_le hk hb), h.nil, h.bd⟩
theorem WrE.len {w w' : World} {vb : Nat} {eE eL : Value} {P : Int} {N : List Int} {nx : Nat → List Nat} {En Le : List Bool} {l : List Int} (h : WrE w vb eE eL P N nx En Le l w') : w.heap.size ≤ w'.heap.size := by
  obtain ⟨_, _, _, _, _, _, _, _, _, _, _, h, _⟩ := h
  exact h.size
set_option maxRecDepth 100000 in
set_option maxHeartbeats 16000000 in
theorem GraphWalks_any (a : Option Addr) (cap : Nat) (nodes : List Int) (a2 : Option Addr) (cap2 : Nat) (E : List (Int × Int)) (a3 : Option Addr) (cap3 : Nat) (fr : List Int) (aE : Option Addr) (cE : Nat) (En : List Bool) (aL : Option Addr) (cL : Nat) (Le : List Bool) (P : Int) (w : World)
    (h1 : RefsAt w w.heap.size a nodes) (h2 : EdgesAt w w.heap.size a2 E) (h3 : RefsAt w w.heap.size a3 fr) (hE : BlsIn w aE En) (hL : BlsIn w aL Le) (hl1 : nodes.length * 8 ≤ 140737488355328) (hl2 : E.length * 16 ≤ 140737488355328) (hl3 : fr.length * 8 ≤ 140737488355328) (hle : En.length ≤ 140737488355328) (hll : Le.length ≤ 140737488355328) :
    Calls Try.prog 3 #[.slice a nodes.length cap, .slice a2 E.length cap2, .slice a3 fr.length cap3, .slice aE En.length cE, .slice aL Le.length cL, .int .i64 P] w fun e w' => e = .returned (.bool true) ∧ Below w.heap.size w w' := by
  have hmf : ∀ (fn : Fn) (first cap : Array Value) (w : World), (Instr.makeFunc fn first cap).run Try.prog w = .ok (.func fn first cap) w := fun _ _ _ _ => rfl
  have HH : Hid (RefsAt w w.heap.size a nodes ∧ EdgesAt w w.heap.size a2 E ∧ RefsAt w w.heap.size a3 fr ∧ BlsIn w aE En ∧ BlsIn w aL Le) := ⟨h1, h2, h3, hE, hL⟩
  have HLN : Hid (nodes.length * 8 ≤ 140737488355328 ∧ E.length * 16 ≤ 140737488355328 ∧ fr.length * 8 ≤ 140737488355328 ∧ En.length ≤ 140737488355328 ∧ Le.length ≤ 140737488355328) := ⟨hl1, hl2, hl3, hle, hll⟩
  clear h1 h2 h3 hE hL hl1 hl2 hl3 hle hll
  -- the three boxes
  obtain ⟨w3, hw3⟩ : ∃ w3, ((w.alloc (.cells #[.slice aE En.length cE] 24)).alloc (.cells #[.slice aL Le.length cL] 24)).alloc (.cells #[.int .i64 P] 3) = w3 := ⟨_, rfl⟩
  have H3 : Hid (Below w.heap.size w w3 ∧ w3.heap.size = w.heap.size + 3 ∧ w3.heap[w.heap.size]? = some (.cells #[.slice aE En.length cE] 24 (0, 0)) ∧ w3.heap[w.heap.size + 1]? = some (.cells #[.slice aL Le.length cL] 24 (0, 0)) ∧ w3.heap[w.heap.size + 2]? = some (.cells #[.int .i64 P] 3 (0, 0))) := by
    rw [← hw3]
    refine ⟨(((Below.refl _ _).alloc (Nat.le_refl _) _).alloc (by rw [al_size]; omega) _).alloc (by rw [al_size, al_size]; omega) _, by rw [al_size, al_size, al_size], ?_, ?_, ?_⟩
    · rw [Below.heap_alloc _ _ _ (by rw [al_size, al_size]; omega), Below.heap_alloc _ _ _ (by rw [al_size]; omega)]; exact al_at _ _ _
    · rw [Below.heap_alloc _ _ _ (by rw [al_size, al_size]; omega)]; have := al_at (w.alloc (.cells #[.slice aE En.length cE] 24)) (.slice aL Le.length cL) 24; rw [al_size] at this; exact this
    · have := al_at ((w.alloc (.cells #[.slice aE En.length cE] 24)).alloc (.cells #[.slice aL Le.length cL] 24)) (.int .i64 P) 3; rw [al_size, al_size] at this; exact this
  have hmd := made_any a cap nodes a2 cap2 E w.heap.size w3 (HH.out.1.keep H3.out.1) (HH.out.2.1.keep fun k hk => H3.out.1.block k hk) (by have := H3.out.2.1; omega) HLN.out.1 HLN.out.2.1
  go_enter Try.func3, Try.ntmps3
  go_wp2_with fail
  clear hw3
  refine hmd.mono ?_
  rintro e w4 ⟨p, d, rfl, hmE⟩
  have HM : Hid (MdE w3 nodes E p d w4) := hmE
  have H4 : Hid (Below w.heap.size w w4) := H3.out.1.trans (hmE.1.mono H3.out.1.size)
  have H34 : Hid (Below w3.heap.size w3 w4) := hmE.1
  clear hmE hmd
  by_cases hk : Sp.mkE nodes E ≠ 0
  · obtain ⟨rfl, rfl⟩ := HM.out.2.1 hk
    clear hk
    go_wp2_with fail
    go_ret
    refine ⟨rfl, ?_⟩
    exact H4.out.alloc H4.out.size (.cells #[.bool true] 4)
  have hk0 : Sp.mkE nodes E = 0 := Classical.byContradiction fun h => hk h
  clear hk
  obtain ⟨gb, db, rfl, rfl, hGE, hRE⟩ := HM.out.2.2 hk0
  have HRN : Hid (nodes.length ≤ 4096 ∧ nodes.Nodup) := by
    refine ⟨?_, ?_⟩
    · apply Classical.byContradiction; intro h
      unfold Sp.mkE at hk0; rw [if_pos (.inl (by omega))] at hk0; cases hk0
    · apply Classical.byContradiction; intro h
      unfold Sp.mkE at hk0
      split at hk0
      · cases hk0
      · rw [if_pos (.inr h)] at hk0; cases hk0
  have HG : Hid (GrE w4 (fun k => w3.heap.size ≤ k ∧ k < w4.heap.size) gb (Sp.srt nodes) (Sp.nx (Sp.srt nodes) E)) := hGE
  have HR : Hid (RgE w4 (fun k => w3.heap.size ≤ k ∧ k < w4.heap.size) db (Sp.srt nodes) (Sp.nx (Sp.srt nodes) E)) := hRE
  have HN : Hid ((Sp.srt nodes).length ≤ 4096 ∧ (Sp.srt nodes).Pairwise (· < ·)) := ⟨by rw [srt_len]; exact HRN.out.1, srt_lt HRN.out.2⟩
  clear hGE hRE hk0 HM HRN
  obtain ⟨N, hN⟩ : ∃ N, Sp.srt nodes = N := ⟨_, rfl⟩
  obtain ⟨nx, hnx⟩ : ∃ nx, Sp.nx N E = nx := ⟨_, rfl⟩
  rw [hN] at HG HR HN
  rw [hnx] at HG HR
  have HNX : Hid ((∀ t, t < N.length → (nx t).length ≤ 4096) ∧ ∀ t, t < N.length → ∀ j ∈ nx t, j < N.length) := by
    rw [← hnx]
    exact ⟨fun t _ => Nat.le_trans (by unfold Sp.nx; exact List.length_filter_le _ _) (by simp; exact HN.out.1), fun t _ j hj => (nx_mem.1 hj).1⟩
  clear hN hnx
  -- ok, the visit
  have h34 := H34.out.size
  have h3s := H3.out.2.1
  have hws := H4.out.size
  have hxq : ∀ k, k < w3.heap.size → w4.heap[k]? = w3.heap[k]? := fun k hk => H34.out.block k hk
  obtain ⟨X1, hX1⟩ : ∃ X1, w4.alloc (.cells #[.bool true] 4) = X1 := ⟨_, rfl⟩
  have s1 : X1.heap.size = w4.heap.size + 1 := by rw [← hX1, al_size]
  have k1 : X1.heap[w4.heap.size]? = some (.cells #[.bool true] 4 (0, 0)) := by rw [← hX1]; exact al_at _ _ _
  have b1 : Below w4.heap.size w4 X1 := by rw [← hX1]; exact (Below.refl w4.heap.size w4).alloc (Nat.le_refl _) _
  obtain ⟨X2, hX2⟩ : ∃ X2, X1.alloc (.cells #[.slice aE En.length cE, .slice aL Le.length cL, .int .i64 P, .slice none 0 0, .slice none 0 0, .int .i64 0, .int .i64 0, .bool false, .int .i64 0] 33) = X2 := ⟨_, rfl⟩
  have s2 : X2.heap.size = w4.heap.size + 2 := by rw [← hX2, al_size, s1]
  have k2 : X2.heap[w4.heap.size + 1]? = some (.cells (vcC (.slice aE En.length cE) (.slice aL Le.length cL) P none 0 0 (.slice none 0 0) (.int .i64 0) (.int .i64 0) false 0) 33 (0, 0)) := by rw [← hX2, ← s1]; exact heap_alloc_new _ _
  have b2 : Below w4.heap.size w4 X2 := by rw [← hX2]; exact b1.alloc b1.size _
  obtain ⟨w6, hw6⟩ : ∃ w6, X2.alloc (.cells #[.pointer (some ⟨w4.heap.size + 1, 0, none⟩)] 29) = w6 := ⟨_, rfl⟩
  have b3 : Below w4.heap.size w4 w6 := by rw [← hw6]; exact b2.alloc b2.size _
  have H6 : Hid (Below w4.heap.size w4 w6 ∧ w6.heap.size = w4.heap.size + 3 ∧ w6.heap[w4.heap.size]? = some (.cells #[.bool true] 4 (0, 0)) ∧ w6.heap[w4.heap.size + 1]? = some (.cells (vcC (.slice aE En.length cE) (.slice aL Le.length cL) P none 0 0 (.slice none 0 0) (.int .i64 0) (.int .i64 0) false 0) 33 (0, 0)) ∧ w6.heap[w4.heap.size + 1 + 1]? = some (.cells #[.pointer (some ⟨w4.heap.size + 1, 0, none⟩)] 29 (0, 0))) := by
    refine ⟨b3, by rw [← hw6, al_size, s2], ?_, ?_, ?_⟩
    · rw [← hw6, Below.heap_alloc _ _ _ (by omega), ← hX2, Below.heap_alloc _ _ _ (by omega)]; exact k1
    · rw [← hw6, Below.heap_alloc _ _ _ (by omega)]; exact k2
    · rw [← hw6, show w4.heap.size + 1 + 1 = X2.heap.size by omega]; exact al_at _ _ _
  have bx : ∀ k v t, k < w3.heap.size → w3.heap[k]? = some (.cells #[v] t (0, 0)) → X1.cell? ⟨k, 0, none⟩ = some v := fun k v t hk h => by
    have e : X1.heap[k]? = some (.cells #[v] t (0, 0)) := by rw [b1.block k (by omega), hxq k hk]; exact h
    simp [World.cell?, e]
  have HW6 : Hid (((w4.alloc (.cells #[.bool true] 4)).alloc (.cells #[.slice aE En.length cE, .slice aL Le.length cL, .int .i64 P, .slice none 0 0, .slice none 0 0, .int .i64 0, .int .i64 0, .bool false, .int .i64 0] 33)).alloc (.cells #[.pointer (some ⟨w4.heap.size + 1, 0, none⟩)] 29) = w6) := by show _ = _; rw [hX1, hX2, hw6]
  have q9 : (w4.alloc (.cells #[.bool true] 4)).cell? ⟨w.heap.size, 0, none⟩ = some (.slice aE En.length cE) := by rw [hX1]; exact bx _ _ _ (by omega) H3.out.2.2.1
  have q10 : (w4.alloc (.cells #[.bool true] 4)).cell? ⟨w.heap.size + 1, 0, none⟩ = some (.slice aL Le.length cL) := by rw [hX1]; exact bx _ _ _ (by omega) H3.out.2.2.2.1
  have q11 : (w4.alloc (.cells #[.bool true] 4)).cell? ⟨w.heap.size + 1 + 1, 0, none⟩ = some (.int .i64 P) := by rw [hX1]; exact bx _ _ _ (by omega) H3.out.2.2.2.2
  have HV0 := H6.out.2.2.2.1
  have h6s := H6.out.1.size
  have h06 : Below w.heap.size w w6 := H4.out.trans (H6.out.1.mono hws)
  obtain ⟨gn, cn, ge, ce, lo, xb, bl, cp, hrg⟩ := HR.out
  have hin := hrg.ins
  have hz6 := H6.out.2.1
  have hSt : VSt w6 (w4.heap.size + 1) db N gn cn nx lo xb bl cp aE En aL Le := by
    have hr6 := hrg.keep (w' := w6) fun k hk => H6.out.1.block k hk.2
    exact ⟨⟨by simp [World.cell?, hr6.cells], hr6.nds⟩, by simp [World.cell?, hr6.cells], hr6.nxt, ⟨by have := hin.1; omega, by omega⟩, ⟨by have := hin.1; omega, fun g hg => by have := hin.2.2.1 g hg; omega, by have := hin.2.1; omega, fun t g ht hg => by have := hin.2.2.2.2 t g ht hg; omega⟩, HH.out.2.2.2.1.at' h06 (by omega), HH.out.2.2.2.2.at' h06 (by omega), HNX.out.2, HN.out.1, HNX.out.1⟩
  have hwr := Walk_ref (w4.heap.size + 1) db N gn cn nx lo xb bl cp aE En cE aL Le cL P a3 cap3 fr w6 hSt HN.out.2 HV0 ((HH.out.2.2.1.keep h06).mono' h06.size) HLN.out.2.2.1
  have H06 : Hid (Below w.heap.size w w6) := h06
  have HXQ : Hid (∀ k, k < w3.heap.size → w6.heap[k]? = w3.heap[k]?) := fun k hk => (H6.out.1.block k (by omega)).trans (hxq k hk)
  have HSZ : Hid (w.heap.size + 3 = w3.heap.size ∧ w3.heap.size ≤ w4.heap.size ∧ w6.heap.size = w4.heap.size + 3) := ⟨h3s.symm, h34, hz6⟩
  clear hSt hrg hin HV0 h06 bx k1 k2 b1 b2 b3 s1 s2 hxq h3s h34 hws h6s hz6 hX1 hX2 hw6 X1 X2
  go_wp2_with fail
  rw [HW6.out]
  refine hwr.mono ?_
  rintro e w7 ⟨rfl, gs, c, e4, e5, e6, ov, D, er, hv7, hcs, hge, hkw, hlen, hD1, hD2⟩
  clear q9 q10 q11 hwr HW6
  have HD : Hid ((Sp.pls N fr = none → D = [] ∧ er = 140) ∧ ∀ ps, Sp.pls N fr = some ps → D = (wAll (wOne (Sp.vis N En Le P) nx N.length) ps (List.replicate N.length false, ⟨[], 0, 0⟩)).2.2.calls ∧ er = if (wAll (wOne (Sp.vis N En Le P) nx N.length) ps (List.replicate N.length false, ⟨[], 0, 0⟩)).1 = none then 9 else 0) := ⟨hD1, hD2⟩
  -- the counters' boxes, the closure's
  obtain ⟨w9, hw9⟩ : ∃ w9, (((w7.alloc (.cells #[.int .i64 0] 3)).alloc (.cells #[.int .i64 0] 3)).alloc (.cells #[.int .i64 0] 3)).alloc (.cells #[.func (.func 6) #[] #[.pointer (some ⟨w4.heap.size, 0, none⟩), .pointer (some ⟨w7.heap.size, 0, none⟩), .pointer (some ⟨w4.heap.size + 1 + 1, 0, none⟩), .pointer (some ⟨w.heap.size + 1 + 1, 0, none⟩)]] 40) = w9 := ⟨_, rfl⟩
  have HW9 : Hid (((((w7.alloc (.cells #[.int .i64 0] 3)).alloc (.cells #[.int .i64 0] 3)).alloc (.cells #[.int .i64 0] 3)).alloc (.cells #[.func (.func 6) #[] #[.pointer (some ⟨w4.heap.size, 0, none⟩), .pointer (some ⟨w7.heap.size, 0, none⟩), .pointer (some ⟨w4.heap.size + 1 + 1, 0, none⟩), .pointer (some ⟨w.heap.size + 1 + 1, 0, none⟩)]] 40)) = w9) := hw9
  have H9 : Hid (Below w7.heap.size w7 w9 ∧ w9.heap.size = w7.heap.size + 4 ∧ w9.heap[w7.heap.size]? = some (.cells #[.int .i64 0] 3 (0, 0)) ∧ w9.heap[w7.heap.size + 1]? = some (.cells #[.int .i64 0] 3 (0, 0)) ∧ w9.heap[w7.heap.size + 1 + 1]? = some (.cells #[.int .i64 0] 3 (0, 0)) ∧ w9.heap[w7.heap.size + 1 + 1 + 1]? = some (.cells #[.func (.func 6) #[] #[.pointer (some ⟨w4.heap.size, 0, none⟩), .pointer (some ⟨w7.heap.size, 0, none⟩), .pointer (some ⟨w4.heap.size + 1 + 1, 0, none⟩), .pointer (some ⟨w.heap.size + 1 + 1, 0, none⟩)]] 40 (0, 0))) := by
    obtain ⟨Y1, hY1⟩ : ∃ Y1, w7.alloc (.cells #[.int .i64 0] 3) = Y1 := ⟨_, rfl⟩
    rw [hY1] at hw9
    have s1 : Y1.heap.size = w7.heap.size + 1 := by rw [← hY1, al_size]
    have k1 : Y1.heap[w7.heap.size]? = some (.cells #[.int .i64 0] 3 (0, 0)) := by rw [← hY1]; exact al_at _ _ _
    have b1 : Below w7.heap.size w7 Y1 := by rw [← hY1]; exact (Below.refl _ _).alloc (Nat.le_refl _) _
    obtain ⟨Y2, hY2⟩ : ∃ Y2, Y1.alloc (.cells #[.int .i64 0] 3) = Y2 := ⟨_, rfl⟩
    rw [hY2] at hw9
    have s2 : Y2.heap.size = w7.heap.size + 2 := by rw [← hY2, al_size, s1]
    have k2 : Y2.heap[w7.heap.size + 1]? = some (.cells #[.int .i64 0] 3 (0, 0)) := by rw [← hY2, ← s1]; exact al_at _ _ _
    have b2 : Below w7.heap.size w7 Y2 := by rw [← hY2]; exact b1.alloc b1.size _
    have o2 : ∀ k, k < w7.heap.size + 1 → Y2.heap[k]? = Y1.heap[k]? := fun k hk => by rw [← hY2]; exact Below.heap_alloc _ _ _ (by omega)
    obtain ⟨Y3, hY3⟩ : ∃ Y3, Y2.alloc (.cells #[.int .i64 0] 3) = Y3 := ⟨_, rfl⟩
    rw [hY3] at hw9
    have s3 : Y3.heap.size = w7.heap.size + 3 := by rw [← hY3, al_size, s2]
    have k3 : Y3.heap[w7.heap.size + 1 + 1]? = some (.cells #[.int .i64 0] 3 (0, 0)) := by rw [← hY3, show w7.heap.size + 1 + 1 = Y2.heap.size by omega]; exact al_at _ _ _
    have b3 : Below w7.heap.size w7 Y3 := by rw [← hY3]; exact b2.alloc b2.size _
    have o3 : ∀ k, k < w7.heap.size + 2 → Y3.heap[k]? = Y2.heap[k]? := fun k hk => by rw [← hY3]; exact Below.heap_alloc _ _ _ (by omega)
    have o4 : ∀ k, k < w7.heap.size + 3 → w9.heap[k]? = Y3.heap[k]? := fun k hk => by rw [← hw9]; exact Below.heap_alloc _ _ _ (by omega)
    refine ⟨by rw [← hw9]; exact b3.alloc b3.size _, by rw [← hw9, al_size, s3], ?_, ?_, ?_, ?_⟩
    · rw [o4 _ (by omega), o3 _ (by omega), o2 _ (by omega)]; exact k1
    · rw [o4 _ (by omega), o3 _ (by omega)]; exact k2
    · rw [o4 _ (by omega)]; exact k3
    · rw [← hw9, show w7.heap.size + 1 + 1 + 1 = Y3.heap.size by omega]; exact al_at _ _ _
  have hz7 := hkw.size
  have HB7 : Hid (Below w.heap.size w w7) := ⟨hkw.os.trans H06.out.os, hkw.tape.trans H06.out.tape, hkw.output.trans H06.out.output, Nat.le_trans H06.out.size hkw.size, fun k hk => (hkw.block k (Nat.lt_of_lt_of_le hk H06.out.size) (by have := HSZ.out; omega)).trans (H06.out.block k hk)⟩
  have HB9 : Hid (Below w.heap.size w w9) := HB7.out.trans (H9.out.1.mono HB7.out.size)
  have hh := hand_any a3 cap3 fr w.heap.size w9 (HH.out.2.2.1.keep HB9.out) HB9.out.size HLN.out.2.2.1
  have H7 : Hid (w7.heap[w4.heap.size + 1]? = some (.cells (vcC (.slice aE En.length cE) (.slice aL Le.length cL) P gs D.length c e4 e5 e6 ov er) 33 (0, 0)) ∧ NdC w7 gs c D ∧ (∀ g, gs = some g → w6.heap.size ≤ g) ∧ Kw (fun k => k = w4.heap.size + 1) w6 w7 ∧ D.length ≤ 8192) := ⟨hv7, hcs, hge, hkw, hlen⟩
  have HZ7 : Hid (w6.heap.size ≤ w7.heap.size) := hz7
  clear hv7 hcs hge hkw hD1 hD2 hz7 hw9
  go_wp2_with fail
  rw [HW9.out]
  refine hh.mono ?_
  rintro e w10 ⟨g, cg, rfl, hg9, ho10, hb10⟩
  have H10 : Hid (w9.heap.size ≤ g ∧ OwnR w10 36 g (fr.length + 1) cg (rv (fr ++ [99])) ∧ Below w9.heap.size w9 w10) := ⟨hg9, ho10, hb10⟩
  clear hg9 ho10 hb10 hh HW9
  have hcap : fr.length + 1 ≤ cg := by obtain ⟨cur, _, h2, _⟩ := H10.out.2.1.blk; exact h2
  have hcapb : fr.length ≤ cg := by omega
  -- blocks below w9 as they stand in w10
  have HT : Hid (∀ k, k < w7.heap.size → w10.heap[k]? = w7.heap[k]?) := fun k hk => by
    have h9 := H9.out.1.size
    exact (H10.out.2.2.block k (by omega)).trans (H9.out.1.block k hk)
  have HT6 : Hid (∀ k, k < w6.heap.size → k ≠ w4.heap.size + 1 → w10.heap[k]? = w6.heap[k]?) := fun k hk hn => (HT.out k (Nat.lt_of_lt_of_le hk HZ7.out)).trans (H7.out.2.2.2.1.block k hk hn)
  have HT9 : Hid (∀ k, k < w9.heap.size → w10.heap[k]? = w9.heap[k]?) := fun k hk => H10.out.2.2.block k hk
  have HS10 : Hid (LwS w10 w4.heap.size w7.heap.size (w7.heap.size + 1) (w7.heap.size + 1 + 1) (w4.heap.size + 1 + 1) (w4.heap.size + 1) (w.heap.size + 1 + 1) P gs c D) := by
    have z1 := HSZ.out
    have z2 := HZ7.out
    have z3 := H9.out.2.1
    have z4 := H10.out.2.2.size
    have z5 := H3.out.2.1
    refine ⟨⟨by omega, by omega, by omega, by omega⟩, ⟨by omega, by omega, by omega, by omega, by omega, by omega⟩, ⟨?_, by omega, ?_⟩, ⟨?_, by omega, ?_⟩, ⟨H7.out.2.1.keep (fun g hg => HT.out g ((H7.out.2.1.2 g hg).lt)), fun g hg => ?_⟩, ⟨?_, by omega, ?_⟩, H7.out.2.2.2.2⟩
    · have e := HT6.out (w4.heap.size + 1 + 1) (by omega) (by omega)
      simp [World.cell?, e, H6.out.2.2.2.2]
    · rintro (h | h | h | h) <;> omega
    · have e := HT.out (w4.heap.size + 1) (by omega)
      simp [World.cell?, e, H7.out.1, vcC]
    · rintro (h | h | h | h) <;> omega
    · have h1 := H7.out.2.2.1 g hg
      have h2 := (H7.out.2.1.2 g hg).lt
      rintro (h | h | h | h) <;> omega
    · have e := (HT6.out (w.heap.size + 1 + 1) (by omega) (by omega)).trans (HXQ.out (w.heap.size + 1 + 1) (by omega))
      simp [World.cell?, e, H3.out.2.2.2.2]
    · rintro (h | h | h | h) <;> omega
  have HI10 : Hid (LwI w10 w4.heap.size w7.heap.size (w7.heap.size + 1) (w7.heap.size + 1 + 1) D ⟨[], 0, 0⟩ w10) := by
    have z1 := HSZ.out
    have z2 := HZ7.out
    have z3 := H9.out.2.1
    have hw0 : wrap64 ((0 : Nat) : Int) = 0 := by unfold wrap64; omega
    refine ⟨?_, ?_, ?_, ?_, Kw.refl _ _⟩
    · rw [HT6.out w4.heap.size (by omega) (by omega), H6.out.2.2.1]; simp
    · rw [HT9.out _ (by omega), H9.out.2.2.1]; show _ = some (Obj.cells #[.int .i64 (wrap64 ((0 : Nat) : Int))] _ _); rw [hw0]
    · rw [HT9.out _ (by omega), H9.out.2.2.2.1]; show _ = some (Obj.cells #[.int .i64 (wrap64 ((0 : Nat) : Int))] _ _); rw [hw0]
    · rw [HT9.out _ (by omega), H9.out.2.2.2.2.1]; show _ = some (Obj.cells #[.int .i64 (wrap64 ((0 : Nat) : Int))] _ _); rw [hw0]
  have HV : Hid (VisB VS (Sp.vis N En Le P) N w10.heap.size (LM w4.heap.size w7.heap.size (w7.heap.size + 1) (w7.heap.size + 1 + 1)) (LwI w10 w4.heap.size w7.heap.size (w7.heap.size + 1) (w7.heap.size + 1 + 1) D) 10 11 #[.pointer (some ⟨w7.heap.size + 1 + 1 + 1, 0, none⟩), .pointer (some ⟨w7.heap.size + 1, 0, none⟩), .pointer (some ⟨w.heap.size, 0, none⟩)] #[.pointer (some ⟨w7.heap.size + 1 + 1 + 1, 0, none⟩), .pointer (some ⟨w7.heap.size + 1 + 1, 0, none⟩), .pointer (some ⟨w.heap.size + 1, 0, none⟩)]) := by
    have z1 := HSZ.out
    have z2 := HZ7.out
    have z3 := H9.out.2.1
    have z4 := H10.out.2.2.size
    have hb10 : Below w.heap.size w w10 := HB9.out.trans (H10.out.2.2.mono HB9.out.size)
    have hM : ∀ k, LM w4.heap.size w7.heap.size (w7.heap.size + 1) (w7.heap.size + 1 + 1) k → w.heap.size ≤ k := fun k hk => by rcases hk with h | h | h | h <;> omega
    have ex : ∀ k v t, k < w3.heap.size → w3.heap[k]? = some (.cells #[v] t (0, 0)) → w10.cell? ⟨k, 0, none⟩ = some v := fun k v t hk h => by
      have e := (HT6.out k (by omega) (by omega)).trans ((HXQ.out k hk).trans h)
      simp [World.cell?, e]
    refine vis_lw HS10.out ⟨?_, by omega, ?_⟩ ⟨ex _ _ _ (by omega) H3.out.2.2.1, by omega, ?_⟩ ⟨ex _ _ _ (by omega) H3.out.2.2.2.1, by omega, ?_⟩ (HH.out.2.2.2.1.st hb10 hM) (HH.out.2.2.2.2.st hb10 hM) (by have := HLN.out.2.2.2.1; omega) (by have := HLN.out.2.2.2.2; omega)
    · have e := (HT9.out (w7.heap.size + 1 + 1 + 1) (by omega)).trans H9.out.2.2.2.2.2
      simp [World.cell?, e]
    · rintro (h | h | h | h) <;> omega
    · rintro (h | h | h | h) <;> omega
    · rintro (h | h | h | h) <;> omega
  obtain ⟨gsg, cgg, mb, xbg, Gg, esg, ckg, blg, cpg, log, hgp⟩ := HG.out
  have hgp10 := hgp.keep (w' := w10) fun k hk => (HT6.out k (by have := HSZ.out; omega) (by have := HSZ.out; omega)).trans (H6.out.1.block k hk.2)
  have hwk := Walk_any (fun k => w3.heap.size ≤ k ∧ k < w4.heap.size) gb N nx gsg cgg mb xbg Gg esg ckg blg cpg log (some ⟨g, 0, none⟩) cg fr ⟨[], 0, 0⟩ w10 hgp10 (fun k hk => ⟨by have := HSZ.out; have := HZ7.out; have := H9.out.2.1; have := H10.out.2.2.size; omega, by have := HSZ.out; have := HZ7.out; rintro (h | h | h | h) <;> omega⟩) HV.out HI10.out ⟨fun t x hx => ⟨g, 0, rfl, H10.out.2.1.lt, by
      rw [Nat.zero_add]
      have ht : t < fr.length := by have := (List.getElem?_eq_some_iff.1 hx).1; simpa using this
      refine H10.out.2.1.cell ?_
      rw [rv, List.map_append, List.getElem?_append_left (by simpa using ht)]; exact hx⟩, fun _ => .inr ⟨g, 0, rfl⟩, HH.out.2.2.1.bd⟩ HLN.out.2.2.1 HN.out.1 HNX.out.1 HNX.out.2
  clear hgp hgp10
  go_wp2_with fail
  refine hwk.mono ?_
  rintro e w11 hwe
  obtain ⟨s', rfl, hs', hI', hK'⟩ : ∃ s', e = .returned (.int .i64 er) ∧ s'.calls = D ∧ LwI w10 w4.heap.size w7.heap.size (w7.heap.size + 1) (w7.heap.size + 1 + 1) D s' w11 ∧ Kw (LM w4.heap.size w7.heap.size (w7.heap.size + 1) (w7.heap.size + 1 + 1)) w10 w11 := by
    unfold WalkE at hwe
    cases hp : Sp.pls N fr with
    | none =>
      rw [hp] at hwe
      obtain ⟨rfl, rfl⟩ := HD.out.1 hp
      exact ⟨_, hwe.1, rfl, hwe.2.1, hwe.2.2⟩
    | some ps =>
      rw [hp] at hwe
      obtain ⟨h1, h2⟩ := HD.out.2 ps hp
      exact ⟨_, by rw [h2]; exact hwe.1, h1.symm, hwe.2.1, hwe.2.2⟩
  clear hwe hwk
  have H11 : Hid (LwI w10 w4.heap.size w7.heap.size (w7.heap.size + 1) (w7.heap.size + 1 + 1) D s' w11 ∧ Kw (LM w4.heap.size w7.heap.size (w7.heap.size + 1) (w7.heap.size + 1 + 1)) w10 w11) := ⟨hI', hK'⟩
  have HSC : Hid (s'.calls = D) := hs'
  clear hI' hK' hs'
  have hn1 := Walk_nil1 gb (some ⟨g, 0, none⟩) fr.length cg 12 #[] w11
  go_wp2_with fail
  refine hn1.mono ?_
  rintro e w12 ⟨rfl, hb12⟩
  have HB12 : Hid (Below w11.heap.size w11 w12) := hb12
  clear hb12 hn1
  have hn2 := Walk_nil2 gb (some ⟨g, 0, none⟩) fr.length cg 13 #[] w12
  go_wp2_with fail
  refine hn2.mono ?_
  rintro e w13 ⟨rfl, hb13⟩
  have HB13 : Hid (Below w11.heap.size w11 w13) := HB12.out.trans (hb13.mono HB12.out.size)
  clear hb13 hn2
  have HBW : Hid (Below w.heap.size w w13) := by
    have z1 := HSZ.out
    have z2 := HZ7.out
    have hb10 : Below w.heap.size w w10 := HB9.out.trans (H10.out.2.2.mono HB9.out.size)
    have hk := H11.out.2
    have hb11 : Below w.heap.size w w11 := ⟨hk.os.trans hb10.os, hk.tape.trans hb10.tape, hk.output.trans hb10.output, Nat.le_trans hb10.size hk.size, fun k h => (hk.block k (Nat.lt_of_lt_of_le h hb10.size) (by rintro (h | h | h | h) <;> omega)).trans (hb10.block k h)⟩
    exact hb11.trans (HB13.out.mono hb11.size)
  have z10 := HS10.out
  have i13 := H11.out.1.keep HS10.out HB13.out.size (fun k h _ => HB13.out.block k h) HB13.out.os HB13.out.tape HB13.out.output
  have r1 : w13.cell? ⟨w4.heap.size, 0, none⟩ = some (.bool true) := by
    have := i13.ok
    rw [HSC.out] at this
    simp [World.cell?, this]
  have r2 : w13.cell? ⟨w7.heap.size, 0, none⟩ = some (.int .i64 (D.length : Nat)) := by
    have := i13.n
    rw [HSC.out] at this
    have hw : wrap64 ((D.length : Nat) : Int) = (D.length : Int) := by have := H7.out.2.2.2.2; unfold wrap64; omega
    simp [World.cell?, this, hw]
  have r3 : w13.cell? ⟨w4.heap.size + 1 + 1, 0, none⟩ = some (.pointer (some ⟨w4.heap.size + 1, 0, none⟩)) := by rw [i13.st z10.v.2.1 z10.v.2.2]; exact z10.v.1
  have hvb : w13.heap[w4.heap.size + 1]? = some (.cells (vcC (.slice aE En.length cE) (.slice aL Le.length cL) P gs D.length c e4 e5 e6 ov er) 33 (0, 0)) := by
    rw [i13.fr.block _ z10.cl.2.1 z10.cl.2.2, HT.out _ (by have := HSZ.out; have := HZ7.out; omega)]
    exact H7.out.1
  have r4 : w13.cell? ⟨w4.heap.size + 1, 3, none⟩ = some (.slice (adr gs) D.length c) := by simp [World.cell?, hvb, vcC]
  have r5 : w13.cell? ⟨w4.heap.size + 1, 8, none⟩ = some (.int .i64 er) := by simp [World.cell?, hvb, vcC]
  have hlf := left_any g cg a3 cap3 fr w.heap.size w13.drew ((HH.out.2.2.1.keep HBW.out).keep ⟨rfl, rfl, rfl, Nat.le_refl _, fun _ _ => rfl⟩) HBW.out.size ((H10.out.2.1.keep (i13.fr.block g H10.out.2.1.lt (by have z1 := HSZ.out; have z2 := HZ7.out; have z3 := H9.out.2.1; have z4 := H10.out.1; rintro (h | h | h | h) <;> omega))).keep rfl) HLN.out.2.2.1
  clear z10 i13 hvb
  go_wp2_with fail
  refine wp_region_held_drew (S := fun X => X.cell? ⟨w4.heap.size, 0, none⟩ = some (.bool true) ∧ X.cell? ⟨w7.heap.size, 0, none⟩ = some (.int .i64 (D.length : Nat)) ∧ X.cell? ⟨w4.heap.size + 1 + 1, 0, none⟩ = some (.pointer (some ⟨w4.heap.size + 1, 0, none⟩)) ∧ X.cell? ⟨w4.heap.size + 1, 3, none⟩ = some (.slice (adr gs) D.length c) ∧ X.cell? ⟨w4.heap.size + 1, 8, none⟩ = some (.int .i64 er)) (by kernel_rfl) ?_ (fun hHeld => ?_)
  · exact ⟨r1, r2, r3, r4, r5⟩
  refine tkH (i := 0) (v := ?_) rfl (by kernel_rfl) (by rfl) ?_ (by assumption) ?_
  rotate_left
  · intro W hSw; (try dsimp only at hSw); go_simp; try (with_reducible rfl)
  simp only [Act.put, lsA, lsB, lsC]
  refine tkH (i := 1) (v := ?_) rfl (by kernel_rfl) (by rfl) ?_ (by assumption) ?_
  rotate_left
  · intro W hSw; (try dsimp only at hSw); go_simp; try (with_reducible rfl)
  simp only [Act.put, lsA, lsB, lsC]
  refine tkH (i := 2) (v := ?_) rfl (by kernel_rfl) (by rfl) ?_ (by assumption) ?_
  rotate_left
  · intro W hSw; (try dsimp only at hSw); go_simp; try (with_reducible rfl)
  simp only [Act.put, lsA, lsB, lsC]
  refine tkH (i := 3) (v := ?_) rfl (by kernel_rfl) (by rfl) ?_ (by assumption) ?_
  rotate_left
  · intro W hSw; (try dsimp only at hSw); go_simp; try (with_reducible rfl)
  simp only [Act.put, lsA, lsB, lsC]
  refine tkH (i := 4) (v := ?_) rfl (by kernel_rfl) (by rfl) ?_ (by assumption) ?_
  rotate_left
  · intro W hSw; (try dsimp only at hSw); go_simp; try (with_reducible rfl)
  simp only [Act.put, lsA, lsB, lsC]
  refine tkH (i := 5) (v := ?_) rfl (by kernel_rfl) (by rfl) ?_ (by assumption) ?_
  rotate_left
  · intro W hSw; (try dsimp only at hSw); go_simp; try (with_reducible rfl)
  simp only [Act.put, lsA, lsB, lsC]
  refine tkH (i := 6) (v := ?_) rfl (by kernel_rfl) (by rfl) ?_ (by assumption) ?_
  rotate_left
  · intro W hSw; (try dsimp only at hSw); go_simp; try (with_reducible rfl)
  simp only [Act.put, lsA, lsB, lsC]
  refine tkH (i := 7) (v := ?_) rfl (by kernel_rfl) (by rfl) ?_ (by assumption) ?_
  rotate_left
  · intro W hSw; (try dsimp only at hSw); go_simp; try (with_reducible rfl)
  simp only [Act.put, lsA, lsB, lsC]
  refine tkH (i := 8) (v := ?_) rfl (by kernel_rfl) (by rfl) ?_ (by assumption) ?_
  rotate_left
  · intro W hSw; (try dsimp only at hSw); go_simp; try (with_reducible rfl)
  simp only [Act.put, lsA, lsB, lsC]
  refine tkH (i := 9) (v := ?_) rfl (by kernel_rfl) (by rfl) ?_ (by assumption) ?_
  rotate_left
  · intro W hSw; (try dsimp only at hSw); go_simp; try (with_reducible rfl)
  simp only [Act.put, lsA, lsB, lsC]
  refine tkH (i := 10) (v := ?_) rfl (by kernel_rfl) (by rfl) ?_ (by assumption) ?_
  rotate_left
  · intro W hSw; (try dsimp only at hSw); go_simp; try (with_reducible rfl)
  simp only [Act.put, lsA, lsB, lsC]
  refine tkH (i := 11) (v := ?_) rfl (by kernel_rfl) (by rfl) ?_ (by assumption) ?_
  rotate_left
  · intro W hSw; (try dsimp only at hSw); go_simp; try (with_reducible rfl)
  simp only [Act.put, lsA, lsB, lsC]
  refine tkH (i := 12) (v := ?_) rfl (by kernel_rfl) (by rfl) ?_ (by assumption) ?_
  rotate_left
  · intro W hSw; (try dsimp only at hSw); go_simp; try (with_reducible rfl)
  simp only [Act.put, lsA, lsB, lsC]
  refine tkH (i := 13) (v := ?_) rfl (by kernel_rfl) (by rfl) ?_ (by assumption) ?_
  rotate_left
  · intro W hSw; (try dsimp only at hSw); go_simp; try (with_reducible rfl)
  simp only [Act.put, lsA, lsB, lsC]
  refine tkH (i := 14) (v := ?_) rfl (by kernel_rfl) (by rfl) ?_ (by assumption) ?_
  rotate_left
  · intro W hSw; (try dsimp only at hSw); go_simp; try (with_reducible rfl)
  simp only [Act.put, lsA, lsB, lsC]
  refine tkH (i := 15) (v := ?_) rfl (by kernel_rfl) (by rfl) ?_ (by assumption) ?_
  rotate_left
  · intro W hSw; (try dsimp only at hSw); go_simp; try (with_reducible rfl)
  simp only [Act.put, lsA, lsB, lsC]
  refine tkH (i := 16) (v := ?_) rfl (by kernel_rfl) (by rfl) ?_ (by assumption) ?_
  rotate_left
  · intro W hSw; (try dsimp only at hSw); go_simp; try (with_reducible rfl)
  simp only [Act.put, lsA, lsB, lsC]
  refine tkH (i := 17) (v := ?_) rfl (by kernel_rfl) (by rfl) ?_ (by assumption) ?_
  rotate_left
  · intro W hSw; (try dsimp only at hSw); go_simp; try (with_reducible rfl)
  simp only [Act.put, lsA, lsB, lsC]
  refine tkH (i := 18) (v := ?_) rfl (by kernel_rfl) (by rfl) ?_ (by assumption) ?_
  rotate_left
  · intro W hSw; (try dsimp only at hSw); go_simp; try (with_reducible rfl)
  simp only [Act.put, lsA, lsB, lsC]
  refine tkH (i := 19) (v := ?_) rfl (by kernel_rfl) (by rfl) ?_ (by assumption) ?_
  rotate_left
  · intro W hSw; (try dsimp only at hSw); go_simp; try (with_reducible rfl)
  simp only [Act.put, lsA, lsB, lsC]
  refine tkH (i := 20) (v := ?_) rfl (by kernel_rfl) (by rfl) ?_ (by assumption) ?_
  rotate_left
  · intro W hSw; (try dsimp only at hSw); go_simp; try (with_reducible rfl)
  simp only [Act.put, lsA, lsB, lsC]
  refine tkH (i := 21) (v := ?_) rfl (by kernel_rfl) (by rfl) ?_ (by assumption) ?_
  rotate_left
  · intro W hSw; (try dsimp only at hSw); go_simp; try (with_reducible rfl)
  simp only [Act.put, lsA, lsB, lsC]
  refine tkH (i := 22) (v := ?_) rfl (by kernel_rfl) (by rfl) ?_ (by assumption) ?_
  rotate_left
  · intro W hSw; (try dsimp only at hSw); go_simp; try (with_reducible rfl)
  simp only [Act.put, lsA, lsB, lsC]
  refine tkH (i := 23) (v := ?_) rfl (by kernel_rfl) (by rfl) ?_ (by assumption) ?_
  rotate_left
  · intro W hSw; (try dsimp only at hSw); go_simp; try (with_reducible rfl)
  simp only [Act.put, lsA, lsB, lsC]
  refine tkH (i := 24) (v := ?_) rfl (by kernel_rfl) (by rfl) ?_ (by assumption) ?_
  rotate_left
  · intro W hSw; (try dsimp only at hSw); go_simp; try (with_reducible rfl)
  simp only [Act.put, lsA, lsB, lsC]
  refine tkH (i := 25) (v := ?_) rfl (by kernel_rfl) (by rfl) ?_ (by assumption) ?_
  rotate_left
  · intro W hSw; (try dsimp only at hSw); go_simp; try (with_reducible rfl)
  simp only [Act.put, lsA, lsB, lsC]
  refine tkH (i := 26) (v := ?_) rfl (by kernel_rfl) (by rfl) ?_ (by assumption) ?_
  rotate_left
  · intro W hSw; (try dsimp only at hSw); go_simp; try (with_reducible rfl)
  simp only [Act.put, lsA, lsB, lsC]
  refine tkH (i := 27) (v := ?_) rfl (by kernel_rfl) (by rfl) ?_ (by assumption) ?_
  rotate_left
  · intro W hSw; (try dsimp only at hSw); go_simp; try (with_reducible rfl)
  simp only [Act.put, lsA, lsB, lsC]
  refine tkH (i := 28) (v := ?_) rfl (by kernel_rfl) (by rfl) ?_ (by assumption) ?_
  rotate_left
  · intro W hSw; (try dsimp only at hSw); go_simp; try (with_reducible rfl)
  simp only [Act.put, lsA, lsB, lsC]
  refine wpAnyH_ready (rs := [29]) (by kernel_rfl) (by simp) ?_
  refine arC rfl (fun K hK => ?_) AllReadyH.nil
  go_simp
  refine hlf.mono ?_
  rintro e w14 ⟨rfl, hb14⟩
  have HFIN : Hid (Below w.heap.size w w14) := HBW.out.trans ((show Below w13.heap.size w13 w14 from ⟨hb14.os, hb14.tape, hb14.output, hb14.size, hb14.block⟩).mono HBW.out.size)
  have hS14 : w14.cell? ⟨w4.heap.size, 0, none⟩ = some (.bool true) ∧ w14.cell? ⟨w7.heap.size, 0, none⟩ = some (.int .i64 (D.length : Nat)) ∧ w14.cell? ⟨w4.heap.size + 1 + 1, 0, none⟩ = some (.pointer (some ⟨w4.heap.size + 1, 0, none⟩)) ∧ w14.cell? ⟨w4.heap.size + 1, 3, none⟩ = some (.slice (adr gs) D.length c) ∧ w14.cell? ⟨w4.heap.size + 1, 8, none⟩ = some (.int .i64 er) := by
    have lt : ∀ {q : Addr} {v : Value}, w13.cell? q = some v → w14.cell? q = some v := fun {q v} h => by rw [hb14.cell (p := q) (World.block_lt_of_cell? _ _ h)]; exact h
    exact ⟨lt r1, lt r2, lt r3, lt r4, lt r5⟩
  clear hb14 hHeld
  go_wp2_with fail
  refine hK.out _ _ hS14 (fun hHeld => ?_)
  clear hK K
  try simp only [Act.put, lsA, lsB, lsC]
  refine tkH (i := 30) (v := ?_) rfl (by kernel_rfl) (by rfl) ?_ (by assumption) ?_
  rotate_left
  · intro W hSw; (try dsimp only at hSw); go_simp; try (with_reducible rfl)
  simp only [Act.put, lsA, lsB, lsC]
  refine tkH (i := 31) (v := ?_) rfl (by kernel_rfl) (by rfl) ?_ (by assumption) ?_
  rotate_left
  · intro W hSw; (try dsimp only at hSw); go_simp; try (with_reducible rfl)
  simp only [Act.put, lsA, lsB, lsC]
  refine wpAnyH_done (by kernel_rfl) ?_ _
  go_wp2_with fail
  go_ret
  exact ⟨rfl, HFIN.out⟩
end Go.Proofs.Ytghfikeakfiopaa

