/- tenonmake.plain at bytes, and whole; tenonmake.Is. -/
import Derived.Test.YtjlhmgopmdcopaaGreatKI39
import Derived.Test.YtjlhmgopmdcopaaGreatKI42
namespace Go.Proofs.YtjlhmgopmdcopaaGreat
open Go.RowKit

set_option maxRecDepth 100000 in
set_option maxHeartbeats 1000000 in
theorem pl_6 (ab : Option Addr) (L : ByteArray) (cb : Nat) (B : Nat → Prop) (w : World) (deep : Int) (hd : deep ≤ 400) (hB : Sub B w) (hl : BytesAt w B ab L) (hlen : L.size ≤ 140737488355328) :
    Calls Tryz.prog 38 #[.iface 23 (.slice ab L.size cb), .int .i64 deep] w fun e w' => ∃ a cap, e = .returned (.agg (tcells 6 false 0 0 ByteArray.empty (.slice a L.size cap) 0 (.slice none 0 0) (.slice none 0 0) ByteArray.empty 0)) ∧ Below w.heap.size w w' ∧ BytesAt w' (Fr w w') a L := by
  have hd' : decide (400 < deep) = false := by simp; omega
  obtain ⟨i0, hi, hz0, hz1, hz2⟩ := info_parts Tryz.infoB
  by_cases h0 : L.size = 0
  · have hl' : Hid (∀ W S a, BytesAt W S a L) := fun W S a j hj => by omega
    rw [h0]
    clear h0 hl hlen
    go_enter Tryz.func38, Tryz.ntmps38
    go_wp2_with (at_builtin; refine wpList_ran _ rfl _ _ 23 rfl _ _ _ _ rfl rfl (app_zero _ _ _ _ _) ?_)
    refine bodyPost_ret (v := .agg (tcells 6 false 0 0 ByteArray.empty (.slice (some ⟨w.heap.size + 1, 0, none⟩) 0 0) 0 (.slice none 0 0) (.slice none 0 0) ByteArray.empty 0)) (by simp [results, Tryz.results38, go_sem, tcells] <;> rfl) rfl ⟨_, _, rfl, ?_, hl'.out _ _ _⟩
    exact ((Below.refl _ _).alloc (Nat.le_refl _) _).alloc (by simp) _
  · obtain ⟨g, o, rfl, hg, _⟩ := hl 0 (by omega)
    have hg := hB _ hg
    have h0 : 0 < L.size := by omega
    have hc' : Hid (∀ W, Below w.heap.size w W → ∀ j u, (bcells L)[j]? = some u → W.cell? ((⟨g, o, none⟩ : Addr).add j) = some u) := fun W hW j u hj => by
      obtain ⟨hj', rfl⟩ := bcells_at L j u hj
      obtain ⟨g', o', e, _, hc⟩ := hl j hj'
      simp only [Option.some.injEq, Addr.mk.injEq, and_true] at e
      obtain ⟨rfl, rfl⟩ := e
      rw [addr_add, hW.cell (p := ⟨g, o + j, none⟩) (by show g < _; omega)]; exact hc
    clear hl
    go_enter Tryz.func38, Tryz.ntmps38
    go_wp2_with (at_builtin; refine wpList_app _ rfl _ _ 23 rfl (w.heap.size + 1) 5 i0 (.int .u8 0) 1 1 Tryz.undB hi hz0 hz1 hz2 rfl (by decide) _ 0 [] rfl ⟨rfl, .inr ⟨w.heap.size + 1, 0, #[], rfl, Nat.le_refl _, by simpa using heap_alloc_new (w.alloc _) (.cells #[] 5), Nat.le_refl _, by simp [maxLen], rfl, rfl⟩⟩ ⟨g, o, none⟩ L.size cb (bcells L) rfl (by simp [bcells]) (hc'.out _ (((Below.refl _ _).alloc (Nat.le_refl _) _).alloc (by simp) _)) (bcells_one L) h0 (by unfold maxLen; omega) (by omega) (by simp) ?_; intro g' cap' w3 hown' hgrow hor; have hgr : ((w.alloc (.cells #[.int .i64 0, .bool false, .int .i64 0, .float .f64 0, .string ByteArray.empty, .slice none 0 0, .int .u64 0, .slice none 0 0, .slice none 0 0, .string ByteArray.empty, .int .i64 0] 29)).alloc (.cells #[] 5)).grownBy w3 (some (w.heap.size + 1)) := hgrow; have hR : w3.heap[w.heap.size]? = some (.cells #[.int .i64 0, .bool false, .int .i64 0, .float .f64 0, .string ByteArray.empty, .slice none 0 0, .int .u64 0, .slice none 0 0, .slice none 0 0, .string ByteArray.empty, .int .i64 0] 29 (0, 0)) := (hgr.block w.heap.size (by rw [World.size_alloc, World.size_alloc]; omega) (by simp)).trans ((Below.heap_alloc _ _ _ (by simp)).trans (heap_alloc_new w _)); obtain ⟨r0, r1, r2, r3, r4, r5, r6, r7, r8, r9, r10⟩ := tbox hR; have hf := box_writes hR; have f0 := hf 0; have f1 := hf 1; have f2 := hf 2; have f3 := hf 3; have f4 := hf 4; have f5 := hf 5; have f6 := hf 6; have f7 := hf 7; have f8 := hf 8; have f9 := hf 9; have f10 := hf 10)
    have hlt := hown'.lt g' rfl
    have hbw : Below w.heap.size w w3 := (((Below.refl _ _).alloc (Nat.le_refl _) _).alloc (by simp) _).grown hgr (by simp; omega) (fun k e => by have e' : some (w.heap.size + 1) = some k := e; injection e' with e'; omega)
    have HB3 : Hid (BytesAt w3 (fun k => w.heap.size + 1 ≤ k ∧ k < w3.heap.size) (some ⟨g', 0, none⟩) L) := fun j hj => by
      refine ⟨g', 0, rfl, ⟨by omega, hlt.2⟩, ?_⟩
      have hc2 := hown'.cells (g := g') rfl j (.int .u8 (Sp.byte L j)) (by simp [bcells, hj])
      rw [addr_add] at hc2; exact hc2
    have HE : Hid (Below w.heap.size w (setN w3 w.heap.size 0 [.int .i64 6, .bool false, .int .i64 0, .float .f64 0, .string ByteArray.empty, .slice (some ⟨g', 0, none⟩) L.size cap', .int .u64 0, .slice none 0 0, .slice none 0 0, .string ByteArray.empty, .int .i64 0]) ∧ BytesAt (setN w3 w.heap.size 0 [.int .i64 6, .bool false, .int .i64 0, .float .f64 0, .string ByteArray.empty, .slice (some ⟨g', 0, none⟩) L.size cap', .int .u64 0, .slice none 0 0, .slice none 0 0, .string ByteArray.empty, .int .i64 0]) (Fr w (setN w3 w.heap.size 0 [.int .i64 6, .bool false, .int .i64 0, .float .f64 0, .string ByteArray.empty, .slice (some ⟨g', 0, none⟩) L.size cap', .int .u64 0, .slice none 0 0, .slice none 0 0, .string ByteArray.empty, .int .i64 0])) (some ⟨g', 0, none⟩) L) := ⟨setN_below (Nat.le_refl _) _ _ _ _ hbw, HB3.out.same (fun k hk => setN_other (by have := hk.1; omega) _ _ _) (fun k hk => ⟨by have := hk.1; omega, by rw [setN_size]; exact hk.2⟩)⟩
    clear hown' hgrow hgr hR hf hor hbw
    refine bodyPost_ret (v := .agg (tcells 6 false 0 0 ByteArray.empty (.slice (some ⟨g', 0, none⟩) L.size cap') 0 (.slice none 0 0) (.slice none 0 0) ByteArray.empty 0)) (by simp [results, Tryz.results38, go_sem, tcells, r0, r1, r2, r3, r4, r5, r6, r7, r8, r9, r10] <;> rfl) rfl ⟨_, _, rfl, HE.out.1, HE.out.2⟩

set_option maxHeartbeats 1000000 in
theorem plain_any (N : Nat) : PlC N := by
  induction N with
  | zero => intro t ht; cases t; simp [Tm.sz] at ht
  | succ N ih =>
    intro t hN v B w deep n hv hB hoa hbd hd0 hd1
    cases t with
    | mk k b i f tx by' rf l fs c vr =>
      have ho := hoa.ok
      have hlN : l.sz ≤ N ∧ fs.sz ≤ N := by simp [Tm.sz] at hN; omega
      obtain ⟨p1, p2, p3, p4⟩ := ho.parts
      obtain ⟨q1, q2, q3, q4, q5⟩ := ho.bounds
      obtain ⟨s1, s2, s3⟩ := hoa.parts
      have hd : deep ≤ 400 := by omega
      simp only [Tm.Bdd] at hbd
      obtain ⟨bi, bf, br, bv, bl, bfs⟩ := hbd
      simp only [Tm.V] at hv
      obtain ⟨h1, h2, h3, h4, h5, h6, h7, h8, h9, h10, h11, h12⟩ := hv
      have HF : ∀ (hk : k = 9 ∨ k = 10) (al : Option Addr) (cl : Nat), fs.V w B al 0 → ∀ W, Below w.heap.size w W → Calls Tryz.prog 60 #[.slice al fs.len cl, .int .i64 deep] W fun e w' => ∃ a cap, e = .returned (.slice a fs.len cap) ∧ Below W.heap.size W w' ∧ fs.clean.In w' (Fr W w') a 0 := fun hk al cl hfs W hW =>
        plEntries_any N ih al fs cl W deep n hlN.2 B (hB.later hW) (fs.V_same (hB.same hW) (fun _ h => h) al 0 hfs) (TmF.nm (q4 hk)).1 (TmF.nm (q4 hk)).2 (s3 hk) bfs hd0 hd1 s1
      have z : ByteArray.empty.size ≤ 65536 := by rw [empty_size]; omega
      by_cases k1 : k = 1
      · subst k1; rw [h1 rfl]; refine (pl_1 w deep hd).mono ?_
        rintro e w' ⟨rfl, hb⟩
        refine ⟨_, rfl, hb, ?_⟩
        rw [Tm.clean_1]; simp only [Tm.In]
        exact ⟨none, 0, none, 0, none, 0, rfl, Bd.leaf (by decide) (by decide) (by decide) (by decide) (by decide) z z (by decide) (by decide) (by decide), fun j hj => absurd hj (Nat.not_lt_zero _), trivial, trivial⟩
      by_cases k2 : k = 2
      · subst k2; rw [h2 rfl]; refine (pl_2 b w deep hd).mono ?_
        rintro e w' ⟨rfl, hb⟩
        refine ⟨_, rfl, hb, ?_⟩
        rw [Tm.clean_2]; simp only [Tm.In]
        exact ⟨none, 0, none, 0, none, 0, rfl, Bd.leaf (by decide) (by decide) (by decide) (by decide) (by decide) z z (by decide) (by decide) (by decide), fun j hj => absurd hj (Nat.not_lt_zero _), trivial, trivial⟩
      by_cases k3 : k = 3
      · subst k3; rw [h3 rfl]; refine (pl_3 i w deep hd).mono ?_
        rintro e w' ⟨rfl, hb⟩
        refine ⟨_, rfl, hb, ?_⟩
        rw [Tm.clean_3]; simp only [Tm.In]
        exact ⟨none, 0, none, 0, none, 0, rfl, Bd.leaf (by decide) bi (by decide) (by decide) (by decide) z z (by decide) (by decide) (by decide), fun j hj => absurd hj (Nat.not_lt_zero _), trivial, trivial⟩
      by_cases k4 : k = 4
      · subst k4; rw [(h4 rfl).1]; refine (pl_4 f w deep hd).mono ?_
        rintro e w' ⟨rfl, hb⟩
        refine ⟨_, rfl, hb, ?_⟩
        rw [Tm.clean_4]; simp only [Tm.In]
        exact ⟨none, 0, none, 0, none, 0, rfl, Bd.leaf (by decide) (by decide) bf (by decide) (by decide) z z (by decide) (by decide) (by decide), fun j hj => absurd hj (Nat.not_lt_zero _), trivial, trivial⟩
      by_cases k5 : k = 5
      · subst k5; rw [(h5 rfl).1]; refine (pl_5 tx w deep hd).mono ?_
        rintro e w' ⟨rfl, hb⟩
        refine ⟨_, rfl, hb, ?_⟩
        rw [Tm.clean_5]; simp only [Tm.In]
        exact ⟨none, 0, none, 0, none, 0, rfl, Bd.leaf (by decide) (by decide) (by decide) (by decide) (by decide) (q1 rfl) z (by decide) (by decide) (by decide), fun j hj => absurd hj (Nat.not_lt_zero _), trivial, trivial⟩
      by_cases k6 : k = 6
      · subst k6
        obtain ⟨a, cap, rfl, _, hby⟩ := h6 rfl
        refine (pl_6 a by' cap B w deep hd hB hby (by have := q2 rfl; omega)).mono ?_
        rintro e w' ⟨a', cap', rfl, hb, hl⟩
        refine ⟨_, rfl, hb, ?_⟩
        rw [Tm.clean_6]; simp only [Tm.In]
        exact ⟨a', cap', none, 0, none, 0, rfl, Bd.leaf (by decide) (by decide) (by decide) (by decide) (by decide) z z (q2 rfl) (by decide) (by decide), hl, trivial, trivial⟩
      by_cases k7 : k = 7
      · subst k7; rw [h7 rfl]; refine (pl_7 rf w deep hd).mono ?_
        rintro e w' ⟨rfl, hb⟩
        refine ⟨_, rfl, hb, ?_⟩
        rw [Tm.clean_7]; simp only [Tm.In]
        exact ⟨none, 0, none, 0, none, 0, rfl, Bd.leaf (by decide) (by decide) (by decide) br (by decide) z z (by decide) (by decide) (by decide), fun j hj => absurd hj (Nat.not_lt_zero _), trivial, trivial⟩
      by_cases k8 : k = 8
      · subst k8
        obtain ⟨a, cap, rfl, _, hl⟩ := h8 rfl
        refine (pl_8 N ih a l cap w deep n hlN.1 B hB hl (q3 rfl) (s2 rfl) bl hd0 hd1 s1).mono ?_
        rintro e w' ⟨a', cap', rfl, hb, hl'⟩
        refine ⟨_, rfl, hb, ?_⟩
        rw [Tm.clean_8]; simp only [Tm.In]
        refine ⟨none, 0, a', cap', none, 0, by simp [TmL.clean_len, TmF.len], Bd.leaf (by decide) (by decide) (by decide) (by decide) (by decide) z z (by decide) (by simp [TmL.clean_len]; exact q3 rfl) (by decide), fun j hj => absurd hj (Nat.not_lt_zero _), hl', trivial⟩
      by_cases k9 : k = 9
      · subst k9
        obtain ⟨a, cap, rfl, _, hl⟩ := h9 rfl
        refine (pl_9 a fs fs.clean cap w deep hd (HF (.inl rfl) a cap hl)).mono ?_
        rintro e w' ⟨a', cap', rfl, hb, hl'⟩
        refine ⟨_, rfl, hb, ?_⟩
        rw [Tm.clean_9]; simp only [Tm.In]
        refine ⟨none, 0, none, 0, a', cap', by simp [TmF.clean_len, TmL.len], Bd.leaf (by decide) (by decide) (by decide) (by decide) (by decide) z z (by decide) (by decide) (by simp [TmF.clean_len]; exact (TmF.nm (q4 (.inl rfl))).1), fun j hj => absurd hj (Nat.not_lt_zero _), trivial, hl'⟩
      have k10 : k = 10 := by clear h1 h2 h3 h4 h5 h6 h7 h8 h9 h10 h11 h12 HF s2 s3; omega
      subst k10
      obtain ⟨g, a, cap, rfl, hg, c0, c1, c2, _, _, hl⟩ := h10 rfl
      have hcs := head_len (q5 rfl)
      refine (pl_10 g c vr a fs fs.clean cap w deep hd (hB g hg) c0 c1 c2 (HF (.inr rfl) a cap hl)).mono ?_
      rintro e w' ⟨a', cap', rfl, hb, hl'⟩
      refine ⟨_, rfl, hb, ?_⟩
      rw [Tm.clean_10]; simp only [Tm.In]
      refine ⟨none, 0, none, 0, a', cap', by simp [TmF.clean_len, TmL.len], Bd.leaf (by decide) (by decide) (by decide) (by decide) bv z (by omega) (by decide) (by decide) (by simp [TmF.clean_len]; exact (TmF.nm (q4 (.inr rfl))).1), fun j hj => absurd hj (Nat.not_lt_zero _), trivial, hl'⟩
end Go.Proofs.YtjlhmgopmdcopaaGreat

