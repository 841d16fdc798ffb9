/- tenonref07.list; tenonref07.is of a list's type. -/
import Derived.Test.YtbjcabpmndhfmaaGreatQ37
import Derived.Test.YtbjcabpmndhfmaaGreatQ29
namespace Go.Proofs.YtbjcabpmndhfmaaGreat
open Go.RowKit

set_option maxRecDepth 100000 in
set_option maxHeartbeats 4000000 in
theorem rlist_any (t0 : Ty) (L : TmL) (ct cs : Array Value) (B : Nat → Prop) (w : World) (at_ : Int) (al : Option Addr) (cl gp op cp : Nat) (cs' : Array Value)
    (HT : ∀ (v : Tm) (cv : Array Value) (W : World) (q : Int), Below w.heap.size w W → v.all.e = 0 → v.In w B cv → 0 ≤ q → q + v.pn ≤ 16384 → Calls Tryz.prog 33 #[.agg cv, .agg cs', .int .i64 q] W (RIsE (t0.has v) q W))
    (hB : Sub B w) (h7 : ct[7]? = some (.slice al L.len cl)) (h13 : cs[13]? = some (.slice (some ⟨gp, op, none⟩) 1 cp)) (hgp : B gp) (hcs' : cs'.size = 18) (hcp : ∀ x, x < 18 → w.cell? ⟨gp, op + x, none⟩ = cs'[x]?)
    (hL : L.In w B al 0) (hgd : L.gd) (h0 : 0 ≤ at_) (h1 : at_ + 1 + L.pn ≤ 16384) (hlen : L.len ≤ 140737488355328) :
    Calls Tryz.prog 58 #[.agg ct, .agg cs, .int .i64 at_] w (RIsE (Sp.hasL t0.has L 1) at_ w) := by
  obtain ⟨W2, hW2, hb, hsz, b0, b1⟩ := is_boxes w ct cs
  have HB : Hid (Below w.heap.size w W2) := hb
  have HX : Hid (∀ W, Below W2.heap.size W2 W → W.cell? ⟨w.heap.size, 7, none⟩ = some (.slice al L.len cl) ∧ W.cell? ⟨w.heap.size + 1, 13, none⟩ = some (.slice (some ⟨gp, op, none⟩) 1 cp) ∧ (loadVar 43 ⟨gp, op, none⟩).run Tryz.prog W = .ok (.agg cs') W ∧ Below w.heap.size w W) := fun W hW => by
    have hbw := hb.trans (hW.mono hb.size)
    exact ⟨by rw [hW.cell (p := ⟨w.heap.size, 7, none⟩) (by show w.heap.size < _; omega), cell_of_row _ _ _ _ _ _ b0]; exact h7, by rw [hW.cell (p := ⟨w.heap.size + 1, 13, none⟩) (by show w.heap.size + 1 < _; omega), cell_of_row _ _ _ _ _ _ b1]; exact h13, yldE hcs' (fun x hx => by rw [hbw.cell (p := ⟨gp, op + x, none⟩) (hB gp hgp)]; exact hcp x hx), hbw⟩
  have HTH : Hid (∀ (v : Tm) (cv : Array Value) (W : World) (q : Int), Below w.heap.size w W → v.all.e = 0 → v.In w B cv → 0 ≤ q → q + v.pn ≤ 16384 → Calls Tryz.prog 33 #[.agg cv, .agg cs', .int .i64 q] W (RIsE (t0.has v) q W)) := HT
  have H0 : Hid (L.In w B al 0 ∧ L.gd ∧ Sub B w) := ⟨hL, hgd, hB⟩
  have HBD : Hid (Sp.bdd t0.has) := Ty.has_bd t0
  obtain ⟨RES, HRES⟩ : ∃ RES : Bool × Int, Hid (RES = Sp.hasL t0.has L 1) := ⟨_, show _ = _ from rfl⟩
  rw [← HRES.out]
  clear HT hB hb hsz b0 b1 h7 h13 hgp hcs' hcp hL hgd
  have d7 := (HX.out W2 (Below.refl _ _)).1
  go_enter Tryz.func58, Tryz.ntmps58
  have hLp := L.pn_pos
  go_wp2_with fail
  go_loopw [8, 9] (fun q x wr => ∃ (k : Nat) (l : TmL), q = .int .i64 (at_ + 1 + L.pre k) ∧ x = .int .i64 k ∧ l.len + k = L.len ∧ Hid (Below W2.heap.size W2 wr ∧ l.In w B al k ∧ l.gd ∧ RES = Sp.hasL t0.has l (1 + L.pre k) ∧ (∀ j, L.pre (k + j) = L.pre k + l.pre j) ∧ L.pre k + l.pn = L.pn)) (fun _ x _ => L.len - (intOf x).toNat)
  case atStart => exact ⟨0, L, by simp [TmL.pre], rfl, rfl, ⟨Below.refl _ _, H0.out.1, H0.out.2.1, by rw [HRES.out]; simp [TmL.pre], fun j => by simp [TmL.pre], by simp [TmL.pre]⟩⟩
  case round =>
    obtain ⟨k, l, rfl, rfl, hl, HK⟩ := hrel
    have e7 := (HX.out wr HK.out.1).1
    have hpb := L.pre_bd k
    cases l with
    | nil =>
      have h2 : L.len ≤ k := by simp [TmL.len] at hl; omega
      have HR : Hid (RES = (true, 0) ∧ Below w.heap.size w wr) := ⟨HK.out.2.2.2.1, (HX.out wr HK.out.1).2.2.2⟩
      clear hl HK
      go_wp2_with fail
      go_ret2
      exact RIsE.yes (by rw [HR.out.1]) HR.out.2
    | cons v l =>
      obtain ⟨hbw, hV, hg, hres, hpre, hsum⟩ := HK.out
      simp only [TmL.In] at hV
      obtain ⟨g, o1, cv, rfl, hgg, hcl, hti, hin'⟩ := hV
      have hk1 : k < L.len := by simp only [TmL.len] at hl; omega
      have HL : Hid (l.len + (k + 1) = L.len) := by show _ = _; simp only [TmL.len] at hl; omega
      have hbd := HBD.out v
      have hvp := v.pn_pos
      have hlp := l.pn_pos
      have hs2 : L.pre k + v.pn + l.pn = L.pn := by simp only [TmL.pn] at hsum; omega
      have hcv := Tm.In_size hti
      have hbww : ∀ W, Below wr.heap.size wr W → Below W2.heap.size W2 W := fun W hW => hbw.trans (hW.mono hbw.size)
      have HS : Hid (∀ W, Below wr.heap.size wr W → W.cell? ⟨w.heap.size, 7, none⟩ = some (.slice (some ⟨g, o1, none⟩) L.len cl) ∧ (loadVar 38 ⟨g, o1 + k * 11, none⟩).run Tryz.prog W = .ok (.agg cv) W ∧ W.cell? ⟨w.heap.size + 1, 13, none⟩ = some (.slice (some ⟨gp, op, none⟩) 1 cp) ∧ (loadVar 43 ⟨gp, op, none⟩).run Tryz.prog W = .ok (.agg cs') W) := fun W hW => by
        obtain ⟨q1, q2, q3, q4⟩ := HX.out W (hbww W hW)
        exact ⟨q1, yldT hcv (fun x hx => by rw [(H0.out.2.2.same q4).cell (p := ⟨g, o1 + k * 11 + x, none⟩) hgg]; exact hcl x hx), q2, q3⟩
      have HO : Hid (∀ W, Below wr.heap.size wr W → Calls Tryz.prog 33 #[.agg cv, .agg cs', .int .i64 (at_ + 1 + L.pre k)] W (RIsE (t0.has v) (at_ + 1 + L.pre k) W)) := fun W hW => HTH.out v cv W _ (HX.out W (hbww W hW)).2.2.2 hg.1 hti (by omega) (by omega)
      have HPC : Hid (∀ W, Below wr.heap.size wr W → Calls Tryz.prog 79 #[.agg cv] W fun e w' => e = .returned (.int .i64 v.pn) ∧ Below W.heap.size W w') := fun W hW => by
        have q4 := (HX.out W (hbww W hW)).2.2.2
        exact rparts_any v.sz v (Nat.le_refl _) (by omega) cv B W (v.In_same (H0.out.2.2.same q4) (fun _ h => h) cv hti) (H0.out.2.2.later q4)
      have HN : Hid (Below W2.heap.size W2 wr ∧ l.In w B (some ⟨g, o1, none⟩) (k + 1) ∧ l.gd ∧ (∀ j, L.pre (k + 1 + j) = L.pre (k + 1) + l.pre j) ∧ L.pre (k + 1) = L.pre k + v.pn) := by
        have hp1 : L.pre (k + 1) = L.pre k + v.pn := by rw [hpre 1]; simp [TmL.pre]
        exact ⟨hbw, hin', hg.2, fun j => by rw [Nat.add_assoc, Nat.add_comm 1 j, hpre (j + 1), hp1]; simp only [TmL.pre]; omega, hp1⟩
      have HR : Hid (RES = if (t0.has v).1 then Sp.hasL t0.has l (1 + L.pre k + v.pn) else (false, 1 + L.pre k + (t0.has v).2)) := by show _ = _; rw [hres]; simp only [Sp.hasL]
      have hi0 : (0 : Int) ≤ (k : Int) := Int.natCast_nonneg _
      have hi1 : (k : Int) < (L.len : Int) := by omega
      unfold RIsE at HO
      clear hl hbw hcl hti hin' hg hres hpre HK hsum hcv hgg hbww
      generalize t0.has v = r at *
      obtain ⟨rb, rq⟩ := r
      simp only at hbd HR HO
      obtain ⟨Q, HQ⟩ : ∃ Q, Hid (at_ + 1 + L.pre k = Q) := ⟨_, show _ = _ from rfl⟩
      have hQ0 : 0 ≤ Q := by have := HQ.out; omega
      have hQ1 : Q ≤ 16384 := by have := HQ.out; omega
      have hQ2 : Q + v.pn ≤ 16384 := by have := HQ.out; omega
      rw [HQ.out] at HO
      rw [HQ.out]
      cases rb with
      | true =>
        simp only [if_true] at HO
        go_wp2_with fail
        refine wp_region_held_drew (S := fun W => W.cell? ⟨w.heap.size, 7, none⟩ = some (.slice (some ⟨g, o1, none⟩) L.len cl) ∧ (loadVar 38 ⟨g, o1 + k * 11, none⟩).run Tryz.prog W = .ok (.agg cv) W ∧ W.cell? ⟨w.heap.size + 1, 13, none⟩ = some (.slice (some ⟨gp, op, none⟩) 1 cp) ∧ (loadVar 43 ⟨gp, op, none⟩).run Tryz.prog W = .ok (.agg cs') W) (by kernel_rfl) ?_ (fun hHeld => ?_)
        · exact HS.out _ (Below.refl _ _).drew
        refine wpAnyH_take (i := 0) (oi := { dst := some 22, op := Go.Op.fieldAddr 38 (Go.Operand.tmp 3) 7, type := 0, pos := "ref.go:112", after := #[], guard := none }) (v := ?_) rfl (by kernel_rfl) (by kernel_rfl) (by kernel_rfl) (fun _ _ _ h => h) (Or.inl ⟨by rfl, ?_⟩) (by assumption) ?_
        rotate_left
        · intro w hSw; (try dsimp only at hSw); go_simp; try (with_reducible rfl)
        simp only [Act.put, List.setIfInBounds_toArray, List.set_cons_zero, List.set_cons_succ]
        refine wpAnyH_take (i := 1) (oi := { dst := some 23, op := Go.Op.load 35 (Go.Operand.tmp 22), type := 35, pos := "ref.go:112", after := #[{ on := 0, ground := Go.Ground.data }], guard := none }) (v := ?_) rfl (by kernel_rfl) (by kernel_rfl) (by kernel_rfl) (fun _ _ _ h => h) (Or.inl ⟨by rfl, ?_⟩) (by assumption) ?_
        rotate_left
        · intro w hSw; (try dsimp only at hSw); go_simp; try (with_reducible rfl)
        simp only [Act.put, List.setIfInBounds_toArray, List.set_cons_zero, List.set_cons_succ]
        refine wpAnyH_take (i := 2) (oi := { dst := some 24, op := Go.Op.move (Go.Operand.tmp 9), type := 3, pos := "ref.go:112", after := #[], guard := none }) (v := ?_) rfl (by kernel_rfl) (by kernel_rfl) (by kernel_rfl) (fun _ _ _ h => h) (Or.inl ⟨by rfl, ?_⟩) (by assumption) ?_
        rotate_left
        · intro w hSw; (try dsimp only at hSw); go_simp; try (with_reducible rfl)
        simp only [Act.put, List.setIfInBounds_toArray, List.set_cons_zero, List.set_cons_succ]
        refine wpAnyH_take (i := 3) (oi := { dst := some 25, op := Go.Op.indexAddr 35 (Go.Operand.tmp 23) (Go.Operand.tmp 24), type := 0, pos := "ref.go:112", after := #[{ on := 1, ground := Go.Ground.data }, { on := 2, ground := Go.Ground.data }], guard := none }) (v := ?_) rfl (by kernel_rfl) (by kernel_rfl) (by kernel_rfl) (fun _ _ _ h => h) (Or.inl ⟨by rfl, ?_⟩) (by assumption) ?_
        rotate_left
        · intro w hSw; (try dsimp only at hSw); go_simp; try (with_reducible rfl)
        simp only [Act.put, List.setIfInBounds_toArray, List.set_cons_zero, List.set_cons_succ]
        refine wpAnyH_take (i := 4) (oi := { dst := some 26, op := Go.Op.load 38 (Go.Operand.tmp 25), type := 38, pos := "ref.go:112", after := #[{ on := 3, ground := Go.Ground.data }], guard := none }) (v := (.agg cv)) rfl (by kernel_rfl) (by kernel_rfl) (by kernel_rfl) (fun _ _ _ h => h) (take_ld rfl rfl rfl (fun w hSw => hSw.2.1)) (by assumption) ?_
        simp only [Act.put, List.setIfInBounds_toArray, List.set_cons_zero, List.set_cons_succ]
        refine wpAnyH_take (i := 5) (oi := { dst := some 27, op := Go.Op.fieldAddr 43 (Go.Operand.tmp 4) 3, type := 0, pos := "ref.go:112", after := #[], guard := none }) (v := ?_) rfl (by kernel_rfl) (by kernel_rfl) (by kernel_rfl) (fun _ _ _ h => h) (Or.inl ⟨by rfl, ?_⟩) (by assumption) ?_
        rotate_left
        · intro w hSw; (try dsimp only at hSw); go_simp; try (with_reducible rfl)
        simp only [Act.put, List.setIfInBounds_toArray, List.set_cons_zero, List.set_cons_succ]
        refine wpAnyH_take (i := 6) (oi := { dst := some 28, op := Go.Op.load 39 (Go.Operand.tmp 27), type := 39, pos := "ref.go:112", after := #[{ on := 5, ground := Go.Ground.data }], guard := none }) (v := ?_) rfl (by kernel_rfl) (by kernel_rfl) (by kernel_rfl) (fun _ _ _ h => h) (Or.inl ⟨by rfl, ?_⟩) (by assumption) ?_
        rotate_left
        · intro w hSw; (try dsimp only at hSw); go_simp; try (with_reducible rfl)
        simp only [Act.put, List.setIfInBounds_toArray, List.set_cons_zero, List.set_cons_succ]
        refine wpAnyH_take (i := 7) (oi := { dst := some 29, op := Go.Op.indexAddr 39 (Go.Operand.tmp 28) (Go.Operand.const (Go.Value.int Go.IntKind.i64 0)), type := 0, pos := "ref.go:112", after := #[{ on := 6, ground := Go.Ground.data }], guard := none }) (v := ?_) rfl (by kernel_rfl) (by kernel_rfl) (by kernel_rfl) (fun _ _ _ h => h) (Or.inl ⟨by rfl, ?_⟩) (by assumption) ?_
        rotate_left
        · intro w hSw; (try dsimp only at hSw); go_simp; try (with_reducible rfl)
        simp only [Act.put, List.setIfInBounds_toArray, List.set_cons_zero, List.set_cons_succ]
        refine wpAnyH_take (i := 8) (oi := { dst := some 30, op := Go.Op.load 43 (Go.Operand.tmp 29), type := 43, pos := "ref.go:112", after := #[{ on := 7, ground := Go.Ground.data }], guard := none }) (v := (.agg cs')) rfl (by kernel_rfl) (by kernel_rfl) (by kernel_rfl) (fun _ _ _ h => h) (take_ld rfl rfl rfl (fun w hSw => hSw.2.2.2)) (by assumption) ?_
        simp only [Act.put, List.setIfInBounds_toArray, List.set_cons_zero, List.set_cons_succ]
        refine wpAnyH_take (i := 9) (oi := { dst := some 31, op := Go.Op.move (Go.Operand.tmp 8), type := 3, pos := "ref.go:112", after := #[], guard := none }) (v := ?_) rfl (by kernel_rfl) (by kernel_rfl) (by kernel_rfl) (fun _ _ _ h => h) (Or.inl ⟨by rfl, ?_⟩) (by assumption) ?_
        rotate_left
        · intro w hSw; (try dsimp only at hSw); go_simp; try (with_reducible rfl)
        simp only [Act.put, List.setIfInBounds_toArray, List.set_cons_zero, List.set_cons_succ]
        refine wpAnyH_ready (rs := [10]) (by kernel_rfl) (by simp) ?_
        refine AllReadyH.cons (o := { dst := some 32, op := Go.Op.call { callee := Go.Callee.value (Go.Operand.func 33), args := #[Go.Operand.tmp 26, Go.Operand.tmp 30, Go.Operand.tmp 31], argTypes := #[38, 43, 3] }, type := 64, pos := "ref.go:112", after := #[{ on := 4, ground := Go.Ground.data }, { on := 8, ground := Go.Ground.data }, { on := 9, ground := Go.Ground.data }], guard := none }) rfl (fun K hK => ?_) AllReadyH.nil
        go_simp
        (refine (HO.out _ (Below.refl _ _).drew).mono ?_; rintro e w5 ⟨rfl, hb5⟩; have HB5 : Hid (Below wr.heap.size wr w5) := below_to (Below.refl _ _).drew hb5; clear hb5)
        go_wp2_with fail
        refine hK.out _ _ ?_ (fun hHeld => ?_)
        · exact HS.out _ HB5.out
        clear hK K
        refine wpAnyH_take (i := 11) (oi := { dst := some 21, op := Go.Op.move (Go.Operand.tmp 32), type := 64, pos := "ref.go:112", after := #[{ on := 10, ground := Go.Ground.data }], guard := none }) (v := ?_) rfl (by kernel_rfl) (by kernel_rfl) (by kernel_rfl) (fun _ _ _ h => h) (Or.inl ⟨by rfl, ?_⟩) (by assumption) ?_
        rotate_left
        · intro w hSw; (try dsimp only at hSw); go_simp; try (with_reducible rfl)
        simp only [Act.put, List.setIfInBounds_toArray, List.set_cons_zero, List.set_cons_succ]
        refine wpAnyH_take (i := 12) (oi := { dst := some 33, op := Go.Op.extract (Go.Operand.tmp 21) 0, type := 4, pos := "ref.go:112", after := #[{ on := 11, ground := Go.Ground.data }], guard := none }) (v := ?_) rfl (by kernel_rfl) (by kernel_rfl) (by kernel_rfl) (fun _ _ _ h => h) (Or.inl ⟨by rfl, ?_⟩) (by assumption) ?_
        rotate_left
        · intro w hSw; (try dsimp only at hSw); go_simp; try (with_reducible rfl)
        simp only [Act.put, List.setIfInBounds_toArray, List.set_cons_zero, List.set_cons_succ]
        refine wpAnyH_take (i := 13) (oi := { dst := some 34, op := Go.Op.extract (Go.Operand.tmp 21) 1, type := 3, pos := "ref.go:112", after := #[{ on := 11, ground := Go.Ground.data }, { on := 14, ground := Go.Ground.gcOnly Go.Departure.lateStores }], guard := none }) (v := ?_) rfl (by kernel_rfl) (by kernel_rfl) (by kernel_rfl) (fun _ _ _ h => h) (Or.inl ⟨by rfl, ?_⟩) (by assumption) ?_
        rotate_left
        · intro w hSw; (try dsimp only at hSw); go_simp; try (with_reducible rfl)
        simp only [Act.put, List.setIfInBounds_toArray, List.set_cons_zero, List.set_cons_succ]
        refine wpAnyH_take (i := 14) (oi := { dst := some 10, op := Go.Op.assign (Go.Operand.tmp 33), type := 4, pos := "ref.go:112", after := #[{ on := 12, ground := Go.Ground.data }, { on := 10, ground := Go.Ground.chain }, { on := 0, ground := Go.Ground.phase }, { on := 1, ground := Go.Ground.phase }, { on := 2, ground := Go.Ground.phase }, { on := 3, ground := Go.Ground.phase }, { on := 4, ground := Go.Ground.phase }, { on := 5, ground := Go.Ground.phase }, { on := 6, ground := Go.Ground.phase }, { on := 7, ground := Go.Ground.phase }, { on := 8, ground := Go.Ground.phase }, { on := 9, ground := Go.Ground.phase }, { on := 10, ground := Go.Ground.phase }, { on := 11, ground := Go.Ground.phase }, { on := 12, ground := Go.Ground.phase }, { on := 13, ground := Go.Ground.textOnly Go.Departure.lateStores }], guard := none }) (v := ?_) rfl (by kernel_rfl) (by kernel_rfl) (by kernel_rfl) (fun _ _ _ h => h) (Or.inl ⟨by rfl, ?_⟩) (by assumption) ?_
        rotate_left
        · intro w hSw; (try dsimp only at hSw); go_simp; try (with_reducible rfl)
        simp only [Act.put, List.setIfInBounds_toArray, List.set_cons_zero, List.set_cons_succ]
        refine wpAnyH_take (i := 15) (oi := { dst := some 11, op := Go.Op.assign (Go.Operand.tmp 34), type := 3, pos := "ref.go:112", after := #[{ on := 13, ground := Go.Ground.data }, { on := 14, ground := Go.Ground.chain }, { on := 0, ground := Go.Ground.phase }, { on := 1, ground := Go.Ground.phase }, { on := 2, ground := Go.Ground.phase }, { on := 3, ground := Go.Ground.phase }, { on := 4, ground := Go.Ground.phase }, { on := 5, ground := Go.Ground.phase }, { on := 6, ground := Go.Ground.phase }, { on := 7, ground := Go.Ground.phase }, { on := 8, ground := Go.Ground.phase }, { on := 9, ground := Go.Ground.phase }, { on := 10, ground := Go.Ground.phase }, { on := 11, ground := Go.Ground.phase }, { on := 12, ground := Go.Ground.phase }, { on := 13, ground := Go.Ground.phase }, { on := 14, ground := Go.Ground.phase }], guard := none }) (v := ?_) rfl (by kernel_rfl) (by kernel_rfl) (by kernel_rfl) (fun _ _ _ h => h) (Or.inl ⟨by rfl, ?_⟩) (by assumption) ?_
        rotate_left
        · intro w hSw; (try dsimp only at hSw); go_simp; try (with_reducible rfl)
        simp only [Act.put, List.setIfInBounds_toArray, List.set_cons_zero, List.set_cons_succ]
        refine wpAnyH_done (by kernel_rfl) ?_ _
        have H5 : Hid (Below W2.heap.size W2 w5 ∧ wr.heap.size ≤ w5.heap.size) := ⟨HN.out.1.trans (HB5.out.mono HN.out.1.size), HB5.out.size⟩
        obtain ⟨f7, HL5, -, -⟩ := HS.out w5 HB5.out
        have HL5 : Hid ((loadVar 38 ⟨g, o1 + k * 11, none⟩).run Tryz.prog w5 = .ok (.agg cv) w5) := HL5
        have HP5 : Hid (Calls Tryz.prog 79 #[.agg cv] w5 fun e w' => e = .returned (.int .i64 v.pn) ∧ Below w5.heap.size w5 w') := HPC.out w5 HB5.out
        generalize v.pn = vp at *
        go_wp2_with ((with_reducible refine ld_row ?_ ?_ HL5.out ?_); rfl; rfl)
        refine HP5.out.mono ?_
        rintro e w6 ⟨rfl, hb6⟩
        have H6 : Hid (Below W2.heap.size W2 w6) := H5.out.1.trans (hb6.mono H5.out.1.size)
        clear hb6
        go_wp2_with fail
        go_roundw
        case rel => exact ⟨k + 1, l, by rw [HN.out.2.2.2.2, ← HQ.out]; go_num, by go_num, HL.out, ⟨H6.out, HN.out.2.1, HN.out.2.2.1, by rw [HR.out, HN.out.2.2.2.2]; simp [Int.add_assoc], HN.out.2.2.2.1, by rw [HN.out.2.2.2.2]; omega⟩⟩
        case measure => simp [intOf]; omega
      | false =>
        simp only [Bool.false_eq_true, if_false] at HO
        go_wp2_with fail
        refine wp_region_held_drew (S := fun W => W.cell? ⟨w.heap.size, 7, none⟩ = some (.slice (some ⟨g, o1, none⟩) L.len cl) ∧ (loadVar 38 ⟨g, o1 + k * 11, none⟩).run Tryz.prog W = .ok (.agg cv) W ∧ W.cell? ⟨w.heap.size + 1, 13, none⟩ = some (.slice (some ⟨gp, op, none⟩) 1 cp) ∧ (loadVar 43 ⟨gp, op, none⟩).run Tryz.prog W = .ok (.agg cs') W) (by kernel_rfl) ?_ (fun hHeld => ?_)
        · exact HS.out _ (Below.refl _ _).drew
        refine wpAnyH_take (i := 0) (oi := { dst := some 22, op := Go.Op.fieldAddr 38 (Go.Operand.tmp 3) 7, type := 0, pos := "ref.go:112", after := #[], guard := none }) (v := ?_) rfl (by kernel_rfl) (by kernel_rfl) (by kernel_rfl) (fun _ _ _ h => h) (Or.inl ⟨by rfl, ?_⟩) (by assumption) ?_
        rotate_left
        · intro w hSw; (try dsimp only at hSw); go_simp; try (with_reducible rfl)
        simp only [Act.put, List.setIfInBounds_toArray, List.set_cons_zero, List.set_cons_succ]
        refine wpAnyH_take (i := 1) (oi := { dst := some 23, op := Go.Op.load 35 (Go.Operand.tmp 22), type := 35, pos := "ref.go:112", after := #[{ on := 0, ground := Go.Ground.data }], guard := none }) (v := ?_) rfl (by kernel_rfl) (by kernel_rfl) (by kernel_rfl) (fun _ _ _ h => h) (Or.inl ⟨by rfl, ?_⟩) (by assumption) ?_
        rotate_left
        · intro w hSw; (try dsimp only at hSw); go_simp; try (with_reducible rfl)
        simp only [Act.put, List.setIfInBounds_toArray, List.set_cons_zero, List.set_cons_succ]
        refine wpAnyH_take (i := 2) (oi := { dst := some 24, op := Go.Op.move (Go.Operand.tmp 9), type := 3, pos := "ref.go:112", after := #[], guard := none }) (v := ?_) rfl (by kernel_rfl) (by kernel_rfl) (by kernel_rfl) (fun _ _ _ h => h) (Or.inl ⟨by rfl, ?_⟩) (by assumption) ?_
        rotate_left
        · intro w hSw; (try dsimp only at hSw); go_simp; try (with_reducible rfl)
        simp only [Act.put, List.setIfInBounds_toArray, List.set_cons_zero, List.set_cons_succ]
        refine wpAnyH_take (i := 3) (oi := { dst := some 25, op := Go.Op.indexAddr 35 (Go.Operand.tmp 23) (Go.Operand.tmp 24), type := 0, pos := "ref.go:112", after := #[{ on := 1, ground := Go.Ground.data }, { on := 2, ground := Go.Ground.data }], guard := none }) (v := ?_) rfl (by kernel_rfl) (by kernel_rfl) (by kernel_rfl) (fun _ _ _ h => h) (Or.inl ⟨by rfl, ?_⟩) (by assumption) ?_
        rotate_left
        · intro w hSw; (try dsimp only at hSw); go_simp; try (with_reducible rfl)
        simp only [Act.put, List.setIfInBounds_toArray, List.set_cons_zero, List.set_cons_succ]
        refine wpAnyH_take (i := 4) (oi := { dst := some 26, op := Go.Op.load 38 (Go.Operand.tmp 25), type := 38, pos := "ref.go:112", after := #[{ on := 3, ground := Go.Ground.data }], guard := none }) (v := (.agg cv)) rfl (by kernel_rfl) (by kernel_rfl) (by kernel_rfl) (fun _ _ _ h => h) (take_ld rfl rfl rfl (fun w hSw => hSw.2.1)) (by assumption) ?_
        simp only [Act.put, List.setIfInBounds_toArray, List.set_cons_zero, List.set_cons_succ]
        refine wpAnyH_take (i := 5) (oi := { dst := some 27, op := Go.Op.fieldAddr 43 (Go.Operand.tmp 4) 3, type := 0, pos := "ref.go:112", after := #[], guard := none }) (v := ?_) rfl (by kernel_rfl) (by kernel_rfl) (by kernel_rfl) (fun _ _ _ h => h) (Or.inl ⟨by rfl, ?_⟩) (by assumption) ?_
        rotate_left
        · intro w hSw; (try dsimp only at hSw); go_simp; try (with_reducible rfl)
        simp only [Act.put, List.setIfInBounds_toArray, List.set_cons_zero, List.set_cons_succ]
        refine wpAnyH_take (i := 6) (oi := { dst := some 28, op := Go.Op.load 39 (Go.Operand.tmp 27), type := 39, pos := "ref.go:112", after := #[{ on := 5, ground := Go.Ground.data }], guard := none }) (v := ?_) rfl (by kernel_rfl) (by kernel_rfl) (by kernel_rfl) (fun _ _ _ h => h) (Or.inl ⟨by rfl, ?_⟩) (by assumption) ?_
        rotate_left
        · intro w hSw; (try dsimp only at hSw); go_simp; try (with_reducible rfl)
        simp only [Act.put, List.setIfInBounds_toArray, List.set_cons_zero, List.set_cons_succ]
        refine wpAnyH_take (i := 7) (oi := { dst := some 29, op := Go.Op.indexAddr 39 (Go.Operand.tmp 28) (Go.Operand.const (Go.Value.int Go.IntKind.i64 0)), type := 0, pos := "ref.go:112", after := #[{ on := 6, ground := Go.Ground.data }], guard := none }) (v := ?_) rfl (by kernel_rfl) (by kernel_rfl) (by kernel_rfl) (fun _ _ _ h => h) (Or.inl ⟨by rfl, ?_⟩) (by assumption) ?_
        rotate_left
        · intro w hSw; (try dsimp only at hSw); go_simp; try (with_reducible rfl)
        simp only [Act.put, List.setIfInBounds_toArray, List.set_cons_zero, List.set_cons_succ]
        refine wpAnyH_take (i := 8) (oi := { dst := some 30, op := Go.Op.load 43 (Go.Operand.tmp 29), type := 43, pos := "ref.go:112", after := #[{ on := 7, ground := Go.Ground.data }], guard := none }) (v := (.agg cs')) rfl (by kernel_rfl) (by kernel_rfl) (by kernel_rfl) (fun _ _ _ h => h) (take_ld rfl rfl rfl (fun w hSw => hSw.2.2.2)) (by assumption) ?_
        simp only [Act.put, List.setIfInBounds_toArray, List.set_cons_zero, List.set_cons_succ]
        refine wpAnyH_take (i := 9) (oi := { dst := some 31, op := Go.Op.move (Go.Operand.tmp 8), type := 3, pos := "ref.go:112", after := #[], guard := none }) (v := ?_) rfl (by kernel_rfl) (by kernel_rfl) (by kernel_rfl) (fun _ _ _ h => h) (Or.inl ⟨by rfl, ?_⟩) (by assumption) ?_
        rotate_left
        · intro w hSw; (try dsimp only at hSw); go_simp; try (with_reducible rfl)
        simp only [Act.put, List.setIfInBounds_toArray, List.set_cons_zero, List.set_cons_succ]
        refine wpAnyH_ready (rs := [10]) (by kernel_rfl) (by simp) ?_
        refine AllReadyH.cons (o := { dst := some 32, op := Go.Op.call { callee := Go.Callee.value (Go.Operand.func 33), args := #[Go.Operand.tmp 26, Go.Operand.tmp 30, Go.Operand.tmp 31], argTypes := #[38, 43, 3] }, type := 64, pos := "ref.go:112", after := #[{ on := 4, ground := Go.Ground.data }, { on := 8, ground := Go.Ground.data }, { on := 9, ground := Go.Ground.data }], guard := none }) rfl (fun K hK => ?_) AllReadyH.nil
        go_simp
        (refine (HO.out _ (Below.refl _ _).drew).mono ?_; rintro e w5 ⟨rfl, hb5⟩; have HB5 : Hid (Below wr.heap.size wr w5) := below_to (Below.refl _ _).drew hb5; clear hb5)
        go_wp2_with fail
        refine hK.out _ _ ?_ (fun hHeld => ?_)
        · exact HS.out _ HB5.out
        clear hK K
        refine wpAnyH_take (i := 11) (oi := { dst := some 21, op := Go.Op.move (Go.Operand.tmp 32), type := 64, pos := "ref.go:112", after := #[{ on := 10, ground := Go.Ground.data }], guard := none }) (v := ?_) rfl (by kernel_rfl) (by kernel_rfl) (by kernel_rfl) (fun _ _ _ h => h) (Or.inl ⟨by rfl, ?_⟩) (by assumption) ?_
        rotate_left
        · intro w hSw; (try dsimp only at hSw); go_simp; try (with_reducible rfl)
        simp only [Act.put, List.setIfInBounds_toArray, List.set_cons_zero, List.set_cons_succ]
        refine wpAnyH_take (i := 12) (oi := { dst := some 33, op := Go.Op.extract (Go.Operand.tmp 21) 0, type := 4, pos := "ref.go:112", after := #[{ on := 11, ground := Go.Ground.data }], guard := none }) (v := ?_) rfl (by kernel_rfl) (by kernel_rfl) (by kernel_rfl) (fun _ _ _ h => h) (Or.inl ⟨by rfl, ?_⟩) (by assumption) ?_
        rotate_left
        · intro w hSw; (try dsimp only at hSw); go_simp; try (with_reducible rfl)
        simp only [Act.put, List.setIfInBounds_toArray, List.set_cons_zero, List.set_cons_succ]
        refine wpAnyH_take (i := 13) (oi := { dst := some 34, op := Go.Op.extract (Go.Operand.tmp 21) 1, type := 3, pos := "ref.go:112", after := #[{ on := 11, ground := Go.Ground.data }, { on := 14, ground := Go.Ground.gcOnly Go.Departure.lateStores }], guard := none }) (v := ?_) rfl (by kernel_rfl) (by kernel_rfl) (by kernel_rfl) (fun _ _ _ h => h) (Or.inl ⟨by rfl, ?_⟩) (by assumption) ?_
        rotate_left
        · intro w hSw; (try dsimp only at hSw); go_simp; try (with_reducible rfl)
        simp only [Act.put, List.setIfInBounds_toArray, List.set_cons_zero, List.set_cons_succ]
        refine wpAnyH_take (i := 14) (oi := { dst := some 10, op := Go.Op.assign (Go.Operand.tmp 33), type := 4, pos := "ref.go:112", after := #[{ on := 12, ground := Go.Ground.data }, { on := 10, ground := Go.Ground.chain }, { on := 0, ground := Go.Ground.phase }, { on := 1, ground := Go.Ground.phase }, { on := 2, ground := Go.Ground.phase }, { on := 3, ground := Go.Ground.phase }, { on := 4, ground := Go.Ground.phase }, { on := 5, ground := Go.Ground.phase }, { on := 6, ground := Go.Ground.phase }, { on := 7, ground := Go.Ground.phase }, { on := 8, ground := Go.Ground.phase }, { on := 9, ground := Go.Ground.phase }, { on := 10, ground := Go.Ground.phase }, { on := 11, ground := Go.Ground.phase }, { on := 12, ground := Go.Ground.phase }, { on := 13, ground := Go.Ground.textOnly Go.Departure.lateStores }], guard := none }) (v := ?_) rfl (by kernel_rfl) (by kernel_rfl) (by kernel_rfl) (fun _ _ _ h => h) (Or.inl ⟨by rfl, ?_⟩) (by assumption) ?_
        rotate_left
        · intro w hSw; (try dsimp only at hSw); go_simp; try (with_reducible rfl)
        simp only [Act.put, List.setIfInBounds_toArray, List.set_cons_zero, List.set_cons_succ]
        refine wpAnyH_take (i := 15) (oi := { dst := some 11, op := Go.Op.assign (Go.Operand.tmp 34), type := 3, pos := "ref.go:112", after := #[{ on := 13, ground := Go.Ground.data }, { on := 14, ground := Go.Ground.chain }, { on := 0, ground := Go.Ground.phase }, { on := 1, ground := Go.Ground.phase }, { on := 2, ground := Go.Ground.phase }, { on := 3, ground := Go.Ground.phase }, { on := 4, ground := Go.Ground.phase }, { on := 5, ground := Go.Ground.phase }, { on := 6, ground := Go.Ground.phase }, { on := 7, ground := Go.Ground.phase }, { on := 8, ground := Go.Ground.phase }, { on := 9, ground := Go.Ground.phase }, { on := 10, ground := Go.Ground.phase }, { on := 11, ground := Go.Ground.phase }, { on := 12, ground := Go.Ground.phase }, { on := 13, ground := Go.Ground.phase }, { on := 14, ground := Go.Ground.phase }], guard := none }) (v := ?_) rfl (by kernel_rfl) (by kernel_rfl) (by kernel_rfl) (fun _ _ _ h => h) (Or.inl ⟨by rfl, ?_⟩) (by assumption) ?_
        rotate_left
        · intro w hSw; (try dsimp only at hSw); go_simp; try (with_reducible rfl)
        simp only [Act.put, List.setIfInBounds_toArray, List.set_cons_zero, List.set_cons_succ]
        refine wpAnyH_done (by kernel_rfl) ?_ _
        have H5 : Hid (Below w.heap.size w w5) := (HX.out w5 (HN.out.1.trans (HB5.out.mono HN.out.1.size))).2.2.2
        go_wp2_with fail
        go_ret2
        have hfin : at_ + (1 + L.pre k + rq) = Q + rq := by have := HQ.out; omega
        rw [← hfin]
        exact RIsE.no (by rw [HR.out]; rfl) H5.out
set_option maxRecDepth 100000 in
set_option maxHeartbeats 4000000 in
theorem ris_5 (N : Nat) (HC : RIsC N) (o : Int) (t : Tm) (t0 : Ty) (n : List ByteArray) (l : List Bool) (op : Bool) (c : ByteArray) (hN : t0.sz ≤ N) (hok : t0.ok = true) (v : Tm) (ct cs : Array Value) (B : Nat → Prop) (w : World) (at_ : Int) (hs : (Ty.mk 5 o t (.cons t0 .nil) n l op c).In w B cs) (hv : v.In w B ct) (hB : Sub B w) (hg : v.all.e = 0) (h0 : 0 ≤ at_) (h1 : at_ + v.pn ≤ 16384) :
    Calls Tryz.prog 33 #[.agg ct, .agg cs, .int .i64 at_] w (RIsE ((Ty.mk 5 o t (.cons t0 .nil) n l op c).has v) at_ w) := by
  obtain ⟨hz, c0, -, -, -, ap, cp, -, -, -, -, c13, -, -, hp, -, -, -, hpl, -⟩ := Ty.In_all hs
  have hs' := hs
  obtain ⟨W2, hW2, hb, hsz, b0, b1⟩ := is_boxes w ct cs
  have d0 : W2.cell? ⟨w.heap.size + 1, 0, none⟩ = some (.int .i64 5) := by rw [cell_of_row _ _ _ _ _ _ b1]; exact c0
  have d2 : W2.cell? ⟨w.heap.size, 0, none⟩ = some (.int .i64 v.knd) := by rw [cell_of_row _ _ _ _ _ _ b0]; cases v; exact (Tm.In_all hv).2.1
  have HB : Hid (Below w.heap.size w W2) := hb
  have H : Hid ((Ty.mk 5 o t (.cons t0 .nil) n l op c).has v = if v.knd = 8 then Sp.hasL t0.has v.lst 1 else (false, 0)) := by show _ = _; simp [Ty.has, TyL.hasHead]
  by_cases hk : v.knd = 8
  · have HL1 : Hid ((loadVar 38 ⟨w.heap.size, 0, none⟩).run Tryz.prog W2 = .ok (.agg ct) W2) := yldT (Tm.In_size hv) (fun x hx => by rw [Nat.zero_add, cell_of_row _ _ _ _ _ _ b0])
    have HL2 : Hid ((loadVar 43 ⟨w.heap.size + 1, 0, none⟩).run Tryz.prog W2 = .ok (.agg cs) W2) := yld hz b1
    simp only [TyL.In] at hp
    obtain ⟨gp, o1, cs', rfl, hgp, hcl, hti, -⟩ := hp
    have HLC : Hid (Calls Tryz.prog 58 #[.agg ct, .agg cs, .int .i64 at_] W2 (RIsE (Sp.hasL t0.has v.lst 1) at_ W2)) := by
      cases v with
      | mk k b2 i f tx by' rf l' fs c' vr =>
        have hk' : k = 8 := hk
        subst hk'
        obtain ⟨-, -, -, al, cl, af, cf, q7, -, ql, -⟩ := Tm.In_all hv
        have hgp2 := (Tm.good_parts hg).1 rfl
        have hsB := hB.same hb
        have h1' : at_ + 1 + l'.pn ≤ 16384 := by simp only [Tm.pn] at h1; simp at h1; omega
        have hlen : l'.len ≤ 140737488355328 := by have := TmL.len_pn l'; omega
        exact rlist_any t0 l' ct cs B W2 at_ al cl gp o1 cp cs' (fun u cv W q hW hu hcv hq0 hq1 => HC t0 hN hok u cv cs' B W q hu (u.In_same ((hB.later hb).same hW) (fun _ h => h) cv hcv) (t0.In_same (hsB.trans ((hB.later hb).same hW)) (fun _ h => h) cs' hti) ((hB.later hb).later hW) hq0 hq1)
          (hB.later hb) q7 c13 hgp (Ty.In_cells hti).1 (fun x hx => by rw [hsB.cell (p := ⟨gp, o1 + x, none⟩) hgp]; have := hcl x hx; simpa using this) (l'.In_same hsB (fun _ h => h) al 0 ql) hgp2.1 h0 h1' hlen
    have HE : Hid ((Ty.mk 5 o t (.cons t0 .nil) n l op c).has v = Sp.hasL t0.has v.lst 1) := by show _ = _; rw [H.out, if_pos hk]
    rw [hk] at d2
    clear H hk hs hs' hv hg b0 b1 hz c0 c13 hcl hti hb hB HC
    rw [HE.out]
    unfold RIsE at HLC ⊢
    generalize Sp.hasL t0.has v.lst 1 = r at *
    generalize (if r.1 = true then (0 : Int) else at_ + r.2) = q at *
    obtain ⟨rb, rq⟩ := r
    go_enter Tryz.func33, Tryz.ntmps33
    go_wp2_with (first | ((with_reducible refine ld_row ?_ ?_ HL1.out ?_); rfl; rfl) | ((with_reducible refine ld_row ?_ ?_ HL2.out ?_); rfl; rfl))
    refine HLC.out.mono ?_
    rintro e w1 ⟨rfl, hb1⟩
    have H1 : Hid (Below w.heap.size w w1) := HB.out.trans (hb1.mono HB.out.size)
    clear hb1
    go_wp2_with fail
    go_ret2
    exact ⟨rfl, H1.out⟩
  · have HE : Hid ((Ty.mk 5 o t (.cons t0 .nil) n l op c).has v = (false, 0)) := by show _ = _; rw [H.out, if_neg hk]
    have hkb : (v.knd == 8) = false := by simp [hk]
    clear H hk hs hs' hv hg b0 b1 hz c0 c13 hp hb hB HC
    generalize v.knd = kv at *
    go_enter Tryz.func33, Tryz.ntmps33
    go_wp2_with fail
    go_ret2
    exact RIsE.no0 HE.out HB.out
end Go.Proofs.YtbjcabpmndhfmaaGreat

