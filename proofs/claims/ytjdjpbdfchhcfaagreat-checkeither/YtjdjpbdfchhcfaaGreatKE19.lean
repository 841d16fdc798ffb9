/- types.ownFits, fits, termsFit, Can: which types can be. -/
import Derived.Test.YtjdjpbdfchhcfaaGreatKE10
import Derived.Test.YtjdjpbdfchhcfaaGreatKE18
namespace Go.Proofs.YtjdjpbdfchhcfaaGreat
open Go.RowKit

theorem ret_bo {a b : Bool} (h : a = b) : Ending.returned (.bool a) = .returned (.bool b) := by rw [h]
set_option maxRecDepth 100000 in
set_option maxHeartbeats 4000000 in
theorem ownFits_any (t : Ty) (cs : Array Value) (B : Nat → Prop) (w : World) (h : t.In w B cs) (hB : Sub B w) :
    Calls Tryz.prog 124 #[.agg cs] w fun e w' => e = .returned (.bool t.own) ∧ Below w.heap.size w w' := by
  cases t with
  | mk k o t p n l op c =>
    simp only [Ty.In] at h
    obtain ⟨k1, b, i, f, tx, ab, nb, cb, rf, al, nl, cl, af, nf, cf, c1, vr, ap, cp, an, cn, ak, ck, rfl, -, hk, ho, hz, -, hn, -⟩ := h
    obtain ⟨OW, HOW⟩ : ∃ OW : Bool, Hid (OW = (Ty.mk k o t p n l op c).own) := ⟨_, show _ = _ from rfl⟩
    rw [← HOW.out]
    have HN : Hid (∀ W, Below w.heap.size w W → Calls Tryz.prog 133 #[.slice an n.length cn] W fun e w' => e = .returned (.bool (Sp.namesFit n)) ∧ W = w') := fun W hW => namesFit_any n an cn B W (hn.same (hB.same hW) (fun _ h => h)) (by omega)
    have HC : Hid (∀ W, Calls Tryz.prog 131 #[.string c] W fun e w' => e = .returned (.bool (Sp.isNm c)) ∧ W = w') := fun W => isName_any c W (by unfold maxLen; omega)
    obtain ⟨hz1, hz2, hz3, -⟩ := hz
    unfold ycells
    clear hn
    by_cases h124 : k = 1 ∨ k = 2 ∨ k = 4
    · have HX : Hid (OW = true) := by show _ = _; rw [HOW.out]; simp [Ty.own, h124]
      rcases h124 with rfl | rfl | rfl
      all_goals
        go_enter Tryz.func124, Tryz.ntmps124
        go_wp2_with fail
        go_ret
        exact ⟨ret_bo HX.out.symm, (Below.refl _ _).alloc (Nat.le_refl _) _⟩
    · by_cases h3 : k = 3
      · subst h3
        have HX : Hid (OW = decide (1 ≤ o ∧ o ≤ 10)) := by show _ = _; rw [HOW.out]; simp [Ty.own]
        by_cases a1 : 1 ≤ o
        · by_cases a2 : o ≤ 10
          · go_enter Tryz.func124, Tryz.ntmps124
            go_wp2_with fail
            go_ret
            exact ⟨ret_bo (by rw [HX.out]; simp [a1, a2]), (Below.refl _ _).alloc (Nat.le_refl _) _⟩
          · go_enter Tryz.func124, Tryz.ntmps124
            go_wp2_with fail
            go_ret
            exact ⟨ret_bo (by rw [HX.out]; simp [a2]), (Below.refl _ _).alloc (Nat.le_refl _) _⟩
        · go_enter Tryz.func124, Tryz.ntmps124
          go_wp2_with fail
          go_ret
          exact ⟨ret_bo (by rw [HX.out]; exact (decide_eq_false (by omega)).symm), (Below.refl _ _).alloc (Nat.le_refl _) _⟩
      · by_cases h5 : k = 5
        · subst h5
          have HX : Hid (OW = decide (p.len = 1)) := by show _ = _; rw [HOW.out]; simp [Ty.own]
          generalize p.len = q at *
          by_cases a1 : q = 1
          · subst a1
            go_enter Tryz.func124, Tryz.ntmps124
            go_wp2_with fail
            go_ret
            exact ⟨ret_bo (by rw [HX.out]; rfl), (Below.refl _ _).alloc (Nat.le_refl _) _⟩
          · have a2 : ((q : Int) == 1) = false := by simp; omega
            go_enter Tryz.func124, Tryz.ntmps124
            go_wp2_with fail
            go_ret
            exact ⟨ret_bo (by rw [HX.out]; simp [a1]), (Below.refl _ _).alloc (Nat.le_refl _) _⟩
        · by_cases h6 : k = 6
          · subst h6
            have HX : Hid (OW = (decide (n.length = p.len ∧ n.length = l.length) && Sp.namesFit n)) := by show _ = _; rw [HOW.out]; simp [Ty.own]
            generalize p.len = q at *
            generalize hnl : n.length = m at *
            generalize l.length = r at *
            by_cases a1 : m = q
            · subst a1
              by_cases a2 : m = r
              · subst a2
                generalize Sp.namesFit n = nf' at *
                go_enter Tryz.func124, Tryz.ntmps124
                go_wp2_with fail
                refine (HN.out _ ((Below.refl _ _).alloc (Nat.le_refl _) _)).mono ?_
                rintro e w1 ⟨rfl, rfl⟩
                go_wp2_with fail
                go_ret
                exact ⟨ret_bo (by rw [HX.out]; simp), (Below.refl _ _).alloc (Nat.le_refl _) _⟩
              · have a2' : ((m : Int) == (r : Int)) = false := by simp; omega
                go_enter Tryz.func124, Tryz.ntmps124
                go_wp2_with fail
                go_ret
                exact ⟨ret_bo (by rw [HX.out]; simp [a2]), (Below.refl _ _).alloc (Nat.le_refl _) _⟩
            · have a1' : ((m : Int) == (q : Int)) = false := by simp; omega
              go_enter Tryz.func124, Tryz.ntmps124
              go_wp2_with fail
              go_ret
              exact ⟨ret_bo (by rw [HX.out]; simp [a1]), (Below.refl _ _).alloc (Nat.le_refl _) _⟩
          · by_cases h7 : k = 7
            · subst h7
              have HX : Hid (OW = decide (2 ≤ p.len)) := by show _ = _; rw [HOW.out]; simp [Ty.own]
              generalize p.len = q at *
              by_cases a1 : 2 ≤ q
              · have a1' : (2 : Int) ≤ (q : Int) := by omega
                go_enter Tryz.func124, Tryz.ntmps124
                go_wp2_with fail
                go_ret
                exact ⟨ret_bo (by rw [HX.out]; simp [a1]), (Below.refl _ _).alloc (Nat.le_refl _) _⟩
              · have a1' : ¬ (2 : Int) ≤ (q : Int) := by omega
                go_enter Tryz.func124, Tryz.ntmps124
                go_wp2_with fail
                go_ret
                exact ⟨ret_bo (by rw [HX.out]; simp [a1]), (Below.refl _ _).alloc (Nat.le_refl _) _⟩
            · by_cases h8 : k = 8
              · subst h8
                have HX : Hid (OW = Sp.isNm c) := by show _ = _; rw [HOW.out]; simp [Ty.own]
                generalize Sp.isNm c = nm at *
                go_enter Tryz.func124, Tryz.ntmps124
                go_wp2_with fail
                refine (HC.out _).mono ?_
                rintro e w1 ⟨rfl, rfl⟩
                go_wp2_with fail
                go_ret
                exact ⟨ret_bo HX.out.symm, (Below.refl _ _).alloc (Nat.le_refl _) _⟩
              · have HX : Hid (OW = false) := by
                  show _ = _
                  rw [HOW.out]
                  simp only [not_or] at h124
                  simp [Ty.own, h124.1, h124.2.1, h124.2.2, h3, h5, h6, h7, h8]
                have b1 : (k == 1) = false := by simp; omega
                have b2 : (k == 2) = false := by simp; omega
                have b3 : (k == 3) = false := by simp; omega
                have b4 : (k == 4) = false := by simp; omega
                have b5 : (k == 5) = false := by simp; omega
                have b6 : (k == 6) = false := by simp; omega
                have b7 : (k == 7) = false := by simp; omega
                have b8 : (k == 8) = false := by simp; omega
                clear h124 h3 h5 h6 h7 h8
                go_enter Tryz.func124, Tryz.ntmps124
                go_wp2_with fail
                go_ret
                exact ⟨ret_bo HX.out.symm, (Below.refl _ _).alloc (Nat.le_refl _) _⟩
end Go.Proofs.YtjdjpbdfchhcfaaGreat

/- types.fits: the walk through a type. -/
namespace Go.Proofs.YtjdjpbdfchhcfaaGreat
open Go.RowKit

def Cnt (w : World) (wb : Nat) (m : Int) : Prop := w.heap[wb]? = some (.cells #[.int .i64 m] 174 (0, 0))
theorem Cnt.lt {w : World} {wb : Nat} {m : Int} (h : Cnt w wb m) : wb < w.heap.size := (Array.getElem?_eq_some_iff.1 h).1
theorem Cnt.cell {w : World} {wb : Nat} {m : Int} (h : Cnt w wb m) : w.cell? ⟨wb, 0, none⟩ = some (.int .i64 m) ∧ w.frozen? ⟨wb, 0, none⟩ = false := by
  unfold Cnt at h
  exact ⟨by simp [World.cell?, h], by simp [World.frozen?, h]⟩
theorem Cnt.on {w w' : World} {wb : Nat} {m : Int} (h : Cnt w wb m) (hw : Below w.heap.size w w') : Cnt w' wb m := by
  have hlt := h.lt
  unfold Cnt at h ⊢
  rw [hw.block wb hlt]; exact h
theorem Cnt.put {w : World} {wb : Nat} {m : Int} (h : Cnt w wb m) (q : Int) : Cnt (w.setCell ⟨wb, 0, none⟩ (.int .i64 q)) wb q := by
  unfold Cnt at h ⊢
  simp [World.setCell, Array.getElem?_modify, h]
def FitE (wb : Nat) (x : Bool × Int) (w : World) (e : Ending) (w' : World) : Prop := e = .returned (.bool x.1) ∧ Cnt w' wb x.2 ∧ Below wb w w'
def FitC (N : Nat) : Prop := ∀ (t : Ty), t.sz ≤ N → ∀ (cs : Array Value) (w : World) (wb : Nat) (m d : Int), t.In w (Lo wb) cs → Cnt w wb m → 0 ≤ m → m ≤ 16384 → 0 ≤ d → d ≤ 65 →
  Calls Tryz.prog 108 #[.pointer (some ⟨wb, 0, none⟩), .agg cs, .int .i64 d] w (FitE wb (t.fit d m) w)
theorem FitE.of {wb : Nat} {x : Bool × Int} {r : Bool} {q : Int} {w W : World} (hx : x = (r, q)) (hc : Cnt W wb q) (hb : Below wb w W) : FitE wb x w (.returned (.bool r)) W := by subst hx; exact ⟨rfl, hc, hb⟩

end Go.Proofs.YtjdjpbdfchhcfaaGreat

