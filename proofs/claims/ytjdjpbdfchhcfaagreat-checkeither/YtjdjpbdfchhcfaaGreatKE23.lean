/- Shapes: how many types a type is made of, how deep it is, and how a shape lies in memory. -/
import Derived.Test.YtjdjpbdfchhcfaaGreatKE22
import Derived.Test.YtjdjpbdfchhcfaaGreatKE3
namespace Go.Proofs.YtjdjpbdfchhcfaaGreat
open Go.RowKit

mutual
def Ty.cnt : Ty → Int | .mk k _ _ p _ _ _ _ => 1 + (if Sp.parted k then p.cnt else 0)
def TyL.cnt : TyL → Int | .nil => 0 | .cons t l => t.cnt + l.cnt
end
mutual
def Ty.dep : Ty → Int | .mk k _ _ p _ _ _ _ => 1 + (if Sp.parted k then p.dep else 0)
def TyL.dep : TyL → Int | .nil => 0 | .cons t l => max t.dep l.dep
end
mutual
def Ty.ok : Ty → Bool
  | .mk k o t p n l op c => (Ty.mk k o t p n l op c).own && (if k = 4 then decide (t.all.e = 0) else true) && (if Sp.parted k then p.ok else true)
def TyL.ok : TyL → Bool | .nil => true | .cons t l => t.ok && l.ok
end
mutual
theorem Ty.cnt_pos : (t : Ty) → 1 ≤ t.cnt ∧ 1 ≤ t.dep
  | .mk k o t p n l op c => by
    have := TyL.cnt_pos p
    simp only [Ty.cnt, Ty.dep]; split <;> omega
theorem TyL.cnt_pos : (l : TyL) → 0 ≤ l.cnt ∧ 0 ≤ l.dep
  | .nil => by simp [TyL.cnt, TyL.dep]
  | .cons t l => by
    have h1 := Ty.cnt_pos t; have h2 := TyL.cnt_pos l
    simp only [TyL.cnt, TyL.dep]; omega
end
mutual
theorem Ty.fit_cnt : (t : Ty) → ∀ d m, (t.fit d m).1 = true → (t.fit d m).2 = m + t.cnt ∧ d + t.dep - 1 ≤ 64 ∧ (t.terms = true → t.ok = true)
  | .mk k o t p n l op c, d, m, h => by
    simp only [Ty.fit] at h ⊢
    by_cases hc : m + 1 > 16384 ∨ d > 64 ∨ (Ty.mk k o t p n l op c).own = false
    · rw [if_pos hc] at h; cases h
    · rw [if_neg hc] at h ⊢
      have ho : (Ty.mk k o t p n l op c).own = true := by cases hh : (Ty.mk k o t p n l op c).own <;> simp_all
      have hd : ¬ d > 64 := fun x => hc (.inr (.inl x))
      cases hp : Sp.parted k with
      | true =>
        rw [hp] at h
        simp only [if_true] at h ⊢
        have := TyL.fit_cnt p (d + 1) (m + 1) h
        have hk4 : k ≠ 4 := by rintro rfl; simp [Sp.parted] at hp
        have hps := TyL.cnt_pos p
        simp only [Ty.cnt, Ty.dep, hp, if_true, Ty.ok, ho, Ty.terms, if_neg hk4, Bool.true_and]
        refine ⟨by omega, by omega, fun ht => this.2.2 ht⟩
      | false =>
        rw [hp] at h
        simp only [Ty.cnt, Ty.dep, hp, Ty.ok, ho, Ty.terms, Bool.true_and]
        refine ⟨by simp, by simp; omega, fun ht => ?_⟩
        by_cases hk4 : k = 4
        · simpa [hk4] using ht
        · simp [hk4]
theorem TyL.fit_cnt : (l : TyL) → ∀ d m, (l.fit d m).1 = true → (l.fit d m).2 = m + l.cnt ∧ (l.dep = 0 ∨ d + l.dep - 1 ≤ 64) ∧ (l.terms = true → l.ok = true)
  | .nil, d, m, _ => by simp [TyL.fit, TyL.cnt, TyL.dep, TyL.ok]
  | .cons t l, d, m, h => by
    simp only [TyL.fit] at h ⊢
    cases hf : (t.fit d m).1 with
    | false => rw [hf] at h; cases h
    | true =>
      rw [hf] at h
      simp only [if_true] at h ⊢
      have h1 := Ty.fit_cnt t d m hf
      have h2 := TyL.fit_cnt l d (t.fit d m).2 h
      have h3 := Ty.cnt_pos t
      simp only [TyL.cnt, TyL.dep, TyL.ok, TyL.terms, Bool.and_eq_true]
      exact ⟨by omega, by omega, fun ht => ⟨h1.2.2 ht.1, h2.2.2 ht.2⟩⟩
end
theorem Ty.can_ok {t : Ty} (h : t.can = true) : t.ok = true ∧ t.cnt ≤ 16384 ∧ t.dep ≤ 64 := by
  simp only [Ty.can, Bool.and_eq_true] at h
  have h1 := Ty.fit_cnt t 1 0 h.1
  have h2 := (Ty.fit_mono t 1 0).2 h.1
  exact ⟨h1.2.2 h.2, by omega, by omega⟩

def ShZ (k o' : Int) (ap : Option Addr) (np cp : Nat) (an : Option Addr) (nn cn : Nat) (ak : Option Addr) (nk ck : Nat) (op' : Bool) (c' : ByteArray) : Prop :=
  (k ≠ 3 → o' = 0) ∧ (Sp.parted k = false → ap = none ∧ np = 0 ∧ cp = 0) ∧ (k ≠ 6 → (an = none ∧ nn = 0 ∧ cn = 0) ∧ (ak = none ∧ nk = 0 ∧ ck = 0) ∧ op' = false) ∧ (k ≠ 8 → c' = ByteArray.empty)
mutual
def Ty.Sh (w : World) (B : Nat → Prop) : Ty → Nat → Prop
  | .mk k o t p n l op c, b => B b ∧ ∃ (o' : Int) (v : Value) (s : Int) (ap : Option Addr) (np cp : Nat) (an : Option Addr) (nn cn : Nat) (ak : Option Addr) (nk ck : Nat) (op' : Bool) (c' : ByteArray),
      w.heap[b]? = some (.cells #[.int .i64 k, .int .i64 o', v, .int .i64 s, .slice ap np cp, .slice an nn cn, .slice ak nk ck, .bool op', .string c', .int .i64 (Ty.mk k o t p n l op c).cnt, .int .i64 (Ty.mk k o t p n l op c).dep] 102 (0, 0)) ∧
      (k = 3 → o' = o) ∧ (k = 4 → t.V w B v ∧ s = t.szN) ∧ (Sp.parted k = true → np = p.len ∧ p.len ≤ 70368744177664 ∧ p.Sh w B ap 0) ∧
      (k = 6 → nn = n.length ∧ nk = l.length ∧ op' = op ∧ NamesAt w B an n ∧ BoolsAt w B ak l) ∧ (k = 8 → c' = c) ∧ ShZ k o' ap np cp an nn cn ak nk ck op' c'
def TyL.Sh (w : World) (B : Nat → Prop) : TyL → Option Addr → Nat → Prop
  | .nil, _, _ => True
  | .cons t l, a, j => ∃ g o b, a = some ⟨g, o, none⟩ ∧ B g ∧ w.cell? ⟨g, o + j, none⟩ = some (.pointer (some ⟨b, 0, none⟩)) ∧ t.Sh w B b ∧ l.Sh w B a (j + 1)
end
mutual
theorem Ty.Sh_same {w w' : World} {B B' : Nat → Prop} (hs : Same B w w') (hB : ∀ k, B k → B' k) : (t : Ty) → ∀ b, t.Sh w B b → t.Sh w' B' b
  | .mk k o t p n l op c, b, h => by
    simp only [Ty.Sh] at h ⊢
    obtain ⟨hb, o', v, s, ap, np, cp, an, nn, cn, ak, nk, ck, op', c', hh, h3, h4, h5, h6, h8⟩ := h
    exact ⟨hB _ hb, o', v, s, ap, np, cp, an, nn, cn, ak, nk, ck, op', c', by rw [hs b hb]; exact hh, h3, fun hk => ⟨t.V_same hs hB _ (h4 hk).1, (h4 hk).2⟩, fun hk => ⟨(h5 hk).1, (h5 hk).2.1, TyL.Sh_same hs hB p _ _ (h5 hk).2.2⟩, fun hk => ⟨(h6 hk).1, (h6 hk).2.1, (h6 hk).2.2.1, (h6 hk).2.2.2.1.same hs hB, (h6 hk).2.2.2.2.same hs hB⟩, h8⟩
theorem TyL.Sh_same {w w' : World} {B B' : Nat → Prop} (hs : Same B w w') (hB : ∀ k, B k → B' k) : (l : TyL) → ∀ a j, l.Sh w B a j → l.Sh w' B' a j
  | .nil, _, _, _ => by simp [TyL.Sh]
  | .cons t l, a, j, h => by
    simp only [TyL.Sh] at h ⊢
    obtain ⟨g, o, b, e, hg, hc, ht, hl⟩ := h
    exact ⟨g, o, b, e, hB _ hg, by rw [hs.cell (p := ⟨g, o + j, none⟩) hg]; exact hc, Ty.Sh_same hs hB t _ ht, TyL.Sh_same hs hB l _ _ hl⟩
end
theorem Ty.Sh_cnt {t : Ty} {w : World} {B : Nat → Prop} {b : Nat} (h : t.Sh w B b) : B b ∧ w.cell? ⟨b, 9, none⟩ = some (.int .i64 t.cnt) ∧ w.cell? ⟨b, 10, none⟩ = some (.int .i64 t.dep) := by
  cases t
  simp only [Ty.Sh] at h
  obtain ⟨hb, o', v, s, ap, np, cp, an, nn, cn, ak, nk, ck, op', c', hh, -⟩ := h
  exact ⟨hb, by rw [cell_of_row _ _ _ _ _ _ hh]; rfl, by rw [cell_of_row _ _ _ _ _ _ hh]; rfl⟩
end Go.Proofs.YtjdjpbdfchhcfaaGreat

/- check.made: a shape is counted. -/
namespace Go.Proofs.YtjdjpbdfchhcfaaGreat
open Go.RowKit

theorem put9 {w : World} {b : Nat} {T : TypeId} {v0 v1 v2 v3 v4 v5 v6 v7 v8 v9 v10 : Value} (h : w.heap[b]? = some (.cells #[v0, v1, v2, v3, v4, v5, v6, v7, v8, v9, v10] T (0, 0))) (x : Value) :
    (w.setCell ⟨b, 9, none⟩ x).heap[b]? = some (.cells #[v0, v1, v2, v3, v4, v5, v6, v7, v8, x, v10] T (0, 0)) := by
  simp [World.setCell, Array.getElem?_modify, h]
theorem put10 {w : World} {b : Nat} {T : TypeId} {v0 v1 v2 v3 v4 v5 v6 v7 v8 v9 v10 : Value} (h : w.heap[b]? = some (.cells #[v0, v1, v2, v3, v4, v5, v6, v7, v8, v9, v10] T (0, 0))) (x : Value) :
    (w.setCell ⟨b, 10, none⟩ x).heap[b]? = some (.cells #[v0, v1, v2, v3, v4, v5, v6, v7, v8, v9, x] T (0, 0)) := by
  simp [World.setCell, Array.getElem?_modify, h]

set_option maxRecDepth 100000 in
set_option maxHeartbeats 4000000 in
theorem made_any (v0 v1 v2 v3 : Value) (ap : Option Addr) (p : TyL) (cp : Nat) (v5 v6 v7 v8 v9 v10 : Value) (B : Nat → Prop) (w : World) (hB : Sub B w) (hp : p.Sh w B ap 0) (hl : p.len ≤ 70368744177664) (hc : 1 + p.cnt ≤ 1000000000) (hd : 1 + p.dep ≤ 1000000000) :
    Calls Tryz.prog 55 #[.agg #[v0, v1, v2, v3, .slice ap p.len cp, v5, v6, v7, v8, v9, v10]] w fun e w' => e = .returned (.pointer (some ⟨w.heap.size, 0, none⟩)) ∧ Below w.heap.size w w' ∧ w'.heap.size = w.heap.size + 1 ∧
      w'.heap[w.heap.size]? = some (.cells #[v0, v1, v2, v3, .slice ap p.len cp, v5, v6, v7, v8, .int .i64 (1 + p.cnt), .int .i64 (1 + p.dep)] 102 (0, 0)) := by
  have HF1 : Hid ((w.alloc (.cells #[v0, v1, v2, v3, .slice ap p.len cp, v5, v6, v7, v8, .int .i64 1, .int .i64 1] 102)).heap[w.heap.size]? = some (.cells #[v0, v1, v2, v3, .slice ap p.len cp, v5, v6, v7, v8, .int .i64 1, .int .i64 1] 102 (0, 0)) ∧ Below w.heap.size w (w.alloc (.cells #[v0, v1, v2, v3, .slice ap p.len cp, v5, v6, v7, v8, .int .i64 1, .int .i64 1] 102)) ∧ (w.alloc (.cells #[v0, v1, v2, v3, .slice ap p.len cp, v5, v6, v7, v8, .int .i64 1, .int .i64 1] 102)).heap.size = w.heap.size + 1) :=
    ⟨heap_alloc_new w _, (Below.refl _ _).alloc (Nat.le_refl _) _, by simp⟩
  have HB : Hid (Sub B w) := hB
  have HP : Hid (p.Sh w B ap 0) := hp
  have hps := TyL.cnt_pos p
  clear hB hp
  go_enter Tryz.func55, Tryz.ntmps55
  go_wp2_with fail
  go_loopw [10] (fun i wr => ∃ (j : Nat) (l' : TyL) (ty dp : Int), i = .int .i64 (j : Int) ∧ l'.len + j = p.len ∧ 1 ≤ ty ∧ 1 ≤ dp ∧ 1 + p.cnt = ty + l'.cnt ∧ 1 + p.dep = max dp (1 + l'.dep) ∧ Hid (l'.Sh w B ap j ∧ wr.heap[w.heap.size]? = some (.cells #[v0, v1, v2, v3, .slice ap p.len cp, v5, v6, v7, v8, .int .i64 ty, .int .i64 dp] 102 (0, 0)) ∧ Below w.heap.size w wr ∧ wr.heap.size = w.heap.size + 1)) (fun i _ => p.len - (intOf i).toNat)
  case atStart => exact ⟨0, p, 1, 1, rfl, by omega, by omega, by omega, by omega, by omega, ⟨HP.out, HF1.out.1, HF1.out.2.1, HF1.out.2.2⟩⟩
  case round =>
    obtain ⟨j, l', ty, dp, rfl, hj, hty, hdp, hct, hdt, HK⟩ := hrel
    cases l' with
    | nil =>
      have hj' : p.len ≤ j := by simp [TyL.len] at hj; omega
      have ht : ty = 1 + p.cnt ∧ dp = 1 + p.dep := by simp [TyL.cnt, TyL.dep] at hct hdt; omega
      clear hj hct hdt hc hd
      go_wp2_with fail
      go_ret
      obtain ⟨rfl, rfl⟩ := ht
      exact ⟨rfl, HK.out.2.2.1, HK.out.2.2.2, HK.out.2.1⟩
    | cons t' l' =>
      obtain ⟨hin, hbx, hbw, hzr⟩ := HK.out
      simp only [TyL.Sh] at hin
      obtain ⟨g, o', b', rfl, hg, hcl, hti, hin'⟩ := hin
      have hj1 : j < p.len := by simp [TyL.len] at hj; omega
      have HJ : Hid (l'.len + (j + 1) = p.len) := by show _ = _; simp [TyL.len] at hj; omega
      obtain ⟨hb', hn9, hn10⟩ := Ty.Sh_cnt hti
      have hbl := HB.out b' hb'
      have e0 : wr.cell? ⟨g, o' + j, none⟩ = some (.pointer (some ⟨b', 0, none⟩)) := by rw [hbw.cell (p := ⟨g, o' + j, none⟩) (HB.out g hg)]; exact hcl
      have e9 : wr.cell? ⟨b', 9, none⟩ = some (.int .i64 t'.cnt) := by rw [hbw.cell (p := ⟨b', 9, none⟩) hbl]; exact hn9
      have e10 : wr.cell? ⟨b', 10, none⟩ = some (.int .i64 t'.dep) := by rw [hbw.cell (p := ⟨b', 10, none⟩) hbl]; exact hn10
      have d9 : wr.cell? ⟨w.heap.size, 9, none⟩ = some (.int .i64 ty) := by rw [cell_of_row _ _ _ _ _ _ hbx]; rfl
      have d10 : wr.cell? ⟨w.heap.size, 10, none⟩ = some (.int .i64 dp) := by rw [cell_of_row _ _ _ _ _ _ hbx]; rfl
      have z9 := Lib.frozen_of_heap hbx 9
      have z10 := Lib.frozen_of_heap hbx 10
      have hp1 := Ty.cnt_pos t'
      have hp2 := TyL.cnt_pos l'
      have hct' : 1 + p.cnt = ty + t'.cnt + l'.cnt := by simp [TyL.cnt] at hct; omega
      have hdt' : 1 + p.dep = max (max dp (1 + t'.dep)) (1 + l'.dep) := by simp [TyL.dep] at hdt; omega
      have hne : b' ≠ w.heap.size := by omega
      have hi0 : (0 : Int) ≤ (j : Int) := Int.natCast_nonneg _
      have hi1 : (j : Int) < (p.len : Int) := by omega
      have HB2 : Hid (Below w.heap.size w wr ∧ l'.Sh w B (some ⟨g, o', none⟩) (j + 1) ∧ wr.heap[w.heap.size]? = some (.cells #[v0, v1, v2, v3, .slice (some ⟨g, o', none⟩) p.len cp, v5, v6, v7, v8, .int .i64 ty, .int .i64 dp] 102 (0, 0)) ∧ wr.heap.size = w.heap.size + 1) := ⟨hbw, hin', hbx, hzr⟩
      clear hcl hti hin' hg hj hbw HK hbx hn9 hn10 hct hdt hb'
      generalize t'.cnt = tc at *
      generalize t'.dep = td at *
      go_wp2_with fail
      go_region
      all_goals go_wp2_with fail
      obtain ⟨w2, HW2⟩ : ∃ w2, (wr.setCell ⟨w.heap.size, 9, none⟩ (.int .i64 (ty + tc))).drew = w2 := ⟨_, rfl⟩
      have H2 : Hid (w2.heap[w.heap.size]? = some (.cells #[v0, v1, v2, v3, .slice (some ⟨g, o', none⟩) p.len cp, v5, v6, v7, v8, .int .i64 (ty + tc), .int .i64 dp] 102 (0, 0)) ∧ Below w.heap.size w w2 ∧ w2.heap.size = w.heap.size + 1) := by
        rw [← HW2]
        exact ⟨put9 HB2.out.2.2.1 _, (HB2.out.1.setCell (p := ⟨w.heap.size, 9, none⟩) (Nat.le_refl _) _).drew, by show (wr.setCell _ _).heap.size = _; simp [World.setCell]; exact HB2.out.2.2.2⟩
      have e10' : w2.cell? ⟨b', 10, none⟩ = some (.int .i64 td) := by
        rw [← HW2]; show (wr.setCell _ _).cell? _ = _
        rw [World.cell?_setCell_other _ _ _ _ (by intro e; exact hne (by injection e.symm))]; exact e10
      rw [HW2]
      clear HW2 d9 d10 z9 z10 e0 e9 e10
      have d10 : w2.cell? ⟨w.heap.size, 10, none⟩ = some (.int .i64 dp) := by rw [cell_of_row _ _ _ _ _ _ H2.out.1]; rfl
      have z10 := Lib.frozen_of_heap H2.out.1 10
      by_cases hmx : dp < 1 + td
      · go_region
        all_goals go_wp2_with fail
        go_roundw
        case rel => exact ⟨j + 1, l', ty + tc, 1 + td, by go_num, HJ.out, by omega, by omega, by omega, by omega, ⟨HB2.out.2.1, put10 H2.out.1 _, (H2.out.2.1.setCell (p := ⟨w.heap.size, 10, none⟩) (Nat.le_refl _) _).drew, by show (w2.setCell _ _).heap.size = _; simp [World.setCell]; exact H2.out.2.2⟩⟩
        case measure => simp [intOf]; omega
      · go_region
        all_goals go_wp2_with fail
        go_roundw
        case rel => exact ⟨j + 1, l', ty + tc, dp, by go_num, HJ.out, by omega, by omega, by omega, by omega, ⟨HB2.out.2.1, put10 H2.out.1 _, (H2.out.2.1.setCell (p := ⟨w.heap.size, 10, none⟩) (Nat.le_refl _) _).drew, by show (w2.setCell _ _).heap.size = _; simp [World.setCell]; exact H2.out.2.2⟩⟩
        case measure => simp [intOf]; omega
end Go.Proofs.YtjdjpbdfchhcfaaGreat

/- check.shaped: a type without parts and term. -/
namespace Go.Proofs.YtjdjpbdfchhcfaaGreat
open Go.RowKit

theorem ssz : (Tryz.prog.info? 102).map (·.size) = some 11 := by kernel_rfl
theorem sld {w : World} {b : Nat} {cs : Array Value} {T : TypeId} {fr : Nat × Nat} (hs : cs.size = 11) (h : w.heap[b]? = some (.cells cs T fr)) : (loadVar 102 ⟨b, 0, none⟩).run Tryz.prog w = .ok (.agg cs) w :=
  run_loadVar_row w b T 102 cs fr _ h Tryz.underlying102 rfl (by rw [hs]; exact ssz)
def BF (B : Nat → Prop) (w w' : World) : Nat → Prop := fun k => B k ∨ Fr w w' k
def ShapedE (t : Ty) (B : Nat → Prop) (w : World) (e : Ending) (w' : World) : Prop := ∃ b, e = .returned (.pointer (some ⟨b, 0, none⟩)) ∧ Below w.heap.size w w' ∧ t.Sh w' (BF B w w') b
theorem Ty.In_read {k o : Int} {t : Tm} {p : TyL} {n : List ByteArray} {l : List Bool} {op : Bool} {c : ByteArray} {w : World} {B : Nat → Prop} {cs : Array Value} {g q : Nat} (h : (Ty.mk k o t p n l op c).In w B cs) (hr : ∀ x, x < 18 → w.cell? ⟨g, q + x, none⟩ = cs[x]?) :
    ∃ ap cp an cn ak ck, w.cell? ⟨g, q, none⟩ = some (.int .i64 k) ∧ w.cell? ⟨g, q + 1, none⟩ = some (.int .i64 o) ∧ w.cell? ⟨g, q + 13, none⟩ = some (.slice ap p.len cp) ∧ w.cell? ⟨g, q + 14, none⟩ = some (.slice an n.length cn) ∧ w.cell? ⟨g, q + 15, none⟩ = some (.slice ak l.length ck) ∧ w.cell? ⟨g, q + 16, none⟩ = some (.bool op) ∧ w.cell? ⟨g, q + 17, none⟩ = some (.string c) ∧ p.len ≤ 70368744177664 ∧ p.In w B ap 0 ∧ NamesAt w B an n ∧ BoolsAt w B ak l := by
  simp only [Ty.In] at h
  obtain ⟨k1, b, i, f, tx, ab, nb, cb, rf, al, nl, cl, af, nf, cf, c1, vr, ap, cp, an, cn, ak, ck, rfl, -, -, -, ⟨hz, -⟩, hp, hn, hl⟩ := h
  exact ⟨ap, cp, an, cn, ak, ck, hr 0 (by decide), hr 1 (by decide), hr 13 (by decide), hr 14 (by decide), hr 15 (by decide), hr 16 (by decide), hr 17 (by decide), hz, hp, hn, hl⟩
set_option maxRecDepth 100000 in
set_option maxHeartbeats 4000000 in
theorem shp_1 (o : Int) (t : Tm) (p : TyL) (n : List ByteArray) (l : List Bool) (op : Bool) (c : ByteArray) (g q : Nat) (B : Nat → Prop) (w : World) (hg : g < w.heap.size) (r0 : w.cell? ⟨g, q, none⟩ = some (.int .i64 1)) :
    Calls Tryz.prog 88 #[.pointer (some ⟨g, q, none⟩)] w (ShapedE (Ty.mk 1 o t p n l op c) B w) := by
  have HL : Hid ((loadVar 102 ⟨w.heap.size, 0, none⟩).run Tryz.prog (w.alloc (.cells #[.int .i64 1, .int .i64 0, .nilIface, .int .i64 0, .slice none 0 0, .slice none 0 0, .slice none 0 0, .bool false, .string ByteArray.empty, .int .i64 0, .int .i64 0] 102)) = .ok (.agg #[.int .i64 1, .int .i64 0, .nilIface, .int .i64 0, .slice none 0 0, .slice none 0 0, .slice none 0 0, .bool false, .string ByteArray.empty, .int .i64 0, .int .i64 0]) (w.alloc (.cells #[.int .i64 1, .int .i64 0, .nilIface, .int .i64 0, .slice none 0 0, .slice none 0 0, .slice none 0 0, .bool false, .string ByteArray.empty, .int .i64 0, .int .i64 0] 102))) := sld rfl (heap_alloc_new w _)
  have HB : Hid (Below w.heap.size w (w.alloc (.cells #[.int .i64 1, .int .i64 0, .nilIface, .int .i64 0, .slice none 0 0, .slice none 0 0, .slice none 0 0, .bool false, .string ByteArray.empty, .int .i64 0, .int .i64 0] 102))) := (Below.refl _ _).alloc (Nat.le_refl _) _
  have HM : Hid (Calls Tryz.prog 55 #[.agg #[.int .i64 1, .int .i64 0, .nilIface, .int .i64 0, .slice none 0 0, .slice none 0 0, .slice none 0 0, .bool false, .string ByteArray.empty, .int .i64 0, .int .i64 0]] (w.alloc (.cells #[.int .i64 1, .int .i64 0, .nilIface, .int .i64 0, .slice none 0 0, .slice none 0 0, .slice none 0 0, .bool false, .string ByteArray.empty, .int .i64 0, .int .i64 0] 102)) _) := made_any _ _ _ _ none .nil 0 _ _ _ _ _ _ (fun _ => False) (w.alloc (.cells #[.int .i64 1, .int .i64 0, .nilIface, .int .i64 0, .slice none 0 0, .slice none 0 0, .slice none 0 0, .bool false, .string ByteArray.empty, .int .i64 0, .int .i64 0] 102)) (fun _ h => h.elim) (by simp [TyL.Sh]) (by simp [TyL.len]) (by simp [TyL.cnt]) (by simp [TyL.dep])
  go_enter Tryz.func88, Tryz.ntmps88
  go_wp2_with ((with_reducible refine ld_row ?_ ?_ HL.out ?_); rfl; rfl)
  refine HM.out.mono ?_
  rintro e w' ⟨rfl, hb', hz', hbx⟩
  have H : Hid (Below w.heap.size w w' ∧ (Ty.mk 1 o t p n l op c).Sh w' (BF B w w') (w.heap.size + 1)) := by
    have e1 : (w.alloc (.cells #[.int .i64 1, .int .i64 0, .nilIface, .int .i64 0, .slice none 0 0, .slice none 0 0, .slice none 0 0, .bool false, .string ByteArray.empty, .int .i64 0, .int .i64 0] 102)).heap.size = w.heap.size + 1 := by simp
    rw [e1] at hbx hz'
    refine ⟨HB.out.trans (hb'.mono (by simp)), ?_⟩
    simp only [Ty.Sh]
    refine ⟨.inr ⟨by omega, by omega⟩, _, _, _, _, _, _, _, _, _, _, _, _, _, _, hbx, ?_, ?_, ?_, ?_, ?_, ?_⟩ <;> simp [Sp.parted, ShZ, TyL.len]
  clear hb' hz' hbx
  go_wp2_with fail
  go_ret
  exact ⟨_, rfl, H.out⟩
set_option maxRecDepth 100000 in
set_option maxHeartbeats 4000000 in
theorem shp_2 (o : Int) (t : Tm) (p : TyL) (n : List ByteArray) (l : List Bool) (op : Bool) (c : ByteArray) (g q : Nat) (B : Nat → Prop) (w : World) (hg : g < w.heap.size) (r0 : w.cell? ⟨g, q, none⟩ = some (.int .i64 2)) :
    Calls Tryz.prog 88 #[.pointer (some ⟨g, q, none⟩)] w (ShapedE (Ty.mk 2 o t p n l op c) B w) := by
  have HL : Hid ((loadVar 102 ⟨w.heap.size, 0, none⟩).run Tryz.prog (w.alloc (.cells #[.int .i64 2, .int .i64 0, .nilIface, .int .i64 0, .slice none 0 0, .slice none 0 0, .slice none 0 0, .bool false, .string ByteArray.empty, .int .i64 0, .int .i64 0] 102)) = .ok (.agg #[.int .i64 2, .int .i64 0, .nilIface, .int .i64 0, .slice none 0 0, .slice none 0 0, .slice none 0 0, .bool false, .string ByteArray.empty, .int .i64 0, .int .i64 0]) (w.alloc (.cells #[.int .i64 2, .int .i64 0, .nilIface, .int .i64 0, .slice none 0 0, .slice none 0 0, .slice none 0 0, .bool false, .string ByteArray.empty, .int .i64 0, .int .i64 0] 102))) := sld rfl (heap_alloc_new w _)
  have HB : Hid (Below w.heap.size w (w.alloc (.cells #[.int .i64 2, .int .i64 0, .nilIface, .int .i64 0, .slice none 0 0, .slice none 0 0, .slice none 0 0, .bool false, .string ByteArray.empty, .int .i64 0, .int .i64 0] 102))) := (Below.refl _ _).alloc (Nat.le_refl _) _
  have HM : Hid (Calls Tryz.prog 55 #[.agg #[.int .i64 2, .int .i64 0, .nilIface, .int .i64 0, .slice none 0 0, .slice none 0 0, .slice none 0 0, .bool false, .string ByteArray.empty, .int .i64 0, .int .i64 0]] (w.alloc (.cells #[.int .i64 2, .int .i64 0, .nilIface, .int .i64 0, .slice none 0 0, .slice none 0 0, .slice none 0 0, .bool false, .string ByteArray.empty, .int .i64 0, .int .i64 0] 102)) _) := made_any _ _ _ _ none .nil 0 _ _ _ _ _ _ (fun _ => False) (w.alloc (.cells #[.int .i64 2, .int .i64 0, .nilIface, .int .i64 0, .slice none 0 0, .slice none 0 0, .slice none 0 0, .bool false, .string ByteArray.empty, .int .i64 0, .int .i64 0] 102)) (fun _ h => h.elim) (by simp [TyL.Sh]) (by simp [TyL.len]) (by simp [TyL.cnt]) (by simp [TyL.dep])
  go_enter Tryz.func88, Tryz.ntmps88
  go_wp2_with ((with_reducible refine ld_row ?_ ?_ HL.out ?_); rfl; rfl)
  refine HM.out.mono ?_
  rintro e w' ⟨rfl, hb', hz', hbx⟩
  have H : Hid (Below w.heap.size w w' ∧ (Ty.mk 2 o t p n l op c).Sh w' (BF B w w') (w.heap.size + 1)) := by
    have e1 : (w.alloc (.cells #[.int .i64 2, .int .i64 0, .nilIface, .int .i64 0, .slice none 0 0, .slice none 0 0, .slice none 0 0, .bool false, .string ByteArray.empty, .int .i64 0, .int .i64 0] 102)).heap.size = w.heap.size + 1 := by simp
    rw [e1] at hbx hz'
    refine ⟨HB.out.trans (hb'.mono (by simp)), ?_⟩
    simp only [Ty.Sh]
    refine ⟨.inr ⟨by omega, by omega⟩, _, _, _, _, _, _, _, _, _, _, _, _, _, _, hbx, ?_, ?_, ?_, ?_, ?_, ?_⟩ <;> simp [Sp.parted, ShZ, TyL.len]
  clear hb' hz' hbx
  go_wp2_with fail
  go_ret
  exact ⟨_, rfl, H.out⟩
set_option maxRecDepth 100000 in
set_option maxHeartbeats 4000000 in
theorem shp_3 (o : Int) (t : Tm) (p : TyL) (n : List ByteArray) (l : List Bool) (op : Bool) (c : ByteArray) (g q : Nat) (B : Nat → Prop) (w : World) (hg : g < w.heap.size) (r0 : w.cell? ⟨g, q, none⟩ = some (.int .i64 3)) (r1 : w.cell? ⟨g, q + 1, none⟩ = some (.int .i64 o)) :
    Calls Tryz.prog 88 #[.pointer (some ⟨g, q, none⟩)] w (ShapedE (Ty.mk 3 o t p n l op c) B w) := by
  have HL : Hid ((loadVar 102 ⟨w.heap.size, 0, none⟩).run Tryz.prog (w.alloc (.cells #[.int .i64 3, .int .i64 o, .nilIface, .int .i64 0, .slice none 0 0, .slice none 0 0, .slice none 0 0, .bool false, .string ByteArray.empty, .int .i64 0, .int .i64 0] 102)) = .ok (.agg #[.int .i64 3, .int .i64 o, .nilIface, .int .i64 0, .slice none 0 0, .slice none 0 0, .slice none 0 0, .bool false, .string ByteArray.empty, .int .i64 0, .int .i64 0]) (w.alloc (.cells #[.int .i64 3, .int .i64 o, .nilIface, .int .i64 0, .slice none 0 0, .slice none 0 0, .slice none 0 0, .bool false, .string ByteArray.empty, .int .i64 0, .int .i64 0] 102))) := sld rfl (heap_alloc_new w _)
  have HB : Hid (Below w.heap.size w (w.alloc (.cells #[.int .i64 3, .int .i64 o, .nilIface, .int .i64 0, .slice none 0 0, .slice none 0 0, .slice none 0 0, .bool false, .string ByteArray.empty, .int .i64 0, .int .i64 0] 102))) := (Below.refl _ _).alloc (Nat.le_refl _) _
  have HM : Hid (Calls Tryz.prog 55 #[.agg #[.int .i64 3, .int .i64 o, .nilIface, .int .i64 0, .slice none 0 0, .slice none 0 0, .slice none 0 0, .bool false, .string ByteArray.empty, .int .i64 0, .int .i64 0]] (w.alloc (.cells #[.int .i64 3, .int .i64 o, .nilIface, .int .i64 0, .slice none 0 0, .slice none 0 0, .slice none 0 0, .bool false, .string ByteArray.empty, .int .i64 0, .int .i64 0] 102)) _) := made_any _ _ _ _ none .nil 0 _ _ _ _ _ _ (fun _ => False) (w.alloc (.cells #[.int .i64 3, .int .i64 o, .nilIface, .int .i64 0, .slice none 0 0, .slice none 0 0, .slice none 0 0, .bool false, .string ByteArray.empty, .int .i64 0, .int .i64 0] 102)) (fun _ h => h.elim) (by simp [TyL.Sh]) (by simp [TyL.len]) (by simp [TyL.cnt]) (by simp [TyL.dep])
  go_enter Tryz.func88, Tryz.ntmps88
  go_wp2_with ((with_reducible refine ld_row ?_ ?_ HL.out ?_); rfl; rfl)
  refine HM.out.mono ?_
  rintro e w' ⟨rfl, hb', hz', hbx⟩
  have H : Hid (Below w.heap.size w w' ∧ (Ty.mk 3 o t p n l op c).Sh w' (BF B w w') (w.heap.size + 1)) := by
    have e1 : (w.alloc (.cells #[.int .i64 3, .int .i64 o, .nilIface, .int .i64 0, .slice none 0 0, .slice none 0 0, .slice none 0 0, .bool false, .string ByteArray.empty, .int .i64 0, .int .i64 0] 102)).heap.size = w.heap.size + 1 := by simp
    rw [e1] at hbx hz'
    refine ⟨HB.out.trans (hb'.mono (by simp)), ?_⟩
    simp only [Ty.Sh]
    refine ⟨.inr ⟨by omega, by omega⟩, _, _, _, _, _, _, _, _, _, _, _, _, _, _, hbx, ?_, ?_, ?_, ?_, ?_, ?_⟩ <;> simp [Sp.parted, ShZ, TyL.len]
  clear hb' hz' hbx
  go_wp2_with fail
  go_ret
  exact ⟨_, rfl, H.out⟩
set_option maxRecDepth 100000 in
set_option maxHeartbeats 4000000 in
theorem shp_8 (o : Int) (t : Tm) (p : TyL) (n : List ByteArray) (l : List Bool) (op : Bool) (c : ByteArray) (g q : Nat) (B : Nat → Prop) (w : World) (hg : g < w.heap.size) (r0 : w.cell? ⟨g, q, none⟩ = some (.int .i64 8)) (r17 : w.cell? ⟨g, q + 17, none⟩ = some (.string c)) :
    Calls Tryz.prog 88 #[.pointer (some ⟨g, q, none⟩)] w (ShapedE (Ty.mk 8 o t p n l op c) B w) := by
  have HL : Hid ((loadVar 102 ⟨w.heap.size, 0, none⟩).run Tryz.prog (w.alloc (.cells #[.int .i64 8, .int .i64 0, .nilIface, .int .i64 0, .slice none 0 0, .slice none 0 0, .slice none 0 0, .bool false, .string c, .int .i64 0, .int .i64 0] 102)) = .ok (.agg #[.int .i64 8, .int .i64 0, .nilIface, .int .i64 0, .slice none 0 0, .slice none 0 0, .slice none 0 0, .bool false, .string c, .int .i64 0, .int .i64 0]) (w.alloc (.cells #[.int .i64 8, .int .i64 0, .nilIface, .int .i64 0, .slice none 0 0, .slice none 0 0, .slice none 0 0, .bool false, .string c, .int .i64 0, .int .i64 0] 102))) := sld rfl (heap_alloc_new w _)
  have HB : Hid (Below w.heap.size w (w.alloc (.cells #[.int .i64 8, .int .i64 0, .nilIface, .int .i64 0, .slice none 0 0, .slice none 0 0, .slice none 0 0, .bool false, .string c, .int .i64 0, .int .i64 0] 102))) := (Below.refl _ _).alloc (Nat.le_refl _) _
  have HM : Hid (Calls Tryz.prog 55 #[.agg #[.int .i64 8, .int .i64 0, .nilIface, .int .i64 0, .slice none 0 0, .slice none 0 0, .slice none 0 0, .bool false, .string c, .int .i64 0, .int .i64 0]] (w.alloc (.cells #[.int .i64 8, .int .i64 0, .nilIface, .int .i64 0, .slice none 0 0, .slice none 0 0, .slice none 0 0, .bool false, .string c, .int .i64 0, .int .i64 0] 102)) _) := made_any _ _ _ _ none .nil 0 _ _ _ _ _ _ (fun _ => False) (w.alloc (.cells #[.int .i64 8, .int .i64 0, .nilIface, .int .i64 0, .slice none 0 0, .slice none 0 0, .slice none 0 0, .bool false, .string c, .int .i64 0, .int .i64 0] 102)) (fun _ h => h.elim) (by simp [TyL.Sh]) (by simp [TyL.len]) (by simp [TyL.cnt]) (by simp [TyL.dep])
  go_enter Tryz.func88, Tryz.ntmps88
  go_wp2_with ((with_reducible refine ld_row ?_ ?_ HL.out ?_); rfl; rfl)
  refine HM.out.mono ?_
  rintro e w' ⟨rfl, hb', hz', hbx⟩
  have H : Hid (Below w.heap.size w w' ∧ (Ty.mk 8 o t p n l op c).Sh w' (BF B w w') (w.heap.size + 1)) := by
    have e1 : (w.alloc (.cells #[.int .i64 8, .int .i64 0, .nilIface, .int .i64 0, .slice none 0 0, .slice none 0 0, .slice none 0 0, .bool false, .string c, .int .i64 0, .int .i64 0] 102)).heap.size = w.heap.size + 1 := by simp
    rw [e1] at hbx hz'
    refine ⟨HB.out.trans (hb'.mono (by simp)), ?_⟩
    simp only [Ty.Sh]
    refine ⟨.inr ⟨by omega, by omega⟩, _, _, _, _, _, _, _, _, _, _, _, _, _, _, hbx, ?_, ?_, ?_, ?_, ?_, ?_⟩ <;> simp [Sp.parted, ShZ, TyL.len]
  clear hb' hz' hbx
  go_wp2_with fail
  go_ret
  exact ⟨_, rfl, H.out⟩
end Go.Proofs.YtjdjpbdfchhcfaaGreat

/- check.sizeOf; check.shaped of a type of one value. -/
namespace Go.Proofs.YtjdjpbdfchhcfaaGreat
open Go.RowKit

set_option maxRecDepth 100000 in
set_option maxHeartbeats 1000000 in
theorem sizeOf_any (t : Tm) (v : Value) (B : Nat) (w : World) (hB : B ≤ w.heap.size) (h : t.V w (Lo B) v) :
    Calls Tryz.prog 106 #[v] w fun e w' => e = .returned (.int .i64 t.szN) ∧ Below w.heap.size w w' := by
  have HS : Hid (Calls Tryz.prog 122 #[v] w fun e w' => e = .returned (.tuple #[.int .i64 t.szN, .int .i64 t.szD, .int .i64 t.all.e]) ∧ Below w.heap.size w w') := Size_any t v B w hB h
  clear h hB
  generalize t.szN = a at *
  generalize t.szD = b at *
  generalize t.all.e = c at *
  go_enter Tryz.func106, Tryz.ntmps106
  go_wp2_with (go_at_call 122; refine HS.out.mono ?_; rintro e w1 ⟨rfl, hb1⟩)
  go_ret
  exact ⟨rfl, hb1⟩

set_option maxRecDepth 100000 in
set_option maxHeartbeats 4000000 in
theorem shp_4 (o : Int) (t : Tm) (p : TyL) (n : List ByteArray) (l : List Bool) (op : Bool) (c : ByteArray) (g q : Nat) (B : Nat → Prop) (w : World) (hB : Sub B w) (hg : g < w.heap.size) (r0 : w.cell? ⟨g, q, none⟩ = some (.int .i64 4)) (ct : Array Value) (ht : t.In w B ct) (hcs : ct.size = 11) (hct : ∀ x, x < 11 → w.cell? ⟨g, q + 2 + x, none⟩ = ct[x]?) (he : t.all.e = 0) :
    Calls Tryz.prog 88 #[.pointer (some ⟨g, q, none⟩)] w (ShapedE (Ty.mk 4 o t p n l op c) B w) := by
  have HB : Hid (Below w.heap.size w (w.alloc (.cells #[.int .i64 4, .int .i64 0, .nilIface, .int .i64 0, .slice none 0 0, .slice none 0 0, .slice none 0 0, .bool false, .string ByteArray.empty, .int .i64 0, .int .i64 0] 102))) := (Below.refl _ _).alloc (Nat.le_refl _) _
  have HL : Hid ((loadVar 29 ⟨g, q + 2, none⟩).run Tryz.prog (w.alloc (.cells #[.int .i64 4, .int .i64 0, .nilIface, .int .i64 0, .slice none 0 0, .slice none 0 0, .slice none 0 0, .bool false, .string ByteArray.empty, .int .i64 0, .int .i64 0] 102)) = .ok (.agg ct) (w.alloc (.cells #[.int .i64 4, .int .i64 0, .nilIface, .int .i64 0, .slice none 0 0, .slice none 0 0, .slice none 0 0, .bool false, .string ByteArray.empty, .int .i64 0, .int .i64 0] 102))) := yldT hcs (fun x hx => by rw [HB.out.cell (p := ⟨g, q + 2 + x, none⟩) hg]; exact hct x hx)
  have HO : Hid (Calls Tryz.prog 110 #[.agg ct] (w.alloc (.cells #[.int .i64 4, .int .i64 0, .nilIface, .int .i64 0, .slice none 0 0, .slice none 0 0, .slice none 0 0, .bool false, .string ByteArray.empty, .int .i64 0, .int .i64 0] 102)) fun e w' => ∃ v, e = .returned (.tuple #[v, .int .i64 0]) ∧ Below (w.alloc (.cells #[.int .i64 4, .int .i64 0, .nilIface, .int .i64 0, .slice none 0 0, .slice none 0 0, .slice none 0 0, .bool false, .string ByteArray.empty, .int .i64 0, .int .i64 0] 102)).heap.size (w.alloc (.cells #[.int .i64 4, .int .i64 0, .nilIface, .int .i64 0, .slice none 0 0, .slice none 0 0, .slice none 0 0, .bool false, .string ByteArray.empty, .int .i64 0, .int .i64 0] 102)) w' ∧ t.V w' (Fr (w.alloc (.cells #[.int .i64 4, .int .i64 0, .nilIface, .int .i64 0, .slice none 0 0, .slice none 0 0, .slice none 0 0, .bool false, .string ByteArray.empty, .int .i64 0, .int .i64 0] 102)) w') v) := Of_ok t ct B _ (t.In_same (hB.same HB.out) (fun _ h => h) ct ht) (hB.later HB.out) he
  clear ht hct hcs hB he
  go_enter Tryz.func88, Tryz.ntmps88
  go_wp2_with ((with_reducible refine ld_row ?_ ?_ HL.out ?_); rfl; rfl)
  refine HO.out.mono ?_
  rintro e w1 ⟨v, rfl, hb1, hv1⟩
  have hx1 : w1.heap[w.heap.size]? = some (.cells #[.int .i64 4, .int .i64 0, .nilIface, .int .i64 0, .slice none 0 0, .slice none 0 0, .slice none 0 0, .bool false, .string ByteArray.empty, .int .i64 0, .int .i64 0] 102 (0, 0)) := by rw [hb1.block w.heap.size (by simp)]; exact heap_alloc_new w _
  clear HO HL r0
  rcases t.V_shape v hv1 with rfl | ⟨T, y, rfl⟩
  ·
    obtain ⟨w2, HW2⟩ : ∃ w2, w1.setCell ⟨w.heap.size, 2, none⟩ (.nilIface) = w2 := ⟨_, rfl⟩
    have hx2 : w2.heap[w.heap.size]? = some (.cells #[.int .i64 4, .int .i64 0, .nilIface, .int .i64 0, .slice none 0 0, .slice none 0 0, .slice none 0 0, .bool false, .string ByteArray.empty, .int .i64 0, .int .i64 0] 102 (0, 0)) := by rw [← HW2]; simp [World.setCell, Array.getElem?_modify, hx1]
    have hs2 : w2.heap.size = w1.heap.size := by rw [← HW2]; simp [World.setCell]
    have HS2 : Hid (∀ k, k ≠ w.heap.size → w2.heap[k]? = w1.heap[k]?) := fun k hk => by rw [← HW2]; exact Below.heap_setCell _ _ _ _ hk
    have hv2 : t.V w2 (Lo w2.heap.size) (.nilIface) := t.V_same (B := Fr (w.alloc (.cells #[.int .i64 4, .int .i64 0, .nilIface, .int .i64 0, .slice none 0 0, .slice none 0 0, .slice none 0 0, .bool false, .string ByteArray.empty, .int .i64 0, .int .i64 0] 102)) w1) (fun k hk => HS2.out k (by have := hk.1; simp at this; omega)) (fun k hk => by show _ < _; have := hk.2; omega) _ hv1
    have HZ : Hid (Calls Tryz.prog 106 #[.nilIface] w2 fun e w' => e = .returned (.int .i64 t.szN) ∧ Below w2.heap.size w2 w') := sizeOf_any t _ _ w2 (Nat.le_refl _) hv2
    have c2 : w1.cell? ⟨w.heap.size, 2, none⟩ = some .nilIface := by rw [cell_of_row _ _ _ _ _ _ hx1]; rfl
    have z2 := Lib.frozen_of_heap hx1 2
    have d2 : w2.cell? ⟨w.heap.size, 2, none⟩ = some (.nilIface) := by rw [cell_of_row _ _ _ _ _ _ hx2]; rfl
    have H2 : Hid (Below w.heap.size w w2 ∧ w2.heap[w.heap.size]? = some (.cells #[.int .i64 4, .int .i64 0, .nilIface, .int .i64 0, .slice none 0 0, .slice none 0 0, .slice none 0 0, .bool false, .string ByteArray.empty, .int .i64 0, .int .i64 0] 102 (0, 0)) ∧ t.V w2 (fun k => w.heap.size < k ∧ k < w2.heap.size) (.nilIface)) := ⟨by rw [← HW2]; exact (HB.out.trans (hb1.mono (by simp))).setCell (p := ⟨w.heap.size, 2, none⟩) (Nat.le_refl _) _, hx2, t.V_same (B := Fr (w.alloc (.cells #[.int .i64 4, .int .i64 0, .nilIface, .int .i64 0, .slice none 0 0, .slice none 0 0, .slice none 0 0, .bool false, .string ByteArray.empty, .int .i64 0, .int .i64 0] 102)) w1) (fun k hk => HS2.out k (by have := hk.1; simp at this; omega)) (fun k hk => ⟨by have := hk.1; simp at this; omega, by have := hk.2; omega⟩) _ hv1⟩
    clear hx1 hx2 hs2 HS2 hv2 hv1 hb1
    go_wp2_with fail
    refine HZ.out.mono ?_
    rintro e w3 ⟨rfl, hb3⟩
    have hl2 : w.heap.size < w2.heap.size := (Array.getElem?_eq_some_iff.1 H2.out.2.1).1
    have hx3 : w3.heap[w.heap.size]? = some (.cells #[.int .i64 4, .int .i64 0, .nilIface, .int .i64 0, .slice none 0 0, .slice none 0 0, .slice none 0 0, .bool false, .string ByteArray.empty, .int .i64 0, .int .i64 0] 102 (0, 0)) := by rw [hb3.block w.heap.size hl2]; exact H2.out.2.1
    obtain ⟨w4, HW4⟩ : ∃ w4, w3.setCell ⟨w.heap.size, 3, none⟩ (.int .i64 t.szN) = w4 := ⟨_, rfl⟩
    have hx4 : w4.heap[w.heap.size]? = some (.cells #[.int .i64 4, .int .i64 0, .nilIface, .int .i64 t.szN, .slice none 0 0, .slice none 0 0, .slice none 0 0, .bool false, .string ByteArray.empty, .int .i64 0, .int .i64 0] 102 (0, 0)) := by rw [← HW4]; simp [World.setCell, Array.getElem?_modify, hx3]
    have hs4 : w4.heap.size = w3.heap.size := by rw [← HW4]; simp [World.setCell]
    have H4 : Hid (Below w.heap.size w w4 ∧ t.V w4 (Fr w w4) (.nilIface)) := ⟨by rw [← HW4]; exact (H2.out.1.trans (hb3.mono (by omega))).setCell (p := ⟨w.heap.size, 3, none⟩) (Nat.le_refl _) _,
      t.V_same (B := fun k => w.heap.size < k ∧ k < w2.heap.size) (fun k hk => by rw [← HW4, Below.heap_setCell _ _ _ _ (by show k ≠ w.heap.size; have := hk.1; omega)]; exact hb3.block k hk.2) (fun k hk => ⟨by have := hk.1; omega, by have := hk.2; have := hb3.size; omega⟩) _ H2.out.2.2⟩
    have c3 : w3.cell? ⟨w.heap.size, 3, none⟩ = some (.int .i64 0) := by rw [cell_of_row _ _ _ _ _ _ hx3]; rfl
    have z3 := Lib.frozen_of_heap hx3 3
    have HL4 : Hid ((loadVar 102 ⟨w.heap.size, 0, none⟩).run Tryz.prog w4 = .ok (.agg #[.int .i64 4, .int .i64 0, .nilIface, .int .i64 t.szN, .slice none 0 0, .slice none 0 0, .slice none 0 0, .bool false, .string ByteArray.empty, .int .i64 0, .int .i64 0]) w4) := sld rfl hx4
    have HM : Hid (Calls Tryz.prog 55 #[.agg #[.int .i64 4, .int .i64 0, .nilIface, .int .i64 t.szN, .slice none 0 0, .slice none 0 0, .slice none 0 0, .bool false, .string ByteArray.empty, .int .i64 0, .int .i64 0]] w4 _) := made_any _ _ _ _ none .nil 0 _ _ _ _ _ _ (fun _ => False) w4 (fun _ h => h.elim) (by simp [TyL.Sh]) (by simp [TyL.len]) (by simp [TyL.cnt]) (by simp [TyL.dep])
    have hl4 : w.heap.size ≤ w4.heap.size := by have := hb3.size; omega
    clear hx3 hx4 hs4 hb3 c2 z2 d2
    go_wp2_with ((with_reducible refine ld_row ?_ ?_ HL4.out ?_); rfl; rfl)
    refine HM.out.mono ?_
    rintro e w' ⟨rfl, hb', hz', hbx⟩
    have H : Hid (Below w.heap.size w w' ∧ (Ty.mk 4 o t p n l op c).Sh w' (BF B w w') w4.heap.size) := by
      refine ⟨H4.out.1.trans (hb'.mono hl4), ?_⟩
      simp only [Ty.Sh]
      refine ⟨.inr ⟨by omega, by omega⟩, _, _, _, _, _, _, _, _, _, _, _, _, _, _, hbx, ?_, fun _ => ⟨t.V_same (fun k hk => hb'.block k hk.2) (fun k hk => .inr ⟨hk.1, by have := hk.2; omega⟩) _ H4.out.2, rfl⟩, ?_, ?_, ?_, ?_⟩ <;> simp [Sp.parted, ShZ, TyL.len]
    clear hb' hz' hbx
    go_wp2_with fail
    go_ret
    exact ⟨_, rfl, H.out⟩
  ·
    obtain ⟨w2, HW2⟩ : ∃ w2, w1.setCell ⟨w.heap.size, 2, none⟩ (.iface T y) = w2 := ⟨_, rfl⟩
    have hx2 : w2.heap[w.heap.size]? = some (.cells #[.int .i64 4, .int .i64 0, .iface T y, .int .i64 0, .slice none 0 0, .slice none 0 0, .slice none 0 0, .bool false, .string ByteArray.empty, .int .i64 0, .int .i64 0] 102 (0, 0)) := by rw [← HW2]; simp [World.setCell, Array.getElem?_modify, hx1]
    have hs2 : w2.heap.size = w1.heap.size := by rw [← HW2]; simp [World.setCell]
    have HS2 : Hid (∀ k, k ≠ w.heap.size → w2.heap[k]? = w1.heap[k]?) := fun k hk => by rw [← HW2]; exact Below.heap_setCell _ _ _ _ hk
    have hv2 : t.V w2 (Lo w2.heap.size) (.iface T y) := t.V_same (B := Fr (w.alloc (.cells #[.int .i64 4, .int .i64 0, .nilIface, .int .i64 0, .slice none 0 0, .slice none 0 0, .slice none 0 0, .bool false, .string ByteArray.empty, .int .i64 0, .int .i64 0] 102)) w1) (fun k hk => HS2.out k (by have := hk.1; simp at this; omega)) (fun k hk => by show _ < _; have := hk.2; omega) _ hv1
    have HZ : Hid (Calls Tryz.prog 106 #[.iface T y] w2 fun e w' => e = .returned (.int .i64 t.szN) ∧ Below w2.heap.size w2 w') := sizeOf_any t _ _ w2 (Nat.le_refl _) hv2
    have c2 : w1.cell? ⟨w.heap.size, 2, none⟩ = some .nilIface := by rw [cell_of_row _ _ _ _ _ _ hx1]; rfl
    have z2 := Lib.frozen_of_heap hx1 2
    have d2 : w2.cell? ⟨w.heap.size, 2, none⟩ = some (.iface T y) := by rw [cell_of_row _ _ _ _ _ _ hx2]; rfl
    have H2 : Hid (Below w.heap.size w w2 ∧ w2.heap[w.heap.size]? = some (.cells #[.int .i64 4, .int .i64 0, .iface T y, .int .i64 0, .slice none 0 0, .slice none 0 0, .slice none 0 0, .bool false, .string ByteArray.empty, .int .i64 0, .int .i64 0] 102 (0, 0)) ∧ t.V w2 (fun k => w.heap.size < k ∧ k < w2.heap.size) (.iface T y)) := ⟨by rw [← HW2]; exact (HB.out.trans (hb1.mono (by simp))).setCell (p := ⟨w.heap.size, 2, none⟩) (Nat.le_refl _) _, hx2, t.V_same (B := Fr (w.alloc (.cells #[.int .i64 4, .int .i64 0, .nilIface, .int .i64 0, .slice none 0 0, .slice none 0 0, .slice none 0 0, .bool false, .string ByteArray.empty, .int .i64 0, .int .i64 0] 102)) w1) (fun k hk => HS2.out k (by have := hk.1; simp at this; omega)) (fun k hk => ⟨by have := hk.1; simp at this; omega, by have := hk.2; omega⟩) _ hv1⟩
    clear hx1 hx2 hs2 HS2 hv2 hv1 hb1
    go_wp2_with fail
    refine HZ.out.mono ?_
    rintro e w3 ⟨rfl, hb3⟩
    have hl2 : w.heap.size < w2.heap.size := (Array.getElem?_eq_some_iff.1 H2.out.2.1).1
    have hx3 : w3.heap[w.heap.size]? = some (.cells #[.int .i64 4, .int .i64 0, .iface T y, .int .i64 0, .slice none 0 0, .slice none 0 0, .slice none 0 0, .bool false, .string ByteArray.empty, .int .i64 0, .int .i64 0] 102 (0, 0)) := by rw [hb3.block w.heap.size hl2]; exact H2.out.2.1
    obtain ⟨w4, HW4⟩ : ∃ w4, w3.setCell ⟨w.heap.size, 3, none⟩ (.int .i64 t.szN) = w4 := ⟨_, rfl⟩
    have hx4 : w4.heap[w.heap.size]? = some (.cells #[.int .i64 4, .int .i64 0, .iface T y, .int .i64 t.szN, .slice none 0 0, .slice none 0 0, .slice none 0 0, .bool false, .string ByteArray.empty, .int .i64 0, .int .i64 0] 102 (0, 0)) := by rw [← HW4]; simp [World.setCell, Array.getElem?_modify, hx3]
    have hs4 : w4.heap.size = w3.heap.size := by rw [← HW4]; simp [World.setCell]
    have H4 : Hid (Below w.heap.size w w4 ∧ t.V w4 (Fr w w4) (.iface T y)) := ⟨by rw [← HW4]; exact (H2.out.1.trans (hb3.mono (by omega))).setCell (p := ⟨w.heap.size, 3, none⟩) (Nat.le_refl _) _,
      t.V_same (B := fun k => w.heap.size < k ∧ k < w2.heap.size) (fun k hk => by rw [← HW4, Below.heap_setCell _ _ _ _ (by show k ≠ w.heap.size; have := hk.1; omega)]; exact hb3.block k hk.2) (fun k hk => ⟨by have := hk.1; omega, by have := hk.2; have := hb3.size; omega⟩) _ H2.out.2.2⟩
    have c3 : w3.cell? ⟨w.heap.size, 3, none⟩ = some (.int .i64 0) := by rw [cell_of_row _ _ _ _ _ _ hx3]; rfl
    have z3 := Lib.frozen_of_heap hx3 3
    have HL4 : Hid ((loadVar 102 ⟨w.heap.size, 0, none⟩).run Tryz.prog w4 = .ok (.agg #[.int .i64 4, .int .i64 0, .iface T y, .int .i64 t.szN, .slice none 0 0, .slice none 0 0, .slice none 0 0, .bool false, .string ByteArray.empty, .int .i64 0, .int .i64 0]) w4) := sld rfl hx4
    have HM : Hid (Calls Tryz.prog 55 #[.agg #[.int .i64 4, .int .i64 0, .iface T y, .int .i64 t.szN, .slice none 0 0, .slice none 0 0, .slice none 0 0, .bool false, .string ByteArray.empty, .int .i64 0, .int .i64 0]] w4 _) := made_any _ _ _ _ none .nil 0 _ _ _ _ _ _ (fun _ => False) w4 (fun _ h => h.elim) (by simp [TyL.Sh]) (by simp [TyL.len]) (by simp [TyL.cnt]) (by simp [TyL.dep])
    have hl4 : w.heap.size ≤ w4.heap.size := by have := hb3.size; omega
    clear hx3 hx4 hs4 hb3 c2 z2 d2
    go_wp2_with ((with_reducible refine ld_row ?_ ?_ HL4.out ?_); rfl; rfl)
    refine HM.out.mono ?_
    rintro e w' ⟨rfl, hb', hz', hbx⟩
    have H : Hid (Below w.heap.size w w' ∧ (Ty.mk 4 o t p n l op c).Sh w' (BF B w w') w4.heap.size) := by
      refine ⟨H4.out.1.trans (hb'.mono hl4), ?_⟩
      simp only [Ty.Sh]
      refine ⟨.inr ⟨by omega, by omega⟩, _, _, _, _, _, _, _, _, _, _, _, _, _, _, hbx, ?_, fun _ => ⟨t.V_same (fun k hk => hb'.block k hk.2) (fun k hk => .inr ⟨hk.1, by have := hk.2; omega⟩) _ H4.out.2, rfl⟩, ?_, ?_, ?_, ?_⟩ <;> simp [Sp.parted, ShZ, TyL.len]
    clear hb' hz' hbx
    go_wp2_with fail
    go_ret
    exact ⟨_, rfl, H.out⟩
end Go.Proofs.YtjdjpbdfchhcfaaGreat

