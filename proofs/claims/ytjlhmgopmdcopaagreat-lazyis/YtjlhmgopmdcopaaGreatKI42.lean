/- tenonmake.Same, Lists, Entries: two terms of one value are told to be the same. -/
import Derived.Test.YtjlhmgopmdcopaaGreatKI41
import Derived.Test.YtjlhmgopmdcopaaGreatKI16
import Derived.Deep.RegionHeld3
namespace Go.Proofs.YtjlhmgopmdcopaaGreat
open Go.RowKit

mutual
/-- two terms of one value: the same in all that plays a part -/
def Tm.eqv : Tm → Tm → Prop
  | .mk k b i f tx by' rf l fs c v, .mk k2 b2 i2 f2 tx2 by2 rf2 l2 fs2 c2 v2 => k = k2 ∧ (1 ≤ k ∧ k ≤ 10) ∧ (k = 2 → b = b2) ∧ (k = 3 → i = i2) ∧ (k = 4 → f = f2) ∧ (k = 5 → tx = tx2) ∧ (k = 6 → by' = by2) ∧ (k = 7 → rf = rf2) ∧ (k = 8 → l.eqv l2) ∧ (k = 9 ∨ k = 10 → fs.eqv fs2) ∧ (k = 10 → c = c2 ∧ v = v2)
def TmL.eqv : TmL → TmL → Prop
  | .nil, .nil => True
  | .cons t l, .cons t2 l2 => t.eqv t2 ∧ l.eqv l2
  | _, _ => False
def TmF.eqv : TmF → TmF → Prop
  | .nil, .nil => True
  | .cons n t l, .cons n2 t2 l2 => n = n2 ∧ t.eqv t2 ∧ l.eqv l2
  | _, _ => False
end
theorem TmL.eqv_len : (a b : TmL) → a.eqv b → a.len = b.len
  | .nil, .nil, _ => rfl
  | .nil, .cons _ _, h => by simp [TmL.eqv] at h
  | .cons _ _, .nil, h => by simp [TmL.eqv] at h
  | .cons t l, .cons u r, h => by simp only [TmL.eqv] at h; simp only [TmL.len, TmL.eqv_len l r h.2]
theorem TmF.eqv_len : (a b : TmF) → a.eqv b → a.len = b.len
  | .nil, .nil, _ => rfl
  | .nil, .cons _ _ _, h => by simp [TmF.eqv] at h
  | .cons _ _ _, .nil, h => by simp [TmF.eqv] at h
  | .cons n t l, .cons m u r, h => by simp only [TmF.eqv] at h; simp only [TmF.len, TmF.eqv_len l r h.2.2]

def SmC (N : Nat) : Prop := ∀ (s t : Tm), s.sz ≤ N → s.eqv t → ∀ (cs ct : Array Value) (S : Nat → Prop) (w : World), s.In w S cs → t.In w S ct → Sub S w →
  Calls Tryz.prog 16 #[.agg cs, .agg ct] w fun e w' => e = .returned (.bool true) ∧ Below w.heap.size w w'
theorem SmC.at {N : Nat} (HC : SmC N) {s t : Tm} (hN : s.sz ≤ N) (he : s.eqv t) {cs ct : Array Value} {S : Nat → Prop} {w : World} (hs : s.In w S cs) (ht : t.In w S ct) (hS : Sub S w) :
    ∀ W, Below w.heap.size w W → Calls Tryz.prog 16 #[.agg cs, .agg ct] W fun e w' => e = .returned (.bool true) ∧ Below W.heap.size W w' :=
  fun W hW => HC s t hN he cs ct S W (s.In_same (hS.same hW) (fun _ h => h) cs hs) (t.In_same (hS.same hW) (fun _ h => h) ct ht) (hS.later hW)

set_option maxRecDepth 100000 in
set_option maxHeartbeats 2000000 in
theorem lists_any (N : Nat) (HC : SmC N) (A B : TmL) (hN : A.sz ≤ N) (hE : A.eqv B) (a b : Option Addr) (ca cb : Nat) (S : Nat → Prop) (w : World) (ha : A.In w S a 0) (hb : B.In w S b 0) (hS : Sub S w) (la : A.len * 152 ≤ 140737488355328) :
    Calls Tryz.prog 36 #[.slice a A.len ca, .slice b B.len cb] w fun e w' => e = .returned (.bool true) ∧ Below w.heap.size w w' := by
  have hlen := TmL.eqv_len A B hE
  rw [← hlen]
  clear hlen
  have HCH : Hid (SmC N) := HC
  have H0 : Hid (A.In w S a 0 ∧ B.In w S b 0 ∧ A.eqv B) := ⟨ha, hb, hE⟩
  clear HC ha hb hE
  go_enter Tryz.func36, Tryz.ntmps36
  go_wp2_with fail
  go_loopw [5] (fun x wr => ∃ (k : Nat) (l r : TmL), x = .int .i64 k ∧ l.len + k = A.len ∧ l.sz ≤ N ∧ Hid (l.In w S a k ∧ r.In w S b k ∧ l.eqv r) ∧ Hid (Below w.heap.size w wr)) (fun x _ => A.len - (intOf x).toNat)
  case atStart => exact ⟨0, A, B, rfl, rfl, hN, H0.out, Below.refl _ _⟩
  case round =>
    obtain ⟨k, l, r, rfl, hl, hlN, HI, HW⟩ := hrel
    clear H0
    cases l with
    | nil =>
      have h1 : A.len ≤ k := by simp [TmL.len] at hl; omega
      clear hl
      go_wp2_with fail
      go_ret
      exact ⟨rfl, HW.out⟩
    | cons t l =>
      cases r with
      | nil => exact absurd HI.out.2.2 (by simp [TmL.eqv])
      | cons u r =>
        obtain ⟨hv1, hv2, he⟩ := HI.out
        simp only [TmL.eqv] at he
        simp only [TmL.In] at hv1 hv2
        obtain ⟨g1, o1, cs1, rfl, hg1, c1, ht, hl'⟩ := hv1
        obtain ⟨g2, o2, cs2, rfl, hg2, c2, hu, hr'⟩ := hv2
        have hk1 : k < A.len := by simp only [TmL.len] at hl; omega
        have hi0 : (0 : Int) ≤ (k : Int) := Int.natCast_nonneg _
        have hi1 : (k : Int) < (A.len : Int) := by omega
        have HL : Hid (l.len + (k + 1) = A.len) := by show _ = _; simp only [TmL.len] at hl; omega
        have htN : t.sz ≤ N ∧ l.sz ≤ N := by simp [TmL.sz] at hlN; omega
        have hs : Same S w wr := hS.same HW.out
        have HO : Hid (∀ W, Below wr.heap.size wr W → Calls Tryz.prog 16 #[.agg cs1, .agg cs2] W fun e w' => e = .returned (.bool true) ∧ Below W.heap.size W w') :=
          HCH.out.at htN.1 he.1 (t.In_same hs (fun _ h => h) cs1 ht) (u.In_same hs (fun _ h => h) cs2 hu) (hS.later HW.out)
        obtain ⟨k1, b1, i1, f1, tx1, vb1, rf1, vl1, vf1, cl1, vr1, rfl⟩ := Tm.In_tc ht
        obtain ⟨k2, b2, i2, f2, tx2, vb2, rf2, vl2, vf2, cl2, vr2, rfl⟩ := Tm.In_tc hu
        obtain ⟨e0, e1, e2, e3, e4, e5, e6, e7, e8, e9, e10⟩ := eleven (w := wr) (g := g1) (o := o1 + k * 11) (fun x hx => by rw [hs.cell (p := ⟨g1, o1 + k * 11 + x, none⟩) hg1]; exact c1 x hx)
        obtain ⟨d0, d1, d2, d3, d4, d5, d6, d7, d8, d9, d10⟩ := eleven (w := wr) (g := g2) (o := o2 + k * 11) (fun x hx => by rw [hs.cell (p := ⟨g2, o2 + k * 11 + x, none⟩) hg2]; exact c2 x hx)
        have HN : Hid (l.In w S (some ⟨g1, o1, none⟩) (k + 1) ∧ r.In w S (some ⟨g2, o2, none⟩) (k + 1) ∧ l.eqv r) := ⟨hl', hr', he.2⟩
        unfold tcells at HO
        clear hl hlN HI hl' hr' he ht hu hs c1 c2
        go_wp2_with fail
        go_region_with ((go_at_call 16; refine (HO.out _ ?_).mono ?_; exact (Below.refl _ _).drew; rintro e w4 ⟨rfl, hb4⟩; have HB4 : Hid (Below w.heap.size w w4) := HW.out.trans (((Below.refl _ _).drew.trans hb4).mono HW.out.size); clear hb4))
        all_goals
          go_wp2_with fail
          go_roundw
          case rel => exact ⟨k + 1, l, r, by go_num, HL.out, htN.2, HN.out, HB4.out⟩
          case measure => simp [intOf]; omega
end Go.Proofs.YtjlhmgopmdcopaaGreat

/- tenonmake.Entries. -/
namespace Go.Proofs.YtjlhmgopmdcopaaGreat
open Go.RowKit

set_option maxRecDepth 100000 in
set_option maxHeartbeats 2000000 in
theorem mentries_any (N : Nat) (HC : SmC N) (A B : TmF) (hN : A.sz ≤ N) (hE : A.eqv B) (a b : Option Addr) (ca cb : Nat) (S : Nat → Prop) (w : World) (ha : A.In w S a 0) (hb : B.In w S b 0) (hS : Sub S w) (la : A.len * 168 ≤ 140737488355328) :
    Calls Tryz.prog 37 #[.slice a A.len ca, .slice b B.len cb] w fun e w' => e = .returned (.bool true) ∧ Below w.heap.size w w' := by
  have hlen := TmF.eqv_len A B hE
  rw [← hlen]
  clear hlen
  have HCH : Hid (SmC N) := HC
  have H0 : Hid (A.In w S a 0 ∧ B.In w S b 0 ∧ A.eqv B) := ⟨ha, hb, hE⟩
  clear HC ha hb hE
  go_enter Tryz.func37, Tryz.ntmps37
  go_wp2_with fail
  go_loopw [5] (fun x wr => ∃ (k : Nat) (l r : TmF), x = .int .i64 k ∧ l.len + k = A.len ∧ l.sz ≤ N ∧ Hid (l.In w S a k ∧ r.In w S b k ∧ l.eqv r) ∧ Hid (Below w.heap.size w wr)) (fun x _ => A.len - (intOf x).toNat)
  case atStart => exact ⟨0, A, B, rfl, rfl, hN, H0.out, Below.refl _ _⟩
  case round =>
    obtain ⟨k, l, r, rfl, hl, hlN, HI, HW⟩ := hrel
    clear H0
    cases l with
    | nil =>
      have h1 : A.len ≤ k := by simp [TmF.len] at hl; omega
      clear hl
      go_wp2_with fail
      go_ret
      exact ⟨rfl, HW.out⟩
    | cons n1 t l =>
      cases r with
      | nil => exact absurd HI.out.2.2 (by simp [TmF.eqv])
      | cons n2 u r =>
        obtain ⟨hv1, hv2, he⟩ := HI.out
        simp only [TmF.eqv] at he
        simp only [TmF.In] at hv1 hv2
        obtain ⟨g1, o1, cs1, rfl, hg1, a1, _, c1, ht, hl'⟩ := hv1
        obtain ⟨g2, o2, cs2, rfl, hg2, a2, _, c2, hu, hr'⟩ := hv2
        obtain ⟨rfl, he⟩ := he
        have hk1 : k < A.len := by simp only [TmF.len] at hl; omega
        have hi0 : (0 : Int) ≤ (k : Int) := Int.natCast_nonneg _
        have hi1 : (k : Int) < (A.len : Int) := by omega
        have HL : Hid (l.len + (k + 1) = A.len) := by show _ = _; simp only [TmF.len] at hl; omega
        have htN : t.sz ≤ N ∧ l.sz ≤ N := by simp [TmF.sz] at hlN; omega
        have hs : Same S w wr := hS.same HW.out
        have HO : Hid (∀ W, Below wr.heap.size wr W → Calls Tryz.prog 16 #[.agg cs1, .agg cs2] W fun e w' => e = .returned (.bool true) ∧ Below W.heap.size W w') :=
          HCH.out.at htN.1 he.1 (t.In_same hs (fun _ h => h) cs1 ht) (u.In_same hs (fun _ h => h) cs2 hu) (hS.later HW.out)
        obtain ⟨k1, b1, i1, f1, tx1, vb1, rf1, vl1, vf1, cl1, vr1, rfl⟩ := Tm.In_tc ht
        obtain ⟨k2, b2, i2, f2, tx2, vb2, rf2, vl2, vf2, cl2, vr2, rfl⟩ := Tm.In_tc hu
        obtain ⟨e0, e1, e2, e3, e4, e5, e6, e7, e8, e9, e10⟩ := eleven (w := wr) (g := g1) (o := o1 + k * 12 + 1) (fun x hx => by rw [hs.cell (p := ⟨g1, o1 + k * 12 + 1 + x, none⟩) hg1]; exact c1 x hx)
        obtain ⟨d0, d1, d2, d3, d4, d5, d6, d7, d8, d9, d10⟩ := eleven (w := wr) (g := g2) (o := o2 + k * 12 + 1) (fun x hx => by rw [hs.cell (p := ⟨g2, o2 + k * 12 + 1 + x, none⟩) hg2]; exact c2 x hx)
        have a1 : wr.cell? ⟨g1, o1 + k * 12, none⟩ = some (.string n1) := by rw [hs.cell (p := ⟨g1, o1 + k * 12, none⟩) hg1]; exact a1
        have a2 : wr.cell? ⟨g2, o2 + k * 12, none⟩ = some (.string n1) := by rw [hs.cell (p := ⟨g2, o2 + k * 12, none⟩) hg2]; exact a2
        have HN : Hid (l.In w S (some ⟨g1, o1, none⟩) (k + 1) ∧ r.In w S (some ⟨g2, o2, none⟩) (k + 1) ∧ l.eqv r) := ⟨hl', hr', he.2⟩
        unfold tcells at HO
        clear hl hlN HI hl' hr' he ht hu hs c1 c2
        have HX : Hid (∀ W, Below wr.heap.size wr W → W.cell? ⟨g1, o1 + k * 12, none⟩ = some (.string n1) ∧ W.cell? ⟨g2, o2 + k * 12, none⟩ = some (.string n1) ∧ W.cell? ⟨g1, o1 + k * 12 + 1, none⟩ = some (.int .i64 k1) ∧ W.cell? ⟨g1, o1 + k * 12 + 1 + 1, none⟩ = some (.bool b1) ∧ W.cell? ⟨g1, o1 + k * 12 + 1 + 2, none⟩ = some (.int .i64 i1) ∧ W.cell? ⟨g1, o1 + k * 12 + 1 + 3, none⟩ = some (.float .f64 f1) ∧ W.cell? ⟨g1, o1 + k * 12 + 1 + 4, none⟩ = some (.string tx1) ∧ W.cell? ⟨g1, o1 + k * 12 + 1 + 5, none⟩ = some (vb1) ∧ W.cell? ⟨g1, o1 + k * 12 + 1 + 6, none⟩ = some (.int .u64 rf1) ∧ W.cell? ⟨g1, o1 + k * 12 + 1 + 7, none⟩ = some (vl1) ∧ W.cell? ⟨g1, o1 + k * 12 + 1 + 8, none⟩ = some (vf1) ∧ W.cell? ⟨g1, o1 + k * 12 + 1 + 9, none⟩ = some (.string cl1) ∧ W.cell? ⟨g1, o1 + k * 12 + 1 + 10, none⟩ = some (.int .i64 vr1) ∧ W.cell? ⟨g2, o2 + k * 12 + 1, none⟩ = some (.int .i64 k2) ∧ W.cell? ⟨g2, o2 + k * 12 + 1 + 1, none⟩ = some (.bool b2) ∧ W.cell? ⟨g2, o2 + k * 12 + 1 + 2, none⟩ = some (.int .i64 i2) ∧ W.cell? ⟨g2, o2 + k * 12 + 1 + 3, none⟩ = some (.float .f64 f2) ∧ W.cell? ⟨g2, o2 + k * 12 + 1 + 4, none⟩ = some (.string tx2) ∧ W.cell? ⟨g2, o2 + k * 12 + 1 + 5, none⟩ = some (vb2) ∧ W.cell? ⟨g2, o2 + k * 12 + 1 + 6, none⟩ = some (.int .u64 rf2) ∧ W.cell? ⟨g2, o2 + k * 12 + 1 + 7, none⟩ = some (vl2) ∧ W.cell? ⟨g2, o2 + k * 12 + 1 + 8, none⟩ = some (vf2) ∧ W.cell? ⟨g2, o2 + k * 12 + 1 + 9, none⟩ = some (.string cl2) ∧ W.cell? ⟨g2, o2 + k * 12 + 1 + 10, none⟩ = some (.int .i64 vr2)) := fun W hW => by
          have h1 : ∀ j, W.cell? ⟨g1, j, none⟩ = wr.cell? ⟨g1, j, none⟩ := fun j => hW.cell (p := ⟨g1, j, none⟩) (hS.later HW.out _ hg1)
          have h2 : ∀ j, W.cell? ⟨g2, j, none⟩ = wr.cell? ⟨g2, j, none⟩ := fun j => hW.cell (p := ⟨g2, j, none⟩) (hS.later HW.out _ hg2)
          simp only [h1, h2]
          exact ⟨a1, a2, e0, e1, e2, e3, e4, e5, e6, e7, e8, e9, e10, d0, d1, d2, d3, d4, d5, d6, d7, d8, d9, d10⟩
        clear a1 a2 e0 e1 e2 e3 e4 e5 e6 e7 e8 e9 e10 d0 d1 d2 d3 d4 d5 d6 d7 d8 d9 d10
        go_wp2_with fail
        go_region_held3 (fun W => W.cell? ⟨g1, o1 + k * 12, none⟩ = some (.string n1) ∧ W.cell? ⟨g2, o2 + k * 12, none⟩ = some (.string n1) ∧ W.cell? ⟨g1, o1 + k * 12 + 1, none⟩ = some (.int .i64 k1) ∧ W.cell? ⟨g1, o1 + k * 12 + 1 + 1, none⟩ = some (.bool b1) ∧ W.cell? ⟨g1, o1 + k * 12 + 1 + 2, none⟩ = some (.int .i64 i1) ∧ W.cell? ⟨g1, o1 + k * 12 + 1 + 3, none⟩ = some (.float .f64 f1) ∧ W.cell? ⟨g1, o1 + k * 12 + 1 + 4, none⟩ = some (.string tx1) ∧ W.cell? ⟨g1, o1 + k * 12 + 1 + 5, none⟩ = some (vb1) ∧ W.cell? ⟨g1, o1 + k * 12 + 1 + 6, none⟩ = some (.int .u64 rf1) ∧ W.cell? ⟨g1, o1 + k * 12 + 1 + 7, none⟩ = some (vl1) ∧ W.cell? ⟨g1, o1 + k * 12 + 1 + 8, none⟩ = some (vf1) ∧ W.cell? ⟨g1, o1 + k * 12 + 1 + 9, none⟩ = some (.string cl1) ∧ W.cell? ⟨g1, o1 + k * 12 + 1 + 10, none⟩ = some (.int .i64 vr1) ∧ W.cell? ⟨g2, o2 + k * 12 + 1, none⟩ = some (.int .i64 k2) ∧ W.cell? ⟨g2, o2 + k * 12 + 1 + 1, none⟩ = some (.bool b2) ∧ W.cell? ⟨g2, o2 + k * 12 + 1 + 2, none⟩ = some (.int .i64 i2) ∧ W.cell? ⟨g2, o2 + k * 12 + 1 + 3, none⟩ = some (.float .f64 f2) ∧ W.cell? ⟨g2, o2 + k * 12 + 1 + 4, none⟩ = some (.string tx2) ∧ W.cell? ⟨g2, o2 + k * 12 + 1 + 5, none⟩ = some (vb2) ∧ W.cell? ⟨g2, o2 + k * 12 + 1 + 6, none⟩ = some (.int .u64 rf2) ∧ W.cell? ⟨g2, o2 + k * 12 + 1 + 7, none⟩ = some (vl2) ∧ W.cell? ⟨g2, o2 + k * 12 + 1 + 8, none⟩ = some (vf2) ∧ W.cell? ⟨g2, o2 + k * 12 + 1 + 9, none⟩ = some (.string cl2) ∧ W.cell? ⟨g2, o2 + k * 12 + 1 + 10, none⟩ = some (.int .i64 vr2))
          (first | with_reducible exact HX.out w4 HB4.out | with_reducible exact HX.out _ (Below.refl _ _) | with_reducible exact HX.out _ (Below.refl _ _).drew)
          ((first
            | (go_at_call 16; refine (HO.out _ ?_).mono ?_; exact (Below.refl _ _).drew; rintro e w4 ⟨rfl, hb4⟩; have HB4 : Hid (Below wr.heap.size wr w4) := (Below.refl _ _).drew.trans hb4; clear hb4)))
        have HB5 : Hid (Below w.heap.size w w4) := HW.out.trans (HB4.out.mono HW.out.size)
        go_wp2_with fail
        go_roundw
        case rel => exact ⟨k + 1, l, r, by go_num, HL.out, htN.2, HN.out, HB5.out⟩
        case measure => simp [intOf]; omega
end Go.Proofs.YtjlhmgopmdcopaaGreat

/- tenonmake.Same, kind by kind. -/
namespace Go.Proofs.YtjlhmgopmdcopaaGreat
open Go.RowKit

section
variable (b : Bool) (i : Int) (f : Nat) (tx : ByteArray) (vb : Value) (rf : Int) (vl vf : Value) (c : ByteArray) (vr : Int)
variable (b2 : Bool) (i2 : Int) (f2 : Nat) (tx2 : ByteArray) (vb2 : Value) (rf2 : Int) (vl2 vf2 : Value) (c2 : ByteArray) (vr2 : Int) (w : World)
set_option maxRecDepth 100000 in
set_option maxHeartbeats 1000000 in
theorem msame_1 : Calls Tryz.prog 16 #[.agg (tcells 1 b i f tx vb rf vl vf c vr), .agg (tcells 1 b2 i2 f2 tx2 vb2 rf2 vl2 vf2 c2 vr2)] w fun e w' => e = .returned (.bool true) ∧ Below w.heap.size w w' := by
  unfold tcells
  have HB := two_below w
  have HB : Hid _ := HB
  go_enter Tryz.func16, Tryz.ntmps16
  go_wp2_with fail
  go_ret
  exact ⟨rfl, HB.out _ _⟩
set_option maxRecDepth 100000 in
set_option maxHeartbeats 1000000 in
theorem msame_2 : Calls Tryz.prog 16 #[.agg (tcells 2 b i f tx vb rf vl vf c vr), .agg (tcells 2 b i2 f2 tx2 vb2 rf2 vl2 vf2 c2 vr2)] w fun e w' => e = .returned (.bool true) ∧ Below w.heap.size w w' := by
  unfold tcells
  have HB := two_below w
  have HB : Hid _ := HB
  go_enter Tryz.func16, Tryz.ntmps16
  go_wp2_with fail
  go_ret
  exact ⟨by simp, HB.out _ _⟩
set_option maxRecDepth 100000 in
set_option maxHeartbeats 1000000 in
theorem msame_3 : Calls Tryz.prog 16 #[.agg (tcells 3 b i f tx vb rf vl vf c vr), .agg (tcells 3 b2 i f2 tx2 vb2 rf2 vl2 vf2 c2 vr2)] w fun e w' => e = .returned (.bool true) ∧ Below w.heap.size w w' := by
  unfold tcells
  have HB := two_below w
  have HB : Hid _ := HB
  go_enter Tryz.func16, Tryz.ntmps16
  go_wp2_with fail
  go_ret
  exact ⟨by simp, HB.out _ _⟩
set_option maxRecDepth 100000 in
set_option maxHeartbeats 1000000 in
theorem msame_4 : Calls Tryz.prog 16 #[.agg (tcells 4 b i f tx vb rf vl vf c vr), .agg (tcells 4 b2 i2 f tx2 vb2 rf2 vl2 vf2 c2 vr2)] w fun e w' => e = .returned (.bool true) ∧ Below w.heap.size w w' := by
  unfold tcells
  have hb := bits_run f
  have HB := two_below w
  have HB : Hid _ := HB
  go_enter Tryz.func16, Tryz.ntmps16
  go_wp2_with fail
  go_quiet (fail)
  go_wp2_with fail
  go_ret
  exact ⟨by simp, (HB.out _ _).trans (below_drewN' _ _ _)⟩
set_option maxRecDepth 100000 in
set_option maxHeartbeats 1000000 in
theorem msame_5 : Calls Tryz.prog 16 #[.agg (tcells 5 b i f tx vb rf vl vf c vr), .agg (tcells 5 b2 i2 f2 tx vb2 rf2 vl2 vf2 c2 vr2)] w fun e w' => e = .returned (.bool true) ∧ Below w.heap.size w w' := by
  unfold tcells
  have HB := two_below w
  have HB : Hid _ := HB
  go_enter Tryz.func16, Tryz.ntmps16
  go_wp2_with fail
  go_ret
  exact ⟨by simp, HB.out _ _⟩
set_option maxRecDepth 100000 in
set_option maxHeartbeats 1000000 in
theorem msame_6 (x : ByteArray) (a a2 : Option Addr) (ca cb : Nat) (S : Nat → Prop) (ha : BytesAt w S a x) (hb : BytesAt w S a2 x) (hS : Sub S w) : Calls Tryz.prog 16 #[.agg (tcells 6 b i f tx (.slice a x.size ca) rf vl vf c vr), .agg (tcells 6 b2 i2 f2 tx2 (.slice a2 x.size cb) rf2 vl2 vf2 c2 vr2)] w fun e w' => e = .returned (.bool true) ∧ Below w.heap.size w w' := by
  unfold tcells
  have HL1 : ∀ o p, (convert 23 9 (.slice a x.size ca)).run Tryz.prog ((w.alloc o).alloc p) = .ok (.string x) ((w.alloc o).alloc p) := fun o p => conv_run x a ca S _ (ha.same (hS.same (two_below w o p)) (fun _ h => h))
  have HL2 : ∀ o p, (convert 23 9 (.slice a2 x.size cb)).run Tryz.prog ((w.alloc o).alloc p) = .ok (.string x) ((w.alloc o).alloc p) := fun o p => conv_run x a2 cb S _ (hb.same (hS.same (two_below w o p)) (fun _ h => h))
  clear ha hb
  have HB := two_below w
  have HB : Hid _ := HB
  go_enter Tryz.func16, Tryz.ntmps16
  go_wp2_with fail
  go_ret
  exact ⟨by simp, HB.out _ _⟩
set_option maxRecDepth 100000 in
set_option maxHeartbeats 1000000 in
theorem msame_7 : Calls Tryz.prog 16 #[.agg (tcells 7 b i f tx vb rf vl vf c vr), .agg (tcells 7 b2 i2 f2 tx2 vb2 rf vl2 vf2 c2 vr2)] w fun e w' => e = .returned (.bool true) ∧ Below w.heap.size w w' := by
  unfold tcells
  have HB := two_below w
  have HB : Hid _ := HB
  go_enter Tryz.func16, Tryz.ntmps16
  go_wp2_with fail
  go_ret
  exact ⟨by simp, HB.out _ _⟩
set_option maxRecDepth 100000 in
set_option maxHeartbeats 1000000 in
theorem msame_8 (h : ∀ W, Below w.heap.size w W → Calls Tryz.prog 36 #[vl, vl2] W fun e w' => e = .returned (.bool true) ∧ Below W.heap.size W w') : Calls Tryz.prog 16 #[.agg (tcells 8 b i f tx vb rf vl vf c vr), .agg (tcells 8 b2 i2 f2 tx2 vb2 rf2 vl2 vf2 c2 vr2)] w fun e w' => e = .returned (.bool true) ∧ Below w.heap.size w w' := by
  unfold tcells
  have HX : Hid _ := h
  clear h
  have HB := two_below w
  have HB : Hid _ := HB
  go_enter Tryz.func16, Tryz.ntmps16
  go_wp2_with (go_at_call 36; refine (HX.out _ (HB.out _ _)).mono ?_; rintro e w1 ⟨rfl, hb1⟩)
  go_ret
  exact ⟨rfl, below_to (HB.out _ _) hb1⟩
set_option maxRecDepth 100000 in
set_option maxHeartbeats 1000000 in
theorem msame_9 (h : ∀ W, Below w.heap.size w W → Calls Tryz.prog 37 #[vf, vf2] W fun e w' => e = .returned (.bool true) ∧ Below W.heap.size W w') : Calls Tryz.prog 16 #[.agg (tcells 9 b i f tx vb rf vl vf c vr), .agg (tcells 9 b2 i2 f2 tx2 vb2 rf2 vl2 vf2 c2 vr2)] w fun e w' => e = .returned (.bool true) ∧ Below w.heap.size w w' := by
  unfold tcells
  have HX : Hid _ := h
  clear h
  have HB := two_below w
  have HB : Hid _ := HB
  go_enter Tryz.func16, Tryz.ntmps16
  go_wp2_with (go_at_call 37; refine (HX.out _ (HB.out _ _)).mono ?_; rintro e w1 ⟨rfl, hb1⟩)
  go_ret
  exact ⟨rfl, below_to (HB.out _ _) hb1⟩
set_option maxRecDepth 100000 in
set_option maxHeartbeats 1000000 in
theorem msame_10 (h : ∀ W, Below w.heap.size w W → Calls Tryz.prog 37 #[vf, vf2] W fun e w' => e = .returned (.bool true) ∧ Below W.heap.size W w') : Calls Tryz.prog 16 #[.agg (tcells 10 b i f tx vb rf vl vf c vr), .agg (tcells 10 b2 i2 f2 tx2 vb2 rf2 vl2 vf2 c vr)] w fun e w' => e = .returned (.bool true) ∧ Below w.heap.size w w' := by
  unfold tcells
  have HX : Hid _ := h
  clear h
  have HB := two_below w
  have HB : Hid _ := HB
  go_enter Tryz.func16, Tryz.ntmps16
  go_wp2_with (go_at_call 37; refine (HX.out _ (HB.out _ _)).mono ?_; rintro e w1 ⟨rfl, hb1⟩)
  go_ret
  exact ⟨rfl, below_to (HB.out _ _) hb1⟩
end
end Go.Proofs.YtjlhmgopmdcopaaGreat

/- tenonmake.Same at two terms of one value. -/
namespace Go.Proofs.YtjlhmgopmdcopaaGreat
open Go.RowKit

set_option maxHeartbeats 1000000 in
theorem msame_any (N : Nat) : SmC N := by
  induction N with
  | zero => intro t u ht; cases t; simp [Tm.sz] at ht
  | succ N ih =>
    intro s t hN hE cs ct S w hs ht hS
    cases s with
    | mk k b i f tx by' rf l fs c v =>
      cases t with
      | mk k2 b2 i2 f2 tx2 by2 rf2 l2 fs2 c2 v2 =>
        have hlN : l.sz ≤ N ∧ fs.sz ≤ N := by simp [Tm.sz] at hN; omega
        simp only [Tm.eqv] at hE
        obtain ⟨rfl, hk, x2, x3, x4, x5, x6, x7, x8, x9, x10⟩ := hE
        simp only [Tm.In] at hs ht
        obtain ⟨ab, cb, al, cl, af, cf, rfl, bd, h1, h2, h3⟩ := hs
        obtain ⟨ab2, cb2, al2, cl2, af2, cf2, rfl, bd2, g1, g2, g3⟩ := ht
        have HF : ∀ (hk : k = 9 ∨ k = 10), ∀ W, Below w.heap.size w W → Calls Tryz.prog 37 #[.slice af fs.len cf, .slice af2 fs2.len cf2] W fun e w' => e = .returned (.bool true) ∧ Below W.heap.size W w' := fun hk W hW =>
          mentries_any N ih fs fs2 hlN.2 (x9 hk) af af2 cf cf2 S W (fs.In_same (hS.same hW) (fun _ h => h) af 0 h3) (fs2.In_same (hS.same hW) (fun _ h => h) af2 0 g3) (hS.later hW) bd.nf
        by_cases k1 : k = 1
        · subst k1; exact msame_1 _ _ _ _ _ _ _ _ _ _ _ _ _ _ _ _ _ _ _ _ w
        by_cases k2 : k = 2
        · subst k2; obtain rfl := x2 rfl; exact msame_2 _ _ _ _ _ _ _ _ _ _ _ _ _ _ _ _ _ _ _ w
        by_cases k3 : k = 3
        · subst k3; obtain rfl := x3 rfl; exact msame_3 _ _ _ _ _ _ _ _ _ _ _ _ _ _ _ _ _ _ _ w
        by_cases k4 : k = 4
        · subst k4; obtain rfl := x4 rfl; exact msame_4 _ _ _ _ _ _ _ _ _ _ _ _ _ _ _ _ _ _ _ w
        by_cases k5 : k = 5
        · subst k5; obtain rfl := x5 rfl; exact msame_5 _ _ _ _ _ _ _ _ _ _ _ _ _ _ _ _ _ _ _ w
        by_cases k6 : k = 6
        · subst k6; obtain rfl := x6 rfl; exact msame_6 _ _ _ _ _ _ _ _ _ _ _ _ _ _ _ _ _ _ w by' ab ab2 cb cb2 S h1 g1 hS
        by_cases k7 : k = 7
        · subst k7; obtain rfl := x7 rfl; exact msame_7 _ _ _ _ _ _ _ _ _ _ _ _ _ _ _ _ _ _ _ w
        by_cases k8 : k = 8
        · subst k8
          exact msame_8 _ _ _ _ _ _ _ _ _ _ _ _ _ _ _ _ _ _ _ _ w (fun W hW => lists_any N ih l l2 hlN.1 (x8 rfl) al al2 cl cl2 S W (l.In_same (hS.same hW) (fun _ h => h) al 0 h2) (l2.In_same (hS.same hW) (fun _ h => h) al2 0 g2) (hS.later hW) bd.nl)
        by_cases k9 : k = 9
        · subst k9; exact msame_9 _ _ _ _ _ _ _ _ _ _ _ _ _ _ _ _ _ _ _ _ w (HF (.inl rfl))
        have k10 : k = 10 := by omega
        subst k10
        obtain ⟨rfl, rfl⟩ := x10 rfl
        exact msame_10 _ _ _ _ _ _ _ _ _ _ _ _ _ _ _ _ _ _ w (HF (.inr rfl))
end Go.Proofs.YtjlhmgopmdcopaaGreat

