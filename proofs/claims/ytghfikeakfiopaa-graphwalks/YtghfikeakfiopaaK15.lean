/- tenonref14.find and place: where a node stands among rising ones. -/
import Derived.Test.YtghfikeakfiopaaK11
import Derived.OrdersHeld
import Derived.Deep.RegionHeld
namespace Go.Proofs.Ytghfikeakfiopaa
open Go.RowKit Go.ChangeMaps

def Sp.fnd (N : List Int) (x : Int) : Nat := (N.filter fun y => decide (y < x)).length
theorem fnd_le (N : List Int) (x : Int) : Sp.fnd N x ≤ N.length := List.length_filter_le _ _
theorem fnd_iff : ∀ {N : List Int}, N.Pairwise (· < ·) → ∀ {t : Nat} {y x : Int}, N[t]? = some y → (y < x ↔ t < Sp.fnd N x)
  | [], _, t, y, x, h => by simp at h
  | z :: N, hp, 0, y, x, h => by
    simp at h; subst h
    unfold Sp.fnd
    rw [List.pairwise_cons] at hp
    by_cases hz : z < x
    · simp [hz]
    · have hn : N.filter (fun y => decide (y < x)) = [] := by
        rw [List.filter_eq_nil_iff]
        intro a ha
        have := hp.1 a ha
        simp; omega
      simp [hz, hn]
  | z :: N, hp, t + 1, y, x, h => by
    rw [List.pairwise_cons] at hp
    have ih := fnd_iff hp.2 (x := x) (t := t) (y := y) (by simpa using h)
    have hy : y ∈ N := List.mem_of_getElem? (by simpa using h)
    have := hp.1 y hy
    unfold Sp.fnd at *
    by_cases hz : z < x
    · simp [hz]; exact ih
    · have hn : N.filter (fun y => decide (y < x)) = [] := by
        rw [List.filter_eq_nil_iff]
        intro a ha
        have := hp.1 a ha
        simp; omega
      simp [hz, hn]; omega
theorem fnd_at {N : List Int} (hp : N.Pairwise (· < ·)) {x : Int} {t : Nat} (h : N[t]? = some x) : Sp.fnd N x = t := by
  have h1 := fnd_iff hp (x := x) h
  have hl := (List.getElem?_eq_some_iff.1 h).1
  rcases Nat.lt_trichotomy (Sp.fnd N x) t with h2 | h2 | h2
  · exfalso
    have h3 := fnd_iff hp (x := x) (t := Sp.fnd N x) (y := N[Sp.fnd N x]) (List.getElem?_eq_getElem (by omega))
    have h4 := List.pairwise_iff_getElem.1 hp (Sp.fnd N x) t (by omega) hl h2
    rw [List.getElem?_eq_getElem hl] at h
    injection h with h
    rw [h] at h4
    have := h3.1 h4
    omega
  · exact h2
  · have := h1.2 h2; omega

set_option maxRecDepth 100000 in
set_option maxHeartbeats 4000000 in
theorem find_any (gs : Option Nat) (c : Nat) (N : List Int) (x : Int) (w : World) (h : Nds w gs c N) (hp : N.Pairwise (· < ·)) (hl : N.length ≤ 4096) :
    Calls Try.prog 29 #[.slice (adr gs) N.length c, .int .u64 x] w fun e w' => e = .returned (.int .i64 (Sp.fnd N x)) ∧ w' = w := by
  have hfl := fnd_le N x
  obtain ⟨k, hk⟩ : ∃ k, k = Sp.fnd N x := ⟨_, rfl⟩
  have HF : Hid (∀ t y, N[t]? = some y → (y < x ↔ t < k)) := fun t y hy => by rw [hk]; exact fnd_iff hp hy
  rw [← hk] at hfl ⊢
  clear hk
  have HH : Hid (Nds w gs c N) := h
  clear h
  go_enter Try.func29, Try.ntmps29
  go_wp2
  go_loopw [5, 6] (fun v5 v6 wr => ∃ (lo hi : Nat), v5 = .int .i64 lo ∧ v6 = .int .i64 hi ∧ lo ≤ k ∧ k ≤ hi ∧ hi ≤ N.length ∧ wr = w) (fun v5 v6 _ => (intOf v6).toNat - (intOf v5).toNat)
  case atStart => exact ⟨0, N.length, rfl, rfl, Nat.zero_le _, hfl, Nat.le_refl _, rfl⟩
  case round =>
    obtain ⟨lo, hi, rfl, rfl, h1, h2, h3, rfl⟩ := hrel
    by_cases hlt : lo < hi
    · obtain ⟨g, rfl⟩ : ∃ g, gs = some g := by
        cases gs with
        | some g => exact ⟨g, rfl⟩
        | none => have := HH.out.1 rfl; subst this; simp at h3; omega
      obtain ⟨m, hm⟩ : ∃ m : Nat, m = (lo + hi) / 2 := ⟨_, rfl⟩
      have hm1 : lo ≤ m ∧ m < hi := by omega
      have hmz : ((lo : Int) + (hi : Int)) / 2 = (m : Int) := by omega
      obtain ⟨y, hy⟩ : ∃ y, N[m]? = some y := ⟨_, List.getElem?_eq_getElem (by omega)⟩
      have hc : wr.cell? ⟨g, m, none⟩ = some (.int .u64 y) := (HH.out.2 g rfl).cell (by simp [rv, hy])
      have hiff := HF.out m y hy
      have HI : Hid (y < x ↔ m < k) := hiff
      clear hm hiff hy
      have ea : adr (some g) = some ⟨g, 0, none⟩ := rfl
      by_cases hyx : y < x
      · have hmk := HI.out.1 hyx
        go_wp2
        go_roundw
        case rel => exact ⟨m + 1, hi, by go_num, by trivial, by omega, by omega, by omega, by trivial⟩
        case measure => simp [intOf]; omega
      · have hmk : ¬ m < k := fun h => hyx (HI.out.2 h)
        go_wp2
        go_roundw
        case rel => exact ⟨lo, m, by trivial, by first | trivial | rw [hmz], by omega, by omega, by omega, by trivial⟩
        case measure => simp [intOf]; omega
    · obtain rfl : lo = k := by omega
      go_wp2
      go_ret
      exact ⟨rfl, rfl⟩

def RgN (w : World) (gb : Nat) (gs : Option Nat) (c : Nat) (N : List Int) : Prop := w.cell? ⟨gb, 0, none⟩ = some (.slice (adr gs) N.length c) ∧ Nds w gs c N
def Sp.plc (N : List Int) (x : Int) : Int := if x ∈ N then (N.idxOf x : Int) else -1
set_option maxRecDepth 100000 in
set_option maxHeartbeats 4000000 in
theorem place_any (gb : Nat) (gs : Option Nat) (c : Nat) (N : List Int) (x : Int) (w : World) (h : RgN w gb gs c N) (hp : N.Pairwise (· < ·)) (hl : N.length ≤ 4096) :
    Calls Try.prog 30 #[.pointer (some ⟨gb, 0, none⟩), .int .u64 x] w fun e w' => e = .returned (.int .i64 (Sp.plc N x)) ∧ w' = w := by
  have hnd : N.Nodup := hp.imp (by intro a b h e; omega)
  obtain ⟨hc0, hN⟩ := h
  have hf := find_any gs c N x w hN hp hl
  have hfl := fnd_le N x
  by_cases hx : x ∈ N
  · obtain ⟨t, ht⟩ := List.mem_iff_getElem?.1 hx
    have e1 := fnd_at hp ht
    have htl := (List.getElem?_eq_some_iff.1 ht).1
    have e2 : Sp.plc N x = (t : Int) := by
      unfold Sp.plc
      obtain ⟨_, rfl⟩ := List.getElem?_eq_some_iff.1 ht
      rw [if_pos hx, hnd.idxOf_getElem t htl]
    obtain ⟨g, rfl⟩ : ∃ g, gs = some g := by
      cases gs with
      | some g => exact ⟨g, rfl⟩
      | none => have := hN.1 rfl; subst this; simp at htl
    have hcx : w.cell? ⟨g, t, none⟩ = some (.int .u64 x) := (hN.2 g rfl).cell (by simp [rv, ht])
    have ea : adr (some g) = some ⟨g, 0, none⟩ := rfl
    rw [e1] at hf
    rw [e2]
    have hlz : (t : Int) < (N.length : Int) := by omega
    clear hN ht e1 e2 hfl hx
    go_enter Try.func30, Try.ntmps30
    go_wp2_with (go_at_call 29; refine hf.mono ?_; rintro e w1 ⟨rfl, rfl⟩)
    go_ret
    exact ⟨rfl, rfl⟩
  · have e2 : Sp.plc N x = -1 := by unfold Sp.plc; rw [if_neg hx]
    rw [e2]
    obtain ⟨k, hk⟩ : ∃ k, k = Sp.fnd N x := ⟨_, rfl⟩
    rw [← hk] at hf hfl
    clear hk e2
    by_cases hkl : k < N.length
    · obtain ⟨g, rfl⟩ : ∃ g, gs = some g := by
        cases gs with
        | some g => exact ⟨g, rfl⟩
        | none => have := hN.1 rfl; subst this; simp at hkl
      obtain ⟨y, hy⟩ : ∃ y, N[k]? = some y := ⟨_, List.getElem?_eq_getElem hkl⟩
      have hcx : w.cell? ⟨g, k, none⟩ = some (.int .u64 y) := (hN.2 g rfl).cell (by simp [rv, hy])
      have hne : ¬ y = x := fun e => hx (e ▸ List.mem_of_getElem? hy)
      have ea : adr (some g) = some ⟨g, 0, none⟩ := rfl
      have hlz : (k : Int) < (N.length : Int) := by omega
      clear hN hy hx
      go_enter Try.func30, Try.ntmps30
      go_wp2_with (go_at_call 29; refine hf.mono ?_; rintro e w1 ⟨rfl, rfl⟩)
      go_ret
      exact ⟨rfl, rfl⟩
    · have hlz : decide ((k : Int) < (N.length : Int)) = false := decide_eq_false (by omega)
      clear hN hx
      go_enter Try.func30, Try.ntmps30
      go_wp2_with (go_at_call 29; refine hf.mono ?_; rintro e w1 ⟨rfl, rfl⟩)
      go_ret
      exact ⟨rfl, rfl⟩
end Go.Proofs.Ytghfikeakfiopaa

/- Shorter words for walks through regions that draw their order. -/
namespace Go.Proofs.Ytghfikeakfiopaa

theorem lsA {α : Type} (a : List α) (i : Nat) (x : α) : a.toArray.setIfInBounds i x = (a.set i x).toArray := List.setIfInBounds_toArray a i x
theorem lsB {α : Type} (x y : α) (l : List α) : (x :: l).set 0 y = y :: l := List.set_cons_zero
theorem lsC {α : Type} (x y : α) (l : List α) (i : Nat) : (x :: l).set (i + 1) y = x :: l.set i y := List.set_cons_succ
theorem tkH {P : Program} {l : List Oper} {Q : Exit → Act → World → Prop} {md : Region.Mode} {S : World → Prop} {i : Nat} {oi : Oper} {v : Value} {fuel : Nat} {listed : Array Bool} {a : Act} {w : World} (hi : l[i]? = some oi)
    (hb : (Region.noSelect l.toArray && Region.free md l.toArray listed i && (Region.ready md l.toArray listed).contains i) = true) (hw : Region.wanted oi (yielded l.toArray a.tmps) = true) (hy : ∀ w, S w → (execOp a.eval oi).run P w = .ok (.value v) w) (hS : S w)
    (h : wpAnyH P md l.toArray Q S fuel (listed.setIfInBounds i true) (a.put oi.dst v) w) (hQ : ∀ c a w, Q (.panic c) (a.put oi.dst v) w → Q (.panic c) a w := by first | exact fun _ _ _ h => h | exact fun _ _ _ h => absurd h.1 (fun e => by cases e)) : wpAnyH P md l.toArray Q S (fuel + 1) listed a w := by
  simp only [Bool.and_eq_true] at hb
  exact wpAnyH_take (ops := l.toArray) (by simpa using hi) hb.1.1 hb.1.2 hb.2 hQ (Or.inl ⟨hw, hy⟩) hS h
theorem arC {P : Program} {l : List Oper} {Q : Exit → Act → World → Prop} {md : Region.Mode} {S : World → Prop} {fuel : Nat} {listed : Array Bool} {a : Act} {w : World} {i : Nat} {o : Oper} {rs : List Nat} (ho : l[i]? = some o)
    (h : ∀ K' : Act → World → Prop, Shut (∀ a w, S w → (S w → wpAnyH P md l.toArray Q S fuel (listed.setIfInBounds i true) a w) → K' a w) → if Region.wanted o (yielded l.toArray a.tmps) = true then Oper.wp P o a w K' Q else K' (a.put o.dst undef) w)
    (hs : AllReadyH P md l.toArray Q S fuel listed a w rs) : AllReadyH P md l.toArray Q S fuel listed a w (i :: rs) := AllReadyH.cons (ops := l.toArray) (by simpa using ho) h hs
end Go.Proofs.Ytghfikeakfiopaa

