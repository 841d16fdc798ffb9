/- slices.Compare of two rows of nodes. -/
import Derived.Test.YtikhpbidbcfedaaGreatKp28
import Derived.Shelf.SlGeneric
import Derived.Ground.SlsfProg
import Derived.Shelf.SlSortCmp.NoneTotal
import Derived.Test.YtikhpbidbcfedaaGreatProg
import Derived.Test.YtikhpbidbcfedaaGreatKp29
namespace Go.Proofs.YtikhpbidbcfedaaGreat
open Go.RowKit Go.ChangeMaps

def Sp.cmpl : List Int → List Int → Int
  | [], [] => 0
  | [], _ :: _ => -1
  | _ :: _, [] => 1
  | x :: l, y :: m => if x < y then -1 else if y < x then 1 else Sp.cmpl l m
def Sp.cmp1 (x y : Int) : Int := if x < y then -1 else if y < x then 1 else 0
set_option maxRecDepth 100000 in
set_option maxHeartbeats 2000000 in
theorem isNaN_any (x : Int) (W : World) : Calls Tryz.prog 83 #[.int .u64 x] W fun e w' => e = .returned (.bool false) ∧ w' = W := by
  have h : (x != x) = false := by simp
  go_enter Tryz.func83, Tryz.ntmps83
  go_wp2_with fail
  go_ret
  simp
set_option maxRecDepth 100000 in
set_option maxHeartbeats 2000000 in
theorem cmpRef_any (x y : Int) (W : World) : Calls Tryz.prog 61 #[.int .u64 x, .int .u64 y] W fun e w' => e = .returned (.int .i64 (Sp.cmp1 x y)) ∧ w' = W := by
  have HN : Hid (∀ z W, Calls Tryz.prog 83 #[.int .u64 z] W fun e w' => e = .returned (.bool false) ∧ w' = W) := fun z W => isNaN_any z W
  by_cases h1 : x < y
  · have E : Hid (Sp.cmp1 x y = -1) := by show _ = _; rw [Sp.cmp1, if_pos h1]
    go_enter Tryz.func61, Tryz.ntmps61
    go_wp2_with (go_at_call 83; refine (HN.out _ _).mono ?_; rintro e w' ⟨rfl, rfl⟩)
    go_ret
    rw [E.out]; exact ⟨rfl, rfl⟩
  · by_cases h2 : y < x
    · have E : Hid (Sp.cmp1 x y = 1) := by show _ = _; rw [Sp.cmp1, if_neg h1, if_pos h2]
      go_enter Tryz.func61, Tryz.ntmps61
      go_wp2_with (go_at_call 83; refine (HN.out _ _).mono ?_; rintro e w' ⟨rfl, rfl⟩)
      go_ret
      rw [E.out]; exact ⟨rfl, rfl⟩
    · have E : Hid (Sp.cmp1 x y = 0) := by show _ = _; rw [Sp.cmp1, if_neg h1, if_neg h2]
      go_enter Tryz.func61, Tryz.ntmps61
      go_wp2_with (go_at_call 83; refine (HN.out _ _).mono ?_; rintro e w' ⟨rfl, rfl⟩)
      go_ret
      rw [E.out]; exact ⟨rfl, rfl⟩
theorem NdR.at_ {w : World} {gs : Option Nat} {c : Nat} {l : List Int} (h : NdR w gs c l) {i : Nat} {x : Int} (hx : l[i]? = some x) : ∃ g, gs = some g ∧ w.cell? ⟨g, i, none⟩ = some (.int .u64 x) := by
  cases gs with
  | none => have := (h.1 rfl).1; subst this; simp at hx
  | some g => exact ⟨g, rfl, (h.2 g rfl).cell (by simp [rv, hx])⟩
theorem cmpl_step {l m : List Int} {k : Nat} {x y : Int} (hx : l[k]? = some x) (hy : m[k]? = some y) : Sp.cmpl (l.drop k) (m.drop k) = if x < y then -1 else if y < x then 1 else Sp.cmpl (l.drop (k + 1)) (m.drop (k + 1)) := by
  have e1 : l.drop k = x :: l.drop (k + 1) := by
    obtain ⟨h1, h2⟩ := List.getElem?_eq_some_iff.1 hx
    rw [← h2]; exact List.drop_eq_getElem_cons h1
  have e2 : m.drop k = y :: m.drop (k + 1) := by
    obtain ⟨h1, h2⟩ := List.getElem?_eq_some_iff.1 hy
    rw [← h2]; exact List.drop_eq_getElem_cons h1
  rw [e1, e2, Sp.cmpl]
theorem cmpl_over {l m : List Int} {k : Nat} (h1 : k < l.length) (h2 : m.length ≤ k) : Sp.cmpl (l.drop k) (m.drop k) = 1 := by
  rw [List.drop_eq_getElem_cons h1, List.drop_of_length_le h2, Sp.cmpl]
theorem cmpl_end {l m : List Int} {k : Nat} (h1 : l.length ≤ k) : Sp.cmpl (l.drop k) (m.drop k) = if k < m.length then -1 else 0 := by
  rw [List.drop_of_length_le h1]
  split
  · rename_i h; rw [List.drop_eq_getElem_cons h, Sp.cmpl]
  · rename_i h; rw [List.drop_of_length_le (by omega), Sp.cmpl]
set_option maxRecDepth 100000 in
set_option maxHeartbeats 4000000 in
theorem compare_any (g1 : Option Nat) (c1 : Nat) (l : List Int) (g2 : Option Nat) (c2 : Nat) (m : List Int) (W : World) (h1 : NdR W g1 c1 l) (h2 : NdR W g2 c2 m) (hll : l.length ≤ 4096) :
    Calls Tryz.prog 36 #[.slice (adr g1) l.length c1, .slice (adr g2) m.length c2] W fun e w' => e = .returned (.int .i64 (Sp.cmpl l m)) ∧ w' = W := by
  have H1 : Hid (NdR W g1 c1 l) := h1
  have H2 : Hid (NdR W g2 c2 m) := h2
  have HC : Hid (∀ x y, Calls Tryz.prog 61 #[.int .u64 x, .int .u64 y] W fun e w' => e = .returned (.int .i64 (Sp.cmp1 x y)) ∧ w' = W) := fun x y => cmpRef_any x y W
  have HS : Hid (Sp.cmpl (l.drop 0) (m.drop 0) = Sp.cmpl l m) := rfl
  clear h1 h2
  obtain ⟨R, hR⟩ : ∃ R, Sp.cmpl l m = R := ⟨_, rfl⟩
  rw [hR] at HS ⊢
  clear hR
  go_enter Tryz.func36, Tryz.ntmps36
  go_wp2_with fail
  go_loopw [11] (fun v11 wr => ∃ k : Nat, v11 = .int .i64 (k : Int) ∧ k ≤ l.length ∧ Hid (k ≤ m.length ∧ Sp.cmpl (l.drop k) (m.drop k) = R) ∧ wr = W) (fun v11 _ => l.length - (intOf v11).toNat)
  case atStart => exact ⟨0, rfl, Nat.zero_le _, ⟨Nat.zero_le _, HS.out⟩, rfl⟩
  case round =>
    obtain ⟨k, rfl, hk, HK, rfl⟩ := hrel
    by_cases hlt : k < l.length
    · have hltz : (k : Int) < (l.length : Int) := by omega
      obtain ⟨x, hx⟩ : ∃ x, l[k]? = some x := ⟨_, List.getElem?_eq_getElem hlt⟩
      obtain ⟨b1, rfl, hc1⟩ := H1.out.at_ hx
      have ha1 : adr (some b1) = some ⟨b1, 0, none⟩ := rfl
      by_cases hm : k < m.length
      · have hmz : ¬ ((k : Int) ≥ (m.length : Int)) := by omega
        have hmy : (k : Int) < (m.length : Int) := by omega
        obtain ⟨y, hy⟩ : ∃ y, m[k]? = some y := ⟨_, List.getElem?_eq_getElem hm⟩
        obtain ⟨b2, rfl, hc2⟩ := H2.out.at_ hy
        have ha2 : adr (some b2) = some ⟨b2, 0, none⟩ := rfl
        have hst := cmpl_step hx hy
        have HCC := HC.out x y
        obtain ⟨q, hq⟩ : ∃ q, Sp.cmp1 x y = q := ⟨_, rfl⟩
        rw [hq] at HCC
        have HCC : Hid (Calls Tryz.prog 61 #[.int .u64 x, .int .u64 y] wr fun e w' => e = .returned (.int .i64 q) ∧ w' = wr) := HCC
        by_cases hq0 : q = 0
        · have hqb : (q != 0) = false := by simp [hq0]
          have HK2 : Hid (k + 1 ≤ m.length ∧ Sp.cmpl (l.drop (k + 1)) (m.drop (k + 1)) = R) := by
            refine ⟨hm, ?_⟩
            rw [← HK.out.2, hst]
            unfold Sp.cmp1 at hq
            by_cases a1 : x < y
            · rw [if_pos a1] at hq; omega
            · by_cases a2 : y < x
              · rw [if_neg a1, if_pos a2] at hq; omega
              · rw [if_neg a1, if_neg a2]
          clear hst hq hq0 hx hy
          go_wp2_with (go_at_call 61; refine HCC.out.mono ?_; rintro e w' ⟨rfl, rfl⟩)
          (try rw [← ha1])
          (try rw [← ha2])
          go_roundw
          case rel => exact ⟨k + 1, by go_num, by omega, HK2.out, trivial⟩
          case measure => simp [intOf]; omega
        · have hqb : (q != 0) = true := by simp [hq0]
          have HQ : Hid (R = q) := by
            show _ = _
            rw [← HK.out.2, hst, ← hq]
            unfold Sp.cmp1 at hq ⊢
            by_cases a1 : x < y
            · rw [if_pos a1, if_pos a1]
            · by_cases a2 : y < x
              · rw [if_neg a1, if_pos a2, if_neg a1, if_pos a2]
              · rw [if_neg a1, if_neg a2] at hq; exact absurd hq.symm hq0
          clear hst hq hx hy
          go_wp2_with (go_at_call 61; refine HCC.out.mono ?_; rintro e w' ⟨rfl, rfl⟩)
          go_ret
          rw [HQ.out]; exact ⟨rfl, rfl⟩
      · have hmz : (k : Int) ≥ (m.length : Int) := by omega
        have HQ : Hid (R = 1) := by show _ = _; rw [← HK.out.2, cmpl_over hlt (by omega)]
        clear hx
        go_wp2_with fail
        go_ret
        rw [HQ.out]; exact ⟨rfl, rfl⟩
    · obtain rfl : l.length = k := by omega
      have hE := cmpl_end (l := l) (m := m) (k := l.length) (Nat.le_refl _)
      by_cases hm : l.length < m.length
      · have hmz : (l.length : Int) < (m.length : Int) := by omega
        have HQ : Hid (R = -1) := by show _ = _; rw [← HK.out.2, hE, if_pos hm]
        clear hE
        go_wp2_with fail
        go_ret
        rw [HQ.out]; exact ⟨rfl, rfl⟩
      · have hmz : ¬ (l.length : Int) < (m.length : Int) := by omega
        have HQ : Hid (R = 0) := by show _ = _; rw [← HK.out.2, hE, if_neg hm]
        clear hE
        go_wp2_with fail
        go_ret
        rw [HQ.out]; exact ⟨rfl, rfl⟩
end Go.Proofs.YtikhpbidbcfedaaGreat

/- slices.SortFunc at rows of nodes: how it is laid at this translation. -/
namespace Go.Proofs
open Go.Shelf
def Tryz.slf_ren : Go.Shelf.Ren := ⟨fun | 6 => 35 | 15 => 60 | 14 => 59 | 28 => 81 | 29 => 82 | 20 => 73 | 21 => 74 | 22 => 75 | 23 => 76 | 24 => 77 | 25 => 78 | 26 => 79 | 27 => 80 | 46 => 104 | 47 => 105 | 48 => 106 | 49 => 107 | 50 => 108 | 57 => 118 | n => n, fun | 22 => 40 | 24 => 22 | 25 => 74 | 3 => 3 | 39 => 100 | 0 => 0 | 53 => 115 | 55 => 24 | 4 => 4 | 46 => 109 | 45 => 108 | 50 => 78 | 5 => 5 | 9 => 9 | 66 => 131 | 70 => 135 | 76 => 145 | 77 => 146 | n => n, fun | n => n⟩
theorem Tryz.slf : Go.Proofs.SlLaysF.n6 Tryz.prog Tryz.slf_ren := {
  mixed := by kernel_rfl
  f6 := ⟨Tryz.f35.name, by decide, Tryz.func35.trans (congrArg some (by kernel_rfl))⟩
  f14 := ⟨Tryz.f59.name, by decide, Tryz.func59.trans (congrArg some (by kernel_rfl))⟩
  f15 := Tryz.func60.trans (congrArg some (by kernel_rfl))
  f20 := ⟨Tryz.f73.name, by decide, Tryz.func73.trans (congrArg some (by kernel_rfl))⟩
  f21 := ⟨Tryz.f74.name, by decide, Tryz.func74.trans (congrArg some (by kernel_rfl))⟩
  f22 := ⟨Tryz.f75.name, by decide, Tryz.func75.trans (congrArg some (by kernel_rfl))⟩
  f23 := ⟨Tryz.f76.name, by decide, Tryz.func76.trans (congrArg some (by kernel_rfl))⟩
  f24 := ⟨Tryz.f77.name, by decide, Tryz.func77.trans (congrArg some (by kernel_rfl))⟩
  f25 := ⟨Tryz.f78.name, by decide, Tryz.func78.trans (congrArg some (by kernel_rfl))⟩
  f26 := ⟨Tryz.f79.name, by decide, Tryz.func79.trans (congrArg some (by kernel_rfl))⟩
  f27 := ⟨Tryz.f80.name, by decide, Tryz.func80.trans (congrArg some (by kernel_rfl))⟩
  f28 := Tryz.func81.trans (congrArg some (by kernel_rfl))
  f29 := Tryz.func82.trans (congrArg some (by kernel_rfl))
  f46 := ⟨Tryz.f104.name, by decide, Tryz.func104.trans (congrArg some (by kernel_rfl))⟩
  f47 := Tryz.func105.trans (congrArg some (by kernel_rfl))
  f48 := Tryz.func106.trans (congrArg some (by kernel_rfl))
  f49 := ⟨Tryz.f107.name, by decide, Tryz.func107.trans (congrArg some (by kernel_rfl))⟩
  f50 := ⟨Tryz.f108.name, by decide, Tryz.func108.trans (congrArg some (by kernel_rfl))⟩
  f57 := ⟨Tryz.f118.name, by decide, Tryz.func118.trans (congrArg some (by kernel_rfl))⟩
  t0 := Tryz.underlying0
  a0 := Tryz.isAgg0
  z0 := Tryz.sizeOf0
  v0 := Tryz.zeroValue0
  t3 := Tryz.underlying3
  a3 := Tryz.isAgg3
  z3 := Tryz.sizeOf3
  v3 := Tryz.zeroValue3
  t4 := Tryz.underlying4
  a4 := Tryz.isAgg4
  z4 := Tryz.sizeOf4
  v4 := Tryz.zeroValue4
  t5 := Tryz.underlying5
  a5 := Tryz.isAgg5
  z5 := Tryz.sizeOf5
  v5 := Tryz.zeroValue5
  t9 := Tryz.underlying9
  a9 := Tryz.isAgg9
  z9 := Tryz.sizeOf9
  v9 := Tryz.zeroValue9
  t22 := Tryz.underlying40
  a22 := Tryz.isAgg40
  z22 := Tryz.sizeOf40
  v22 := Tryz.zeroValue40
  a24 := Tryz.isAgg22
  z24 := Tryz.sizeOf22
  t25 := Tryz.underlying74
  a25 := Tryz.isAgg74
  z25 := Tryz.sizeOf74
  v25 := Tryz.zeroValue74
  t39 := Tryz.underlying100
  a39 := Tryz.isAgg100
  z39 := Tryz.sizeOf100
  v39 := Tryz.zeroValue100
  t45 := Tryz.underlying108
  a45 := Tryz.isAgg108
  z45 := Tryz.sizeOf108
  v45 := Tryz.zeroValue108
  t46 := Tryz.underlying109
  a46 := Tryz.isAgg109
  z46 := Tryz.sizeOf109
  v46 := Tryz.zeroValue109
  t50 := Tryz.underlying78
  a50 := Tryz.isAgg78
  z50 := Tryz.sizeOf78
  v50 := Tryz.zeroValue78
  t53 := Tryz.underlying115
  a53 := Tryz.isAgg115
  z53 := Tryz.sizeOf115
  v53 := Tryz.zeroValue115
  t55 := Tryz.underlying24
  a55 := Tryz.isAgg24
  z55 := Tryz.sizeOf24
  v55 := Tryz.zeroValue24
  t66 := Tryz.underlying131
  a66 := Tryz.isAgg131
  z66 := Tryz.sizeOf131
  v66 := Tryz.zeroValue131
  t70 := Tryz.underlying135
  a70 := Tryz.isAgg135
  z70 := Tryz.sizeOf135
  v70 := Tryz.zeroValue135
  t76 := Tryz.underlying145
  a76 := Tryz.isAgg145
  z76 := Tryz.sizeOf145
  v76 := Tryz.zeroValue145
  t77 := Tryz.underlying146
  a77 := Tryz.isAgg146
  z77 := Tryz.sizeOf146
  v77 := Tryz.zeroValue146 }
end Go.Proofs

/- graph.Parts: the parts, sorted: how many there are. -/
namespace Go.Proofs.YtikhpbidbcfedaaGreat
open Go.RowKit Go.ChangeMaps

theorem cmpl_lt : ∀ (a b : List Int), Sp.cmpl a b < 0 ↔ a < b
  | [], [] => by simp [Sp.cmpl]
  | [], y :: m => by simp [Sp.cmpl]
  | x :: l, [] => by simp [Sp.cmpl]
  | x :: l, y :: m => by
    rw [Sp.cmpl, List.cons_lt_cons_iff]
    by_cases h1 : x < y
    · simp [h1]
    · by_cases h2 : y < x
      · have h3 : x ≠ y := by omega
        simp [h1, h2, h3]
      · have h3 : x = y := by omega
        simp [h3, cmpl_lt l m]
abbrev HdS (w : World) : Type := { q : Hd // NdR w q.1 q.2.1 q.2.2 ∧ q.2.2.length ≤ 4096 }
instance (w : World) : Inhabited (HdS w) := ⟨⟨(none, 0, []), ⟨fun _ => ⟨rfl, rfl⟩, fun g hg => by cases hg⟩, by simp⟩⟩
def hdE {w : World} (q : HdS w) : Value := .slice (adr q.1.1) q.1.2.2.length q.1.2.1
def hdC {w : World} (x y : HdS w) : Int := Sp.cmpl x.1.2.2 y.1.2.2
theorem hd_swo (w : World) : Sort.SWO (ltOf (hdC (w := w))) where
  irrefl x := by
    unfold ltOf hdC
    rw [decide_eq_false_iff_not, cmpl_lt]; exact List.lt_irrefl _
  trans x y z h1 h2 := by
    unfold ltOf hdC at *
    rw [decide_eq_true_iff, cmpl_lt] at *
    exact List.lt_trans h1 h2
  ntrans x y z h1 h2 := by
    unfold ltOf hdC at *
    rw [decide_eq_false_iff_not, cmpl_lt] at *
    rw [List.not_lt] at *
    exact List.le_trans h2 h1
theorem sortW_heap {α : Type} [Inhabited α] (enc : α → Value) (w : World) (g q : Nat) (d : Array α) (os : Array Obj) : (∀ k, k < w.heap.size → k ≠ g → (sortWorld enc w g 0 q d os).heap[k]? = w.heap[k]?) ∧ w.heap.size ≤ (sortWorld enc w g 0 q d os).heap.size := by
  have e0 : ∀ k, k < w.heap.size → (Sort.grow (Sort.putRow enc (Sort.ahead w q) g 0 d) os).heap[k]? = (w.heap.modify g (Sort.onCells (Sort.putCells enc 0 d)))[k]? := fun k hk => by
    show ((w.heap.modify g _) ++ os)[k]? = _
    rw [Array.getElem?_append_left (by simpa using hk)]
  refine ⟨fun k h1 h2 => ?_, ?_⟩
  · show (Sort.grow _ os).heap[k]? = _
    rw [e0 k h1, Array.getElem?_modify, if_neg (fun e => h2 e.symm)]
  · show w.heap.size ≤ ((w.heap.modify g _) ++ os).size
    simp
theorem hd_reads (w : World) (g c n : Nat) (xs : List Value) (ho : OwnR w 22 g n c xs) (sz : Nat) : CmpLays1 Tryz.prog 36 #[] (hdE (w := w)) hdC g 0 sz w := by
  refine CmpReads.lays fun m os dk _ x y => ?_
  have hk := (sortW_heap (hdE (w := w)) w g m dk os).1
  have keep : ∀ q : HdS w, NdR (sortWorld (hdE (w := w)) w g 0 m dk os) q.1.1 q.1.2.1 q.1.2.2 := fun q => q.2.1.keep fun b hb => hk b (q.2.1.2 b hb).lt fun e => by
    subst e
    obtain ⟨c1, h1, _⟩ := ho.blk
    obtain ⟨c2, h2, _⟩ := (q.2.1.2 b hb).blk
    rw [h1] at h2; injection h2 with h2; injection h2 with _ h2
    exact absurd h2 (by decide)
  have h := compare_any x.1.1 x.1.2.1 x.1.2.2 y.1.1 y.1.2.1 y.1.2.2 _ (keep x) (keep y) x.2.2
  refine (show Calls Tryz.prog 36 (#[hdE x, hdE y] ++ #[]) _ _ from h).mono ?_
  rintro e w' ⟨rfl, rfl⟩
  exact ⟨rfl, 0, rfl⟩
set_option maxRecDepth 100000 in
theorem sortP_any (gs : Option Nat) (c : Nat) (T : List Hd) (w : World) (h : PtR w gs c T) (hl : ∀ q ∈ T, q.2.2.length ≤ 4096) (hT : T.length ≤ 8192) :
    Calls Tryz.prog 35 #[.slice (adr gs) T.length c, .func (.func 36) #[] #[]] w fun e w' => e = .returned (.tuple #[]) ∧ (∀ k, k < w.heap.size → gs ≠ some k → w'.heap[k]? = w.heap[k]?) ∧ w.heap.size ≤ w'.heap.size ∧ w'.os = w.os ∧ w'.tape = w.tape ∧ w'.output = w.output := by
  cases gs with
  | none =>
    obtain ⟨rfl, rfl⟩ := h.nil rfl
    have := AnyF.slices_SortFunc_none (P := Tryz.prog) (ρ := Tryz.slf_ren) { Tryz.slf with } none 0 (.func (.func 36) #[] #[]) w
    refine (show Calls Tryz.prog 35 _ _ _ from this).mono ?_
    rintro e w' ⟨rfl, rfl⟩
    exact ⟨rfl, fun _ _ _ => rfl, Nat.le_refl _, rfl, rfl, rfl⟩
  | some g =>
    have ho := h.own g rfl
    obtain ⟨d, hd⟩ : ∃ d : List (HdS w), d = T.attach.map fun q => ⟨q.1, h.rows q.1 q.2, hl q.1 q.2⟩ := ⟨_, rfl⟩
    have hdl : d.length = T.length := by rw [hd]; simp
    have hdm : d.map (hdE (w := w)) = pv T := by
      rw [hd, List.map_map]
      unfold pv
      conv => rhs; rw [← List.attach_map_subtype_val T]
      rw [List.map_map]
      rfl
    have hH : Sort.Holds (hdE (w := w)) w g 0 d.toArray := fun j hj => by
      have hj' : j < d.length := by simpa using hj
      refine ⟨?_, ho.free _⟩
      rw [Nat.zero_add, ho.cell (t := j) (x := hdE d[j]) (by rw [← hdm]; simp [hj'])]
      simp [hj']
    have eg : ∀ args w, (callFunc 36 args).run Tryz.prog w = .ok (.enter 36 args) w := enters_of Tryz.func36 (by kernel_rfl) rfl
    have hs := Any.slices_SortFunc Tryz.slf (hdE (w := w)) (fun _ => rfl) hdC (hd_swo w) 36 #[] g 0 c d.toArray w eg (hd_reads w g c T.length (pv T) ho _) hH ho.lt (by simp; omega)
    have e1 : d.toArray.size = T.length := by simpa using hdl
    rw [e1] at hs
    refine (show Calls Tryz.prog 35 _ _ _ from hs).mono ?_
    rintro e w' ⟨rfl, d', n, os, _, _, rfl⟩
    have hk := sortW_heap (hdE (w := w)) w g n d' os
    exact ⟨rfl, fun k h1 h2 => hk.1 k h1 (fun e => h2 (by rw [e])), hk.2, rfl, rfl, rfl⟩
def Sp.npt (nx : Nat → List Nat) (L : Nat) : Nat := (Sp.pts (Sp.bkn nx L) L (Sp.lfo nx L).reverse).2.length
set_option maxRecDepth 100000 in
set_option maxHeartbeats 4000000 in
theorem Parts_any (gb : Nat) (N : List Int) (nx : Nat → List Nat) (w : World) (hg : GRP w gb N nx) (hb : ∀ i, ∀ x ∈ nx i, x < N.length) (hn : N.length ≤ 4096) (hnl : ∀ p, (nx p).length ≤ 4096) (hlt : ∀ i, (nx i).Pairwise (· < ·)) :
    Calls Tryz.prog 15 #[.pointer (some ⟨gb, 0, none⟩)] w fun e w' => ∃ a c, e = .returned (.slice a (Sp.npt nx N.length) c) ∧ Below w.heap.size w w' := by
  have HP := parts_any gb N nx w hg hb hn hnl hlt
  have HL : Hid ((Sp.pts (Sp.bkn nx N.length) N.length (Sp.lfo nx N.length).reverse).2.length ≤ 8192 ∧ ∀ p : List Nat, (Sp.rfs N (Sp.upn N.length p)).length ≤ 4096) := by
    have h0 := lfo_ok (nx := nx) hb
    have h1 := (pts_ok (bk := Sp.bkn nx N.length) (L := N.length) (fun i y hy => (bkn_mem.1 hy).1) _ (Sp.lfo nx N.length).reverse rfl (fun y hy => h0.2 y (by simpa using hy))).2.1
    have h2 := nd_len h0.1 h0.2
    rw [List.length_reverse] at h1
    refine ⟨by omega, fun p => ?_⟩
    have h3 : (Sp.upn N.length p).length ≤ N.length := by
      have := List.length_filter_le (fun x => decide (x ∈ p)) (List.range N.length)
      simpa [Sp.upn] using this
    simp [Sp.rfs]; omega
  have HP : Hid (Calls Tryz.prog 34 #[.pointer (some ⟨gb, 0, none⟩)] w (PtE w ((Sp.pts (Sp.bkn nx N.length) N.length (Sp.lfo nx N.length).reverse).2.map fun p => Sp.rfs N (Sp.upn N.length p)))) := HP
  clear hg hb hnl hlt
  go_enter Tryz.func15, Tryz.ntmps15
  go_wp2_with fail
  refine HP.out.mono ?_
  rintro e w1 ⟨T, gs, c, rfl, hT, hR, hlo, hbe⟩
  have hTl : T.length = Sp.npt nx N.length := by have := congrArg List.length hT; rwa [List.length_map, List.length_map] at this
  have HS : Hid (Calls Tryz.prog 35 #[.slice (adr gs) T.length c, .func (.func 36) #[] #[]] w1 fun e w' => e = .returned (.tuple #[]) ∧ (∀ k, k < w1.heap.size → gs ≠ some k → w'.heap[k]? = w1.heap[k]?) ∧ w1.heap.size ≤ w'.heap.size ∧ w'.os = w1.os ∧ w'.tape = w1.tape ∧ w'.output = w1.output) := by
    refine sortP_any gs c T w1 hR (fun q hq => ?_) (by rw [hTl]; exact HL.out.1)
    have hm : q.2.2 ∈ T.map (fun q : Hd => q.2.2) := List.mem_map_of_mem hq
    rw [hT] at hm
    obtain ⟨p, _, e⟩ := List.mem_map.1 hm
    rw [← e]; exact HL.out.2 p
  have HE : Hid (T.length = Sp.npt nx N.length ∧ (∀ g, gs = some g → w.heap.size ≤ g) ∧ Below w.heap.size w w1) := ⟨hTl, hlo, hbe⟩
  clear hT hR hlo hbe hTl HP
  go_wp2_with fail
  refine HS.out.mono ?_
  rintro e w2 ⟨rfl, q1, q2, q3, q4, q5⟩
  have HF : Hid (Below w.heap.size w w2) := by
    have h := HE.out.2.2
    exact ⟨q3.trans h.os, q4.trans h.tape, q5.trans h.output, Nat.le_trans h.size q2, fun k hk => (q1 k (Nat.lt_of_lt_of_le hk h.size) (fun e => by have := HE.out.2.1 k e; omega)).trans (h.block k hk)⟩
  clear q1 q2 q3 q4 q5
  go_wp2_with fail
  go_ret
  exact ⟨adr gs, c, by rw [← HE.out.1]; rfl, HF.out⟩
end Go.Proofs.YtikhpbidbcfedaaGreat

