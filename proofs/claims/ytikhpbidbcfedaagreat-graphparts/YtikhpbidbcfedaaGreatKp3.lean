/- Plain mathematics of graphs: nodes in order, who leads where, walks with visitors. -/
import Derived.Sort.LotA
import Derived.Laws.Runes
import Derived.Test.YtikhpbidbcfedaaGreatKp1
import Derived.Deep.LoopGhost
namespace Go.Proofs.YtikhpbidbcfedaaGreat

def Sp.srt (l : List Int) : List Int := l.mergeSort fun x y => decide (x ≤ y)
theorem srt_perm (l : List Int) : (Sp.srt l).Perm l := List.mergeSort_perm _ _
theorem srt_len (l : List Int) : (Sp.srt l).length = l.length := (srt_perm l).length_eq
theorem srt_mem {l : List Int} {x : Int} : x ∈ Sp.srt l ↔ x ∈ l := (srt_perm l).mem_iff
theorem srt_le (l : List Int) : (Sp.srt l).Pairwise (· ≤ ·) := by
  have h := List.pairwise_mergeSort (le := fun x y : Int => decide (x ≤ y)) (by intro a b c h1 h2; simp at *; omega) (by intro a b; simp; omega) l
  exact h.imp (by intro a b h; simpa using h)
theorem srt_lt {l : List Int} (hn : l.Nodup) : (Sp.srt l).Pairwise (· < ·) := by
  have h1 := srt_le l
  have h2 : (Sp.srt l).Nodup := (srt_perm l).nodup_iff.2 hn
  exact (h1.and h2).imp (by intro a b ⟨h, k⟩; omega)

theorem ext_ltI : ∀ {l m : List Int}, l.Pairwise (· < ·) → m.Pairwise (· < ·) → (∀ x, x ∈ l ↔ x ∈ m) → l = m
  | [], [], _, _, _ => rfl
  | [], y :: m, _, _, h => absurd ((h y).2 (by simp)) (by simp)
  | x :: l, [], _, _, h => absurd ((h x).1 (by simp)) (by simp)
  | x :: l, y :: m, hl, hm, h => by
    rw [List.pairwise_cons] at hl hm
    have e : x = y := by
      rcases List.mem_cons.1 ((h x).1 (by simp)) with h1 | h1
      · exact h1
      · rcases List.mem_cons.1 ((h y).2 (by simp)) with h2 | h2
        · exact h2.symm
        · have := hl.1 y h2; have := hm.1 x h1; omega
    subst e
    rw [ext_ltI hl.2 hm.2 fun z => ⟨fun hz => ?_, fun hz => ?_⟩]
    · rcases List.mem_cons.1 ((h z).1 (List.mem_cons_of_mem _ hz)) with h1 | h1
      · have := hl.1 z hz; omega
      · exact h1
    · rcases List.mem_cons.1 ((h z).2 (List.mem_cons_of_mem _ hz)) with h1 | h1
      · have := hm.1 z hz; omega
      · exact h1
theorem ext_ltN {l m : List Nat} (hl : l.Pairwise (· < ·)) (hm : m.Pairwise (· < ·)) (h : ∀ x, x ∈ l ↔ x ∈ m) : l = m := by
  have hinj : ∀ {a b : List Nat}, a.map (fun n : Nat => (n : Int)) = b.map (fun n : Nat => (n : Int)) → a = b := fun {a b} e => by
    have := congrArg (List.map Int.toNat) e
    simpa [List.map_map, Function.comp_def] using this
  apply hinj
  refine ext_ltI ?_ ?_ fun x => ?_
  · rw [List.pairwise_map]; exact hl.imp (by intro a b h; omega)
  · rw [List.pairwise_map]; exact hm.imp (by intro a b h; omega)
  · simp only [List.mem_map]
    exact ⟨fun ⟨n, h1, h2⟩ => ⟨n, (h n).1 h1, h2⟩, fun ⟨n, h1, h2⟩ => ⟨n, (h n).2 h1, h2⟩⟩

def Sp.nx (N : List Int) (E : List (Int × Int)) (i : Nat) : List Nat := (List.range N.length).filter fun j => decide ((N.getD i 0, N.getD j 0) ∈ E)
theorem nx_lt (N : List Int) (E : List (Int × Int)) (i : Nat) : (Sp.nx N E i).Pairwise (· < ·) := List.Pairwise.filter _ List.pairwise_lt_range
theorem nx_mem {N : List Int} {E : List (Int × Int)} {i j : Nat} : j ∈ Sp.nx N E i ↔ j < N.length ∧ (N.getD i 0, N.getD j 0) ∈ E := by simp [Sp.nx]

def Sp.mkE (nodes : List Int) (E : List (Int × Int)) : Int :=
  if 4096 < nodes.length ∨ 16384 < E.length then 2 else if (0 : Int) ∈ nodes ∨ ¬ nodes.Nodup then 1 else if ∃ e ∈ E, e.1 ∉ nodes ∨ e.2 ∉ nodes then 140 else 0
def Sp.pls (N : List Int) : List Int → Option (List Nat)
  | [] => some []
  | x :: l => if x ∈ N then (Sp.pls N l).map (N.idxOf x :: ·) else none

/-! ### walks -/
structure Vr (σ : Type) where
  enter : σ → Nat → Option Bool × σ
  leave : σ → Nat → Option Bool × σ
section
variable {σ : Type} (V : Vr σ) (nx : Nat → List Nat)
abbrev Wst (σ : Type) := List Bool × σ
def wLeave (n : Nat) (st : Wst σ) : Option Bool × Wst σ := ((V.leave st.2 n).1, (st.1, (V.leave st.2 n).2))
def wAll (one : Nat → Wst σ → Option Bool × Wst σ) : List Nat → Wst σ → Option Bool × Wst σ
  | [], st => (some true, st)
  | n :: l, st => if st.1.getD n false = true then wAll one l st else if (one n st).1 = some true then wAll one l (one n st).2 else one n st
def wOne : Nat → Nat → Wst σ → Option Bool × Wst σ
  | 0, _, st => (none, st)
  | f + 1, n, st =>
    if (V.enter st.2 n).1 = some true then
      (if (wAll (wOne f) (nx n) (st.1.set n true, (V.enter st.2 n).2)).1 = some true then wLeave V n (wAll (wOne f) (nx n) (st.1.set n true, (V.enter st.2 n).2)).2
       else wAll (wOne f) (nx n) (st.1.set n true, (V.enter st.2 n).2))
    else if (V.enter st.2 n).1 = some false then wLeave V n (st.1.set n true, (V.enter st.2 n).2)
    else (none, (st.1.set n true, (V.enter st.2 n).2))

def Mor (E E' : List Bool) : Prop := E'.length = E.length ∧ ∀ i, E.getD i false = true → E'.getD i false = true
theorem Mor.refl (E : List Bool) : Mor E E := ⟨rfl, fun _ h => h⟩
theorem Mor.trans {a b c : List Bool} (h : Mor a b) (k : Mor b c) : Mor a c := ⟨k.1.trans h.1, fun i hi => k.2 i (h.2 i hi)⟩
theorem Mor.set (E : List Bool) (n : Nat) : Mor E (E.set n true) := by
  refine ⟨by simp, fun i hi => ?_⟩
  simp only [List.getD_eq_getElem?_getD, List.getElem?_set] at hi ⊢
  split
  · split <;> simp_all
  · exact hi
theorem wAll_mor {one : Nat → Wst σ → Option Bool × Wst σ} (h : ∀ n st, Mor st.1 (one n st).2.1) : ∀ l st, Mor st.1 (wAll one l st).2.1
  | [], st => Mor.refl _
  | n :: l, st => by
    rw [wAll]
    split
    · exact wAll_mor h l st
    · split
      · exact (h n st).trans (wAll_mor h l _)
      · exact h n st
theorem wOne_mor : ∀ f n (st : Wst σ), Mor st.1 (wOne V nx f n st).2.1
  | 0, _, st => Mor.refl _
  | f + 1, n, st => by
    rw [wOne]
    have h1 := Mor.set st.1 n
    have h2 := wAll_mor (fun n st => wOne_mor f n st) (nx n) (st.1.set n true, (V.enter st.2 n).2)
    split
    · split
      · exact h1.trans h2
      · exact h1.trans h2
    · split
      · exact h1
      · exact h1
def Sp.cf (E : List Bool) : Nat := E.count false
theorem Mor.cf : ∀ {E E' : List Bool}, Mor E E' → Sp.cf E' ≤ Sp.cf E
  | [], [], _ => Nat.le_refl _
  | [], b :: E', h => absurd h.1 (by simp)
  | a :: E, [], h => absurd h.1 (by simp)
  | a :: E, b :: E', h => by
    have ih : Sp.cf E' ≤ Sp.cf E := Mor.cf ⟨by simpa using h.1, fun i hi => by simpa using h.2 (i + 1) (by simpa using hi)⟩
    have h0 := h.2 0
    unfold Sp.cf at *
    cases a <;> cases b <;> simp_all
    omega
theorem cf_set : ∀ {E : List Bool} {n : Nat}, E[n]? = some false → Sp.cf (E.set n true) + 1 = Sp.cf E
  | [], n, h => by simp at h
  | b :: E, 0, h => by simp at h; subst h; simp [Sp.cf]
  | b :: E, n + 1, h => by
    have ih := cf_set (E := E) (n := n) (by simpa using h)
    unfold Sp.cf at *
    cases b <;> simp at * <;> omega
end

/-! ### the visitor of the statements -/
structure VS where
  calls : List (Int × Bool)
  en : Nat
  le : Nat
def Sp.opt (l : List Bool) (k : Nat) : Option Bool := if IntKind.i64.wrap ((k + 1 : Nat) : Int) ≤ 0 then none else some (l.getD ((IntKind.i64.wrap ((k + 1 : Nat) : Int)).toNat - 1) true)
def Sp.vis (N : List Int) (En Le : List Bool) (P : Int) : Vr VS where
  enter s n := if IntKind.i64.wrap ((s.calls.length + 1 : Nat) : Int) = P then (none, ⟨s.calls ++ [(N.getD n 0, false)], s.en, s.le⟩) else (Sp.opt En s.en, ⟨s.calls ++ [(N.getD n 0, false)], s.en + 1, s.le⟩)
  leave s n := if IntKind.i64.wrap ((s.calls.length + 1 : Nat) : Int) = P then (none, ⟨s.calls ++ [(N.getD n 0, true)], s.en, s.le⟩) else (Sp.opt Le s.le, ⟨s.calls ++ [(N.getD n 0, true)], s.en, s.le + 1⟩)
def wVis {σ : Type} (one : Nat → Wst σ → Option Bool × Wst σ) (n : Nat) (st : Wst σ) : Option Bool × Wst σ := if st.1.getD n false = true then (some true, st) else one n st
end Go.Proofs.YtikhpbidbcfedaaGreat

/- cmp.Less at references. -/
namespace Go.Proofs.YtikhpbidbcfedaaGreat
open Go.RowKit

set_option maxHeartbeats 1000000 in
theorem nan_ref (x : Int) (w : World) : Calls Tryz.prog 83 #[.int .u64 x] w fun e w' => e = .returned (.bool false) ∧ w' = w := by
  go_enter Tryz.func83, Tryz.ntmps83
  go_wp2
  go_ret
  exact ⟨by simp, rfl⟩
set_option maxHeartbeats 1000000 in
theorem less_ref (x y : Int) (w : World) : Calls Tryz.prog 91 #[.int .u64 x, .int .u64 y] w fun e w' => e = .returned (.bool (Sort.ltInt x y)) ∧ w' = w := by
  go_enter Tryz.func91, Tryz.ntmps91
  go_wp2_with (go_at_call 83; refine (nan_ref _ _).mono ?_; rintro e w' ⟨rfl, rfl⟩)
  go_ret
  exact ⟨rfl, rfl⟩
end Go.Proofs.YtikhpbidbcfedaaGreat

/- slices.siftDownOrdered at references. -/
namespace Go.Proofs.YtikhpbidbcfedaaGreat
open Go.RowKit

section
variable {α : Type} [Inhabited α] (lt : α → α → Bool)
theorem rs_sift_end {hi F root : Nat} (d : Array α) (h : hi ≤ 2 * root + 1) : Sort.siftDown lt hi F root d = d := by rw [Sort.siftDown, dif_pos h]
theorem rs_sift {hi F root c : Nat} (d : Array α) (h0 : 2 * root + 1 < hi) (hc : (c = 2 * root + 2 ∧ 2 * root + 2 < hi ∧ lt d[F + (2 * root + 1)]! d[F + (2 * root + 2)]! = true) ∨ (c = 2 * root + 1 ∧ (2 * root + 2 < hi → lt d[F + (2 * root + 1)]! d[F + (2 * root + 2)]! = false))) :
    Sort.siftDown lt hi F root d = if lt d[F + root]! d[F + c]! = true then Sort.siftDown lt hi F c (Sort.swp d (F + root) (F + c)) else d := by
  rw [Sort.siftDown, dif_neg (by omega), show F + (2 * root + 1) + 1 = F + (2 * root + 2) by omega]
  rcases hc with ⟨rfl, h1, h2⟩ | ⟨rfl, h1⟩
  · rw [h2]
    cases h3 : lt d[F + root]! d[F + (2 * root + 2)]! <;> simp [show 2 * root + 1 + 1 < hi by omega]
  · by_cases h : 2 * root + 2 < hi
    · rw [h1 h]
      cases h3 : lt d[F + root]! d[F + (2 * root + 1)]! <;> simp
    · cases h3 : lt d[F + root]! d[F + (2 * root + 1)]! <;> simp [show ¬ 2 * root + 1 + 1 < hi by omega]
end

set_option maxRecDepth 1000000 in
set_option maxHeartbeats 4000000 in
theorem sift_ref (blk off len cap : Nat) (d : Array Int) (lo hi first : Nat) (w : World) (hH : Sort.Holds (Value.int .u64) w blk off d) (hblk : blk < w.heap.size) (hlen : d.size = len) (hlo : lo ≤ hi) (hb : first + hi ≤ d.size) (hsz : d.size < 4611686018427387904) :
    Calls Tryz.prog 111 #[.slice (some ⟨blk, off, none⟩) len cap, .int .i64 lo, .int .i64 hi, .int .i64 first] w fun e w' =>
      e = .returned (.tuple #[]) ∧ SR w blk off d (Sort.siftDown Sort.ltInt hi first lo d) w' := by
  subst hlen
  have HS : Hid (SR w blk off d d w) := SR.refl hH hblk
  clear hH hblk
  go_enter Tryz.func111, Tryz.ntmps111
  go_wp2
  go_loopg [8] (hi - lo) (fun k s8 wr => ∃ (root : Nat) (dk : Array Int), s8 = .int .i64 root ∧ root ≤ hi ∧ hi - root ≤ k ∧ dk.size = d.size ∧ Hid (SR w blk off d dk wr ∧ Sort.siftDown Sort.ltInt hi first root dk = Sort.siftDown Sort.ltInt hi first lo d))
  case atStart => exact ⟨lo, d, rfl, hlo, Nat.le_refl _, rfl, HS.out, rfl⟩
  case round =>
    obtain ⟨root, dk, rfl, hr, hk, hds, HK⟩ := hrel
    obtain ⟨G, hG⟩ : ∃ G : Nat → Int, ∀ t, G t = dk[t]! := ⟨fun t => dk[t]!, fun _ => rfl⟩
    have hcw : ∀ t, t < d.size → wr.cell? ⟨blk, off + t, none⟩ = some (.int .u64 (G t)) := fun t ht => by rw [hG]; exact (HK.out.1.holds t (by omega)).1
    have hfw : ∀ t, t < d.size → wr.frozen? ⟨blk, off + t, none⟩ = false := fun t ht => (HK.out.1.holds t (by omega)).2
    have HG : Hid (∀ t, G t = dk[t]!) := hG
    clear hG
    by_cases h0 : hi ≤ 2 * root + 1
    · have h0z : (hi : Int) ≤ 2 * (root : Int) + 1 := by omega
      go_wp2
      go_end0
      exact ⟨rfl, by rw [← HK.out.2, rs_sift_end _ _ h0]; exact HK.out.1⟩
    · have h0z : ¬ ((hi : Int) ≤ 2 * (root : Int) + 1) := by omega
      by_cases h1 : 2 * root + 2 < hi
      · have h1z : 2 * (root : Int) + 1 + 1 < (hi : Int) := by omega
        go_wp2_with fail
        go_big_quiet (first | (go_at_call 91; refine Calls.quiet_of_same (less_ref _ _ _)))
        go_wp2_with fail
        · have hL : Sort.ltInt (G (first + 2 * root + 1)) (G (first + 2 * root + 2)) = true := by assumption
          have HC : Hid (Sort.siftDown Sort.ltInt hi first root dk = _) := rs_sift Sort.ltInt (F := first) (c := 2 * root + 2) dk (by omega) (.inl ⟨rfl, h1, by rw [← HG.out, ← HG.out]; exact hL⟩)
          revert nq; intro nq1
          have hcw2 : ∀ t, t < d.size → (wr.drewN nq1).cell? ⟨blk, off + t, none⟩ = some (.int .u64 (G t)) := hcw
          have hfw2 : ∀ t, t < d.size → (wr.drewN nq1).frozen? ⟨blk, off + t, none⟩ = false := hfw
          have H2 : Hid (SR w blk off d dk (wr.drewN nq1)) := HK.out.1.drewN nq1
          have HE : Hid (Sort.siftDown Sort.ltInt hi first root dk = Sort.siftDown Sort.ltInt hi first lo d) := HK.out.2
          clear hcw hfw HK
          generalize wr.drewN nq1 = wr2 at hcw2 hfw2 H2 ⊢
          go_big_quiet (first | (go_at_call 91; refine Calls.quiet_of_same (less_ref _ _ _)))
          go_wp2_with fail
          · have hN : Sort.ltInt (G (first + root)) (G (first + (2 * root + 2))) = false := by
              have : (!Sort.ltInt (G (first + root)) (G (first + (2 * root + 2)))) = true := by assumption
              simpa using this
            (try simp only [Exit.inBlock, Exit.then]); refine bodyPost_ret (results_none rfl _ _ _) rfl ?_
            refine ⟨rfl, ?_⟩
            rw [← HE.out, HC.out, if_neg (by rw [← HG.out, ← HG.out, hN]; decide)]
            exact H2.out.drewN _
          · have hN : Sort.ltInt (G (first + root)) (G (first + (2 * root + 2))) = true := by
              have : (!Sort.ltInt (G (first + root)) (G (first + (2 * root + 2)))) = false := by assumption
              simpa using this
            have hcw3 : ∀ t, t < d.size → (wr2.drewN nq).cell? ⟨blk, off + t, none⟩ = some (.int .u64 (G t)) := hcw2
            have hfw3 : ∀ t, t < d.size → (wr2.drewN nq).frozen? ⟨blk, off + t, none⟩ = false := hfw2
            have H3 : Hid (SR w blk off d dk (wr2.drewN nq)) := H2.out.drewN nq
            clear hcw2 hfw2 H2
            generalize wr2.drewN nq = wr3 at hcw3 hfw3 H3 ⊢
            go_region
            go_wp2
            go_roundg (hi - (2 * root + 2))
            case measure => omega
            case rel =>
              refine ⟨2 * root + 2, Sort.swp dk (first + root) (first + (2 * root + 2)), by simp <;> omega, by omega, Nat.le_refl _, by rw [Sort.size_swp]; exact hds, ?_, ?_⟩
              · rw [HG.out, HG.out]; exact (H3.out.swap (by omega) (by omega)).drew
              · rw [← HE.out, HC.out, if_pos (by rw [← HG.out, ← HG.out]; exact hN)]
        · have hL : Sort.ltInt (G (first + 2 * root + 1)) (G (first + 2 * root + 2)) = false := by assumption
          have HC : Hid (Sort.siftDown Sort.ltInt hi first root dk = _) := rs_sift Sort.ltInt (F := first) (c := 2 * root + 1) dk (by omega) (.inr ⟨rfl, fun _ => by rw [← HG.out, ← HG.out]; exact hL⟩)
          revert nq; intro nq1
          have hcw2 : ∀ t, t < d.size → (wr.drewN nq1).cell? ⟨blk, off + t, none⟩ = some (.int .u64 (G t)) := hcw
          have hfw2 : ∀ t, t < d.size → (wr.drewN nq1).frozen? ⟨blk, off + t, none⟩ = false := hfw
          have H2 : Hid (SR w blk off d dk (wr.drewN nq1)) := HK.out.1.drewN nq1
          have HE : Hid (Sort.siftDown Sort.ltInt hi first root dk = Sort.siftDown Sort.ltInt hi first lo d) := HK.out.2
          clear hcw hfw HK
          generalize wr.drewN nq1 = wr2 at hcw2 hfw2 H2 ⊢
          go_big_quiet (first | (go_at_call 91; refine Calls.quiet_of_same (less_ref _ _ _)))
          go_wp2_with fail
          · have hN : Sort.ltInt (G (first + root)) (G (first + (2 * root + 1))) = false := by
              have : (!Sort.ltInt (G (first + root)) (G (first + (2 * root + 1)))) = true := by assumption
              simpa using this
            (try simp only [Exit.inBlock, Exit.then]); refine bodyPost_ret (results_none rfl _ _ _) rfl ?_
            refine ⟨rfl, ?_⟩
            rw [← HE.out, HC.out, if_neg (by rw [← HG.out, ← HG.out, hN]; decide)]
            exact H2.out.drewN _
          · have hN : Sort.ltInt (G (first + root)) (G (first + (2 * root + 1))) = true := by
              have : (!Sort.ltInt (G (first + root)) (G (first + (2 * root + 1)))) = false := by assumption
              simpa using this
            have hcw3 : ∀ t, t < d.size → (wr2.drewN nq).cell? ⟨blk, off + t, none⟩ = some (.int .u64 (G t)) := hcw2
            have hfw3 : ∀ t, t < d.size → (wr2.drewN nq).frozen? ⟨blk, off + t, none⟩ = false := hfw2
            have H3 : Hid (SR w blk off d dk (wr2.drewN nq)) := H2.out.drewN nq
            clear hcw2 hfw2 H2
            generalize wr2.drewN nq = wr3 at hcw3 hfw3 H3 ⊢
            go_region
            go_wp2
            go_roundg (hi - (2 * root + 1))
            case measure => omega
            case rel =>
              refine ⟨2 * root + 1, Sort.swp dk (first + root) (first + (2 * root + 1)), by simp <;> omega, by omega, Nat.le_refl _, by rw [Sort.size_swp]; exact hds, ?_, ?_⟩
              · rw [HG.out, HG.out]; exact (H3.out.swap (by omega) (by omega)).drew
              · rw [← HE.out, HC.out, if_pos (by rw [← HG.out, ← HG.out]; exact hN)]
      · have h1z : decide (2 * (root : Int) + 1 + 1 < (hi : Int)) = false := decide_eq_false (by omega)
        go_wp2_with fail
        go_big_quiet (first | (go_at_call 91; refine Calls.quiet_of_same (less_ref _ _ _)))
        go_wp2_with fail
        · have HC : Hid (Sort.siftDown Sort.ltInt hi first root dk = _) := rs_sift Sort.ltInt (F := first) (c := 2 * root + 1) dk (by omega) (.inr ⟨rfl, fun h => absurd h h1⟩)
          revert nq; intro nq1
          have hcw2 : ∀ t, t < d.size → (wr.drewN nq1).cell? ⟨blk, off + t, none⟩ = some (.int .u64 (G t)) := hcw
          have hfw2 : ∀ t, t < d.size → (wr.drewN nq1).frozen? ⟨blk, off + t, none⟩ = false := hfw
          have H2 : Hid (SR w blk off d dk (wr.drewN nq1)) := HK.out.1.drewN nq1
          have HE : Hid (Sort.siftDown Sort.ltInt hi first root dk = Sort.siftDown Sort.ltInt hi first lo d) := HK.out.2
          clear hcw hfw HK
          generalize wr.drewN nq1 = wr2 at hcw2 hfw2 H2 ⊢
          go_big_quiet (first | (go_at_call 91; refine Calls.quiet_of_same (less_ref _ _ _)))
          go_wp2_with fail
          · have hN : Sort.ltInt (G (first + root)) (G (first + (2 * root + 1))) = false := by
              have : (!Sort.ltInt (G (first + root)) (G (first + (2 * root + 1)))) = true := by assumption
              simpa using this
            (try simp only [Exit.inBlock, Exit.then]); refine bodyPost_ret (results_none rfl _ _ _) rfl ?_
            refine ⟨rfl, ?_⟩
            rw [← HE.out, HC.out, if_neg (by rw [← HG.out, ← HG.out, hN]; decide)]
            exact H2.out.drewN _
          · have hN : Sort.ltInt (G (first + root)) (G (first + (2 * root + 1))) = true := by
              have : (!Sort.ltInt (G (first + root)) (G (first + (2 * root + 1)))) = false := by assumption
              simpa using this
            have hcw3 : ∀ t, t < d.size → (wr2.drewN nq).cell? ⟨blk, off + t, none⟩ = some (.int .u64 (G t)) := hcw2
            have hfw3 : ∀ t, t < d.size → (wr2.drewN nq).frozen? ⟨blk, off + t, none⟩ = false := hfw2
            have H3 : Hid (SR w blk off d dk (wr2.drewN nq)) := H2.out.drewN nq
            clear hcw2 hfw2 H2
            generalize wr2.drewN nq = wr3 at hcw3 hfw3 H3 ⊢
            go_region
            go_wp2
            go_roundg (hi - (2 * root + 1))
            case measure => omega
            case rel =>
              refine ⟨2 * root + 1, Sort.swp dk (first + root) (first + (2 * root + 1)), by simp <;> omega, by omega, Nat.le_refl _, by rw [Sort.size_swp]; exact hds, ?_, ?_⟩
              · rw [HG.out, HG.out]; exact (H3.out.swap (by omega) (by omega)).drew
              · rw [← HE.out, HC.out, if_pos (by rw [← HG.out, ← HG.out]; exact hN)]
end Go.Proofs.YtikhpbidbcfedaaGreat

/- slices.heapSortOrdered and slices.reverseRangeOrdered at references. -/
namespace Go.Proofs.YtikhpbidbcfedaaGreat
open Go.RowKit

theorem rs_half {a b : Nat} (hab : a ≤ b) : ((b : Int) - (a : Int) - 1).tdiv 2 = (((b - a - 1) / 2 + 1 : Nat) : Int) - 1 := by
  by_cases h : a = b
  · subst h; rw [show ((a : Int) - (a : Int) - 1) = -1 by omega]; simp
  · rw [Int.tdiv_eq_ediv_of_nonneg (by omega)]; omega

set_option maxRecDepth 1000000 in
set_option maxHeartbeats 4000000 in
theorem heap_ref (blk off cap : Nat) (d : Array Int) (a b : Nat) (w : World) (hH : Sort.Holds (Value.int .u64) w blk off d) (hblk : blk < w.heap.size) (hab : a ≤ b) (hb : b ≤ d.size) (hsz : d.size < 4611686018427387904) :
    Calls Tryz.prog 86 #[.slice (some ⟨blk, off, none⟩) d.size cap, .int .i64 a, .int .i64 b] w fun e w' =>
      e = .returned (.tuple #[]) ∧ SR w blk off d (Sort.heapSort Sort.ltInt d a b) w' := by
  have HS : Hid (SR w blk off d d w) := SR.refl hH hblk
  clear hH hblk
  have ecast : ((b - a : Nat) : Int) = (b : Int) - (a : Int) := by omega
  go_enter Tryz.func86, Tryz.ntmps86
  go_wp2
  go_loopg [9] ((b - a - 1) / 2 + 1) (fun k s9 wr => s9 = .int .i64 ((k : Int) - 1) ∧ k ≤ (b - a - 1) / 2 + 1 ∧ ∃ dk : Array Int, dk.size = d.size ∧ Hid (SR w blk off d dk wr ∧ Sort.heapBuild Sort.ltInt (b - a) a k dk = Sort.heapBuild Sort.ltInt (b - a) a ((b - a - 1) / 2 + 1) d))
  case atStart => exact ⟨by rw [rs_half hab], Nat.le_refl _, d, rfl, HS.out, rfl⟩
  case round =>
    obtain ⟨rfl, hkk, dk, hds, HK⟩ := hrel
    cases gk with
    | zero =>
      have HB : Hid (dk = Sort.heapBuild Sort.ltInt (b - a) a ((b - a - 1) / 2 + 1) d) := HK.out.2
      go_wp2
      go_loopg [10] (b - a) (fun k s10 wr2 => s10 = .int .i64 ((k : Int) - 1) ∧ k ≤ b - a ∧ ∃ dj : Array Int, dj.size = d.size ∧ Hid (SR w blk off d dj wr2 ∧ Sort.heapPop Sort.ltInt a k dj = Sort.heapPop Sort.ltInt a (b - a) dk))
      case atStart => exact ⟨by rw [ecast], Nat.le_refl _, dk, hds, HK.out.1, rfl⟩
      case round =>
        obtain ⟨rfl, hkk, dj, hdj, HJ⟩ := hrel
        cases gk with
        | zero =>
          go_wp2
          go_end0
          refine ⟨rfl, ?_⟩
          have e : dj = Sort.heapSort Sort.ltInt d a b := by rw [Sort.heapSort, ← HB.out, ← HJ.out.2]; rfl
          rw [← e]; exact HJ.out.1
        | succ k =>
          obtain ⟨G, hG⟩ : ∃ G : Nat → Int, ∀ t, G t = dj[t]! := ⟨fun t => dj[t]!, fun _ => rfl⟩
          have hcw : ∀ t, t < d.size → wr.cell? ⟨blk, off + t, none⟩ = some (.int .u64 (G t)) := fun t ht => by rw [hG]; exact (HJ.out.1.holds t (by omega)).1
          have hfw : ∀ t, t < d.size → wr.frozen? ⟨blk, off + t, none⟩ = false := fun t ht => (HJ.out.1.holds t (by omega)).2
          have HG : Hid (∀ t, G t = dj[t]!) := hG
          clear hG
          rcases Nat.eq_zero_or_pos k with hk0 | hkp
          · subst hk0
            go_wp2_with fail
            go_region
            go_wp2_with fail
            rw [HG.out]
            have S2 : SR w blk off d (Sort.swp dj a a) _ := (HJ.out.1.swap (i := a) (j := a) (by omega) (by omega)).drew
            refine (sift_ref blk off d.size cap (Sort.swp dj a a) 0 0 a _ S2.holds S2.blt S2.sz (Nat.le_refl _) (by rw [Sort.size_swp]; omega) (by rw [Sort.size_swp]; omega)).mono ?_
            rintro e w1 ⟨rfl, h1⟩
            have S3 := S2.trans h1
            go_wp2
            go_roundg 0
            case measure => omega
            case rel => exact ⟨by simp, by omega, _, S3.sz, S3, by rw [← HJ.out.2]; rfl⟩
          · go_wp2_with fail
            go_region
            go_wp2_with fail
            rw [HG.out, HG.out]
            have S2 : SR w blk off d (Sort.swp dj a (a + k)) _ := (HJ.out.1.swap (i := a) (j := a + k) (by omega) (by omega)).drew
            refine (sift_ref blk off d.size cap (Sort.swp dj a (a + k)) 0 k a _ S2.holds S2.blt S2.sz (Nat.zero_le _) (by rw [Sort.size_swp]; omega) (by rw [Sort.size_swp]; omega)).mono ?_
            rintro e w1 ⟨rfl, h1⟩
            have S3 := S2.trans h1
            go_wp2
            go_roundg k
            case measure => omega
            case rel => exact ⟨by simp, by omega, _, S3.sz, S3, by rw [← HJ.out.2]; rfl⟩
    | succ k =>
      have S1 := HK.out.1
      have hk2 : k ≤ (b - a - 1) / 2 := by omega
      go_wp2_with (go_at_call 111; rw [show ((b : Int) - (a : Int)) = ((b - a : Nat) : Int) from ecast.symm]; refine (sift_ref blk off d.size cap dk k (b - a) a _ S1.holds S1.blt S1.sz (by omega) (by omega) (by omega)).mono ?_; rintro e w1 ⟨rfl, h1⟩)
      have S3 := S1.trans h1
      go_roundg k
      case measure => omega
      case rel => exact ⟨by simp, by omega, _, S3.sz, S3, by rw [← HK.out.2]; rfl⟩

set_option maxRecDepth 1000000 in
set_option maxHeartbeats 4000000 in
theorem rev_ref (blk off cap : Nat) (d : Array Int) (a b : Nat) (w : World) (hH : Sort.Holds (Value.int .u64) w blk off d) (hblk : blk < w.heap.size) (hab : a ≤ b) (hb : b ≤ d.size) (hsz : d.size < 4611686018427387904) :
    Calls Tryz.prog 89 #[.slice (some ⟨blk, off, none⟩) d.size cap, .int .i64 a, .int .i64 b] w fun e w' =>
      e = .returned (.tuple #[]) ∧ ∃ d', Sort.PermIn a b d d' ∧ SR w blk off d d' w' := by
  have HS : Hid (SR w blk off d d w) := SR.refl hH hblk
  clear hH hblk
  go_enter Tryz.func89, Tryz.ntmps89
  go_wp2
  go_loopg [6, 7] (b - a) (fun k s6 s7 wr => ∃ (i : Nat) (jz : Int) (dk : Array Int), s6 = .int .i64 i ∧ s7 = .int .i64 jz ∧ a ≤ i ∧ jz < b ∧ -1 ≤ jz ∧ i ≤ b ∧ (jz - i).toNat ≤ k ∧ dk.size = d.size ∧ Hid (Sort.PermIn a b d dk ∧ SR w blk off d dk wr))
  case atStart => exact ⟨a, (b : Int) - 1, d, rfl, rfl, by omega, by omega, by omega, by omega, by omega, rfl, Sort.permIn_refl _ _ _, HS.out⟩
  case round =>
    obtain ⟨i, jz, dk, rfl, rfl, h1, h2, h3, h4, hk, hds, HK⟩ := hrel
    by_cases hlt : (i : Int) < jz
    · obtain ⟨jn, rfl⟩ : ∃ jn : Nat, jz = jn := ⟨jz.toNat, by omega⟩
      obtain ⟨G, hG⟩ : ∃ G : Nat → Int, ∀ t, G t = dk[t]! := ⟨fun t => dk[t]!, fun _ => rfl⟩
      have hcw : ∀ t, t < d.size → wr.cell? ⟨blk, off + t, none⟩ = some (.int .u64 (G t)) := fun t ht => by rw [hG]; exact (HK.out.2.holds t (by omega)).1
      have hfw : ∀ t, t < d.size → wr.frozen? ⟨blk, off + t, none⟩ = false := fun t ht => (HK.out.2.holds t (by omega)).2
      have HG : Hid (∀ t, G t = dk[t]!) := hG
      clear hG
      have hij : i < jn := by omega
      go_wp2_with fail
      go_region
      go_wp2
      go_roundg (jn - 1 - (i + 1))
      case measure => omega
      case rel =>
        refine ⟨i + 1, (jn : Int) - 1, Sort.swp dk i jn, by simp, rfl, by omega, by omega, by omega, by omega, by omega, by rw [Sort.size_swp]; exact hds, Sort.permIn_trans _ _ _ _ _ HK.out.1 (Sort.swp_permIn _ _ _ _ _ h1 (by omega) (by omega) (by omega) (by omega)), ?_⟩
        rw [HG.out, HG.out]; exact (HK.out.2.swap (by omega) (by omega)).drew
    · go_wp2
      go_end0
      exact ⟨rfl, dk, HK.out.1, HK.out.2⟩
end Go.Proofs.YtikhpbidbcfedaaGreat

