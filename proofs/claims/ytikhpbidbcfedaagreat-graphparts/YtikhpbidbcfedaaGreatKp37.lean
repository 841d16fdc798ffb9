/- Plain mathematics: who is reached, told by values; what a node keeps, in a graph and in the graph without it. -/
import Derived.Test.YtikhpbidbcfedaaGreatKp32
import Derived.Test.YtikhpbidbcfedaaGreatKp35
namespace Go.Proofs.YtikhpbidbcfedaaGreat

inductive RV (E : List (Int × Int)) (src : List Int) (av : Int → Prop) : Int → Prop
  | base {x} : x ∈ src → ¬ av x → RV E src av x
  | step {x z} : RV E src av x → (x, z) ∈ E → ¬ av z → RV E src av z
theorem RV.no {E : List (Int × Int)} {src : List Int} {av : Int → Prop} {v : Int} (h : RV E src av v) : ¬ av v := by
  cases h with
  | base _ h => exact h
  | step _ _ h => exact h
def Sp.wE (E : List (Int × Int)) (x : Int) : List (Int × Int) := E.filter fun e => decide (e.1 ≠ x ∧ e.2 ≠ x)
def Sp.wN (l : List Int) (x : Int) : List Int := l.filter fun y => decide (y ≠ x)
theorem wE_mem {E : List (Int × Int)} {x : Int} {e : Int × Int} : e ∈ Sp.wE E x ↔ e ∈ E ∧ e.1 ≠ x ∧ e.2 ≠ x := by simp [Sp.wE]
theorem wN_mem {l : List Int} {x y : Int} : y ∈ Sp.wN l x ↔ y ∈ l ∧ y ≠ x := by simp [Sp.wN]
theorem RV.without {E : List (Int × Int)} {l : List Int} {x v : Int} : RV (Sp.wE E x) (Sp.wN l x) (fun _ => False) v ↔ RV E l (fun y => y = x) v := by
  refine ⟨fun h => ?_, fun h => ?_⟩
  · induction h with
    | base h1 _ => exact .base (wN_mem.1 h1).1 (wN_mem.1 h1).2
    | step _ h1 _ ih => exact .step ih (wE_mem.1 h1).1 (wE_mem.1 h1).2.2
  · induction h with
    | base h1 h2 => exact .base (wN_mem.2 ⟨h1, h2⟩) (fun h => h)
    | step h0 h1 h2 ih => exact .step ih (wE_mem.2 ⟨h1, h0.no, h2⟩) (fun h => h)
theorem pls_map {N : List Int} : ∀ {l : List Int} {ps : List Nat}, Sp.pls N l = some ps → ps = l.map N.idxOf ∧ ∀ x ∈ l, x ∈ N
  | [], ps, h => by simp [Sp.pls] at h; subst h; simp
  | x :: l, ps, h => by
    unfold Sp.pls at h
    split at h
    · rename_i hx
      cases hp : Sp.pls N l with
      | none => rw [hp] at h; cases h
      | some qs =>
        rw [hp] at h
        simp at h; subst h
        obtain ⟨h1, h2⟩ := pls_map hp
        refine ⟨by rw [h1]; rfl, fun y hy => ?_⟩
        rcases List.mem_cons.1 hy with e | hy
        · rw [e]; exact hx
        · exact h2 y hy
    · cases h
theorem at_idx {N : List Int} {u : Int} (h : u ∈ N) : N[N.idxOf u]? = some u := by
  have hlt := List.idxOf_lt_length_iff.2 h
  rw [List.getElem?_eq_getElem hlt, List.getElem_idxOf hlt]
theorem idx_at2 {N : List Int} (hn : N.Nodup) {i : Nat} {v : Int} (h : N[i]? = some v) : N.idxOf v = i := by
  obtain ⟨hi, e⟩ := List.getElem?_eq_some_iff.1 h
  have hm : v ∈ N := List.mem_of_getElem? h
  obtain ⟨hj, e2⟩ := List.getElem?_eq_some_iff.1 (at_idx hm)
  have hp := List.pairwise_iff_getElem.1 hn
  rcases Nat.lt_trichotomy (N.idxOf v) i with h1 | h1 | h1
  · exact absurd (e2.trans e.symm) (hp _ _ hj hi h1)
  · exact h1
  · exact absurd (e.trans e2.symm) (hp _ _ hi hj h1)

section
variable {N : List Int} {E : List (Int × Int)} {l : List Int} {ps : List Nat} {wo : Int} {av : Int → Prop}
theorem rch_rv (hp : Sp.pls N l = some ps) (hav : ∀ (i : Nat) (v : Int), N[i]? = some v → ((i : Int) = wo ↔ av v)) {i : Nat} (h : Rch (Sp.nx N E) wo ps i) : ∃ v, N[i]? = some v ∧ RV E l av v := by
  induction h with
  | @base x h1 h2 =>
    obtain ⟨e, hN⟩ := pls_map hp
    rw [e] at h1
    obtain ⟨u, hu, rfl⟩ := List.mem_map.1 h1
    have hg := at_idx (hN u hu)
    exact ⟨u, hg, .base hu (fun h => h2 ((hav _ _ hg).2 h))⟩
  | @step x z _ h1 h2 ih =>
    obtain ⟨u, hu, hr⟩ := ih
    obtain ⟨hz, hE⟩ := nx_mem.1 h1
    have hg : N[z]? = some (N.getD z 0) := by rw [List.getD_eq_getElem?_getD, List.getElem?_eq_getElem hz]; rfl
    have hu2 : N.getD x 0 = u := by rw [List.getD_eq_getElem?_getD, hu]; rfl
    rw [hu2] at hE
    exact ⟨_, hg, .step hr hE (fun h => h2 ((hav _ _ hg).2 h))⟩
theorem rv_rch (hn : N.Nodup) (hE : ∀ e ∈ E, e.1 ∈ N ∧ e.2 ∈ N) (hp : Sp.pls N l = some ps) (hav : ∀ (i : Nat) (v : Int), N[i]? = some v → ((i : Int) = wo ↔ av v)) {v : Int} (h : RV E l av v) : ∀ i, N[i]? = some v → Rch (Sp.nx N E) wo ps i := by
  induction h with
  | @base x h1 h2 =>
    intro i hi
    obtain ⟨e, hN⟩ := pls_map hp
    refine .base ?_ (fun h => h2 ((hav i x hi).1 h))
    rw [e, ← idx_at2 hn hi]; exact List.mem_map_of_mem h1
  | @step x z _ h1 h2 ih =>
    intro i hi
    have hj := at_idx (hE _ h1).1
    refine .step (ih _ hj) (nx_mem.2 ⟨(List.getElem?_eq_some_iff.1 hi).1, ?_⟩) (fun h => h2 ((hav i z hi).1 h))
    rw [List.getD_eq_getElem?_getD, List.getD_eq_getElem?_getD, hi, hj]; exact h1
theorem rv_in (hE : ∀ e ∈ E, e.1 ∈ N ∧ e.2 ∈ N) (hp : Sp.pls N l = some ps) {v : Int} (h : RV E l av v) : v ∈ N := by
  cases h with
  | base h1 _ => exact (pls_map hp).2 v h1
  | step _ h1 _ => exact (hE _ h1).2
end
theorem rfs_srt {N : List Int} (hN : N.Pairwise (· < ·)) {q : List Nat} (hq : q.Pairwise (· < ·)) (hb : ∀ x ∈ q, x < N.length) : (Sp.rfs N q).Pairwise (· < ·) := by
  unfold Sp.rfs
  rw [List.pairwise_map]
  have hp := List.pairwise_iff_getElem.1 hN
  refine List.Pairwise.imp_of_mem ?_ hq
  intro a b ha hb2 hab
  have h1 := hb a ha; have h2 := hb b hb2
  rw [List.getD_eq_getElem?_getD, List.getD_eq_getElem?_getD, List.getElem?_eq_getElem h1, List.getElem?_eq_getElem h2]
  exact hp a b h1 h2 hab
theorem rfs_mem {N : List Int} {q : List Nat} (hb : ∀ x ∈ q, x < N.length) {v : Int} : v ∈ Sp.rfs N q ↔ ∃ i, i ∈ q ∧ N[i]? = some v := by
  unfold Sp.rfs
  rw [List.mem_map]
  refine ⟨fun ⟨i, hi, e⟩ => ⟨i, hi, ?_⟩, fun ⟨i, hi, e⟩ => ⟨i, hi, ?_⟩⟩
  · rw [← e, List.getD_eq_getElem?_getD, List.getElem?_eq_getElem (hb i hi)]; rfl
  · rw [List.getD_eq_getElem?_getD, e]; rfl
theorem lt_nd {N : List Int} (hN : N.Pairwise (· < ·)) : N.Nodup := hN.imp (by intro a b h; omega)
theorem upn_pw (L : Nat) (l : List Nat) : (Sp.upn L l).Pairwise (· < ·) := List.Pairwise.filter _ List.pairwise_lt_range

section
variable {N : List Int} {E : List (Int × Int)} {l : List Int}
theorem nx_bd (N : List Int) (E : List (Int × Int)) : ∀ i, ∀ x ∈ Sp.nx N E i, x < N.length := fun _ _ h => (nx_mem.1 h).1
theorem reachV (hN : N.Pairwise (· < ·)) (hE : ∀ e ∈ E, e.1 ∈ N ∧ e.2 ∈ N) {R : List Int} (h : Sp.reach N (Sp.nx N E) l = some R) : R.Pairwise (· < ·) ∧ ∀ v, v ∈ R ↔ RV E l (fun _ => False) v := by
  unfold Sp.reach at h
  cases hp : Sp.pls N l with
  | none => rw [hp] at h; cases h
  | some ps =>
    rw [hp] at h
    simp at h
    have hub : ∀ x ∈ Sp.upn N.length (Bf.all (Sp.nx N E) (-1) N.length ps).ord, x < N.length := fun x hx => (upn_mem.1 hx).1
    rw [← h]
    refine ⟨rfs_srt hN (upn_pw _ _) hub, fun v => ?_⟩
    rw [rfs_mem hub]
    have hr := fun x => all_rch (nx := Sp.nx N E) (wo := -1) (L := N.length) (src := ps) (nx_lt N E) (nx_bd N E) (pls_lt hp).1 (x := x)
    have hav : ∀ (i : Nat) (v : Int), N[i]? = some v → ((i : Int) = -1 ↔ (fun _ : Int => False) v) := fun i v _ => ⟨fun h => by omega, fun h => h.elim⟩
    refine ⟨fun ⟨i, hi, hv⟩ => ?_, fun hv => ?_⟩
    · obtain ⟨u, hu, hru⟩ := rch_rv hp hav ((hr i).1 (upn_mem.1 hi).2)
      rw [hv] at hu; injection hu with hu; rw [hu]; exact hru
    · have hi := at_idx (rv_in hE hp hv)
      exact ⟨_, upn_mem.2 ⟨(List.getElem?_eq_some_iff.1 hi).1, (hr _).2 (rv_rch (lt_nd hN) hE hp hav hv _ hi)⟩, hi⟩
theorem keepsV (hN : N.Pairwise (· < ·)) (hE : ∀ e ∈ E, e.1 ∈ N ∧ e.2 ∈ N) {K : List Int} {x : Int} (h : Sp.keeps N (Sp.nx N E) l x = some K) : K.Pairwise (· < ·) ∧ ∀ v, v ∈ K ↔ RV E l (fun _ => False) v ∧ ¬ RV E l (fun y => y = x) v := by
  unfold Sp.keeps at h
  cases hp : Sp.pls N l with
  | none => rw [hp] at h; cases h
  | some ps =>
    rw [hp] at h
    simp only at h
    by_cases hx : x ∈ N
    · rw [if_pos hx] at h
      injection h with h
      have hub : ∀ y ∈ Sp.upn N.length (Sp.wo (Bf.all (Sp.nx N E) (N.idxOf x : Int) N.length ps) (Bf.all (Sp.nx N E) (-1) N.length ps).ord), y < N.length := fun y hy => (upn_mem.1 hy).1
      rw [← h]
      refine ⟨rfs_srt hN (upn_pw _ _) hub, fun v => ?_⟩
      rw [rfs_mem hub]
      have hr := fun y => all_rch (nx := Sp.nx N E) (wo := -1) (L := N.length) (src := ps) (nx_lt N E) (nx_bd N E) (pls_lt hp).1 (x := y)
      have hq := fun y => all_rch (nx := Sp.nx N E) (wo := (N.idxOf x : Int)) (L := N.length) (src := ps) (nx_lt N E) (nx_bd N E) (pls_lt hp).1 (x := y)
      have hav : ∀ (i : Nat) (v : Int), N[i]? = some v → ((i : Int) = -1 ↔ (fun _ : Int => False) v) := fun i v _ => ⟨fun h => by omega, fun h => h.elim⟩
      have hav2 : ∀ (i : Nat) (v : Int), N[i]? = some v → ((i : Int) = (N.idxOf x : Int) ↔ (fun y : Int => y = x) v) := fun i v hv => by
        have hi := idx_at2 (lt_nd hN) hv
        refine ⟨fun h => ?_, fun h => ?_⟩
        · have hxi := at_idx hx
          rw [show N.idxOf x = i by omega, hv] at hxi
          injection hxi
        · rw [← hi]; simp only at h; rw [h]
      have hwo : ∀ i, i ∈ Sp.wo (Bf.all (Sp.nx N E) (N.idxOf x : Int) N.length ps) (Bf.all (Sp.nx N E) (-1) N.length ps).ord ↔ i ∈ (Bf.all (Sp.nx N E) (-1) N.length ps).ord ∧ i ∉ (Bf.all (Sp.nx N E) (N.idxOf x : Int) N.length ps).ord := fun i => by simp [Sp.wo]
      refine ⟨fun ⟨i, hi, hv⟩ => ?_, fun ⟨hv, hno⟩ => ?_⟩
      · obtain ⟨h1, h2⟩ := (hwo i).1 (upn_mem.1 hi).2
        obtain ⟨u, hu, hru⟩ := rch_rv hp hav ((hr i).1 h1)
        rw [hv] at hu; injection hu with hu; subst hu
        exact ⟨hru, fun hc => h2 ((hq i).2 (rv_rch (lt_nd hN) hE hp hav2 hc i hv))⟩
      · have hi := at_idx (rv_in hE hp hv)
        refine ⟨_, upn_mem.2 ⟨(List.getElem?_eq_some_iff.1 hi).1, (hwo _).2 ⟨(hr _).2 (rv_rch (lt_nd hN) hE hp hav hv _ hi), fun hc => ?_⟩⟩, hi⟩
        obtain ⟨u, hu, hru⟩ := rch_rv hp hav2 ((hq _).1 hc)
        rw [hi] at hu; injection hu with hu; subst hu
        exact hno hru
    · rw [if_neg hx] at h; cases h
end
theorem pw_len {l m k : List Int} (hl : l.Pairwise (· < ·)) (hm : m.Pairwise (· < ·)) (hk : k.Pairwise (· < ·)) (h1 : ∀ v, v ∈ l ↔ v ∈ m ∧ v ∉ k) (h2 : ∀ v, v ∈ k → v ∈ m) : l.length + k.length = m.length := by
  have e1 : l = m.filter fun v => decide (v ∉ k) := ext_ltI hl (hm.filter _) fun v => by rw [h1]; simp
  have e2 : k = m.filter fun v => decide (v ∈ k) := ext_ltI hk (hm.filter _) fun v => by simp; exact h2 v
  rw [e1]
  conv => lhs; rhs; rw [e2]
  have : ∀ q : List Int, (q.filter fun v => decide (v ∉ k)).length + (q.filter fun v => decide (v ∈ k)).length = q.length := fun q => by
    induction q with
    | nil => rfl
    | cons a q ih =>
      by_cases ha : a ∈ k
      · simp [ha] at ih ⊢; omega
      · simp [ha] at ih ⊢; omega
  exact this m
theorem mkE_parts {nodes : List Int} {E : List (Int × Int)} (h : Sp.mkE nodes E = 0) : nodes.length ≤ 4096 ∧ E.length ≤ 16384 ∧ (0 : Int) ∉ nodes ∧ nodes.Nodup ∧ ∀ e ∈ E, e.1 ∈ nodes ∧ e.2 ∈ nodes := by
  unfold Sp.mkE at h
  split at h
  · cases h
  · rename_i h1
    split at h
    · cases h
    · rename_i h2
      split at h
      · cases h
      · rename_i h3
        refine ⟨by omega, by omega, fun h => h2 (.inl h), Classical.byContradiction fun h => h2 (.inr h), fun e he => ⟨?_, ?_⟩⟩
        · exact Classical.byContradiction fun h => h3 ⟨e, he, .inl h⟩
        · exact Classical.byContradiction fun h => h3 ⟨e, he, .inr h⟩
theorem mkE_without {nodes : List Int} {E : List (Int × Int)} (h : Sp.mkE nodes E = 0) (x : Int) : Sp.mkE (Sp.wN nodes x) (Sp.wE E x) = 0 := by
  obtain ⟨h1, h2, h3, h4, h5⟩ := mkE_parts h
  have l1 : (Sp.wN nodes x).length ≤ nodes.length := List.length_filter_le _ _
  have l2 : (Sp.wE E x).length ≤ E.length := List.length_filter_le _ _
  unfold Sp.mkE
  rw [if_neg (by omega), if_neg, if_neg]
  · rintro ⟨e, he, h⟩
    obtain ⟨h6, h7, h8⟩ := wE_mem.1 he
    rcases h with h | h
    · exact h (wN_mem.2 ⟨(h5 e h6).1, h7⟩)
    · exact h (wN_mem.2 ⟨(h5 e h6).2, h8⟩)
  · rintro (h | h)
    · exact h3 (wN_mem.1 h).1
    · exact h (h4.filter _)

structure KpM (N : List Int) (nx : Nat → List Nat) (N' : List Int) (nx' : Nat → List Nat) (l l' : List Int) (x : Int) : Prop where
  no : Sp.keeps N nx l x = none → ∀ y b er, KrP N nx l x y b er → er = 140 ∧ b = false
  yes : ∀ K, Sp.keeps N nx l x = some K → ∃ R R', Sp.reach N nx l = some R ∧ Sp.reach N' nx' l' = some R' ∧ (x ∉ R → K = []) ∧ (x ∈ R → (∀ v ∈ R, v ∈ K ↔ v ∉ R') ∧ K.length + R'.length = R.length) ∧
    ∀ y b er, KrP N nx l x y b er → (x ∉ R → er = 142) ∧ (x ∈ R → er = 0 ∧ (b = false → y = 0) ∧ (b = true → y ∈ N ∧ y ≠ x ∧ y ∉ K ∧ ∃ U, Sp.keeps N nx l y = some U ∧ x ∈ U))
theorem KpM.of {nodes : List Int} {E : List (Int × Int)} (hk : Sp.mkE nodes E = 0) (l : List Int) (x : Int) : KpM (Sp.srt nodes) (Sp.nx (Sp.srt nodes) E) (Sp.srt (Sp.wN nodes x)) (Sp.nx (Sp.srt (Sp.wN nodes x)) (Sp.wE E x)) l (Sp.wN l x) x := by
  obtain ⟨h1, h2, h3, h4, h5⟩ := mkE_parts hk
  obtain ⟨g1, g2, g3, g4, g5⟩ := mkE_parts (mkE_without hk x)
  have hN := srt_lt h4
  have hN' := srt_lt g4
  have hE : ∀ e ∈ E, e.1 ∈ Sp.srt nodes ∧ e.2 ∈ Sp.srt nodes := fun e he => ⟨srt_mem.2 (h5 e he).1, srt_mem.2 (h5 e he).2⟩
  have hE' : ∀ e ∈ Sp.wE E x, e.1 ∈ Sp.srt (Sp.wN nodes x) ∧ e.2 ∈ Sp.srt (Sp.wN nodes x) := fun e he => ⟨srt_mem.2 (g5 e he).1, srt_mem.2 (g5 e he).2⟩
  have hNN : ∀ v, v ∈ Sp.srt (Sp.wN nodes x) ↔ v ∈ Sp.srt nodes ∧ v ≠ x := fun v => by rw [srt_mem, srt_mem, wN_mem]
  obtain ⟨N, eN⟩ : ∃ N, Sp.srt nodes = N := ⟨_, rfl⟩
  obtain ⟨N', eN'⟩ : ∃ N, Sp.srt (Sp.wN nodes x) = N := ⟨_, rfl⟩
  rw [eN] at hN hE hNN ⊢
  rw [eN'] at hN' hE' hNN ⊢
  have hkp : ∀ y, (∃ ps, Sp.pls N l = some ps) → y ∈ N → ∃ U, Sp.keeps N (Sp.nx N E) l y = some U := fun y ⟨ps, hp⟩ hy => by
    unfold Sp.keeps; rw [hp]; simp only; rw [if_pos hy]; exact ⟨_, rfl⟩
  refine ⟨fun h y b er hkr => ?_, fun K hK => ?_⟩
  · rcases hkr with ⟨_, _, hb, he⟩ | ⟨ps, hp, hx, _⟩ | ⟨ps, r, hp, hx, _⟩
    · exact ⟨he, hb⟩
    · obtain ⟨U, hU⟩ := hkp x ⟨ps, hp⟩ hx; rw [h] at hU; cases hU
    · obtain ⟨U, hU⟩ := hkp x ⟨ps, hp⟩ hx; rw [h] at hU; cases hU
  · obtain ⟨ps, hp⟩ : ∃ ps, Sp.pls N l = some ps := by
      unfold Sp.keeps at hK
      cases hp : Sp.pls N l with
      | none => rw [hp] at hK; cases hK
      | some ps => exact ⟨ps, rfl⟩
    have hxN : x ∈ N := Classical.byContradiction fun h => by
      unfold Sp.keeps at hK; rw [hp] at hK; simp only at hK; rw [if_neg h] at hK; cases hK
    have hlN := (pls_map hp).2
    obtain ⟨R, hR⟩ : ∃ R, Sp.reach N (Sp.nx N E) l = some R := by unfold Sp.reach; rw [hp]; exact ⟨_, rfl⟩
    obtain ⟨R', hR'⟩ : ∃ R, Sp.reach N' (Sp.nx N' (Sp.wE E x)) (Sp.wN l x) = some R := by
      unfold Sp.reach
      rw [pls_all (fun y hy => (hNN y).2 ⟨hlN y (wN_mem.1 hy).1, (wN_mem.1 hy).2⟩)]; exact ⟨_, rfl⟩
    obtain ⟨kp, km⟩ := keepsV hN hE hK
    obtain ⟨rp, rm⟩ := reachV hN hE hR
    obtain ⟨rp', rm'⟩ := reachV hN' hE' hR'
    have hmono : ∀ v, RV E l (fun y => y = x) v → RV E l (fun _ => False) v := fun v h => by
      induction h with
      | base a _ => exact .base a (fun h => h)
      | step _ a _ ih => exact .step ih a (fun h => h)
    have hkr : ∀ v, v ∈ K ↔ v ∈ R ∧ v ∉ R' := fun v => by rw [km, rm, rm', RV.without]
    have hsub : ∀ v, v ∈ R' → v ∈ R := fun v h => by rw [rm', RV.without] at h; rw [rm]; exact hmono v h
    have hav : ∀ (i : Nat) (v : Int), N[i]? = some v → ((i : Int) = -1 ↔ (fun _ : Int => False) v) := fun i v _ => ⟨fun h => by omega, fun h => h.elim⟩
    have havx : ∀ (z : Int), z ∈ N → ∀ (i : Nat) (v : Int), N[i]? = some v → ((i : Int) = (N.idxOf z : Int) ↔ (fun y : Int => y = z) v) := fun z hz i v hv => by
      have hi := idx_at2 (lt_nd hN) hv
      refine ⟨fun h => ?_, fun h => ?_⟩
      · have hxi := at_idx hz
        rw [show N.idxOf z = i by omega, hv] at hxi
        injection hxi
      · rw [← hi]; simp only at h; rw [h]
    have hr := fun y => all_rch (nx := Sp.nx N E) (wo := -1) (L := N.length) (src := ps) (nx_lt N E) (nx_bd N E) (pls_lt hp).1 (x := y)
    have hxi := at_idx hxN
    have hxR : x ∈ R ↔ N.idxOf x ∈ (Bf.all (Sp.nx N E) (-1) N.length ps).ord := by
      rw [rm, hr]
      refine ⟨fun h => rv_rch (lt_nd hN) hE hp hav h _ hxi, fun h => ?_⟩
      obtain ⟨u, hu, hru⟩ := rch_rv hp hav h
      rw [hxi] at hu; injection hu with hu; rw [hu]; exact hru
    refine ⟨R, R', hR, hR', fun hx => ?_, fun hx => ⟨fun v hv => ?_, pw_len kp rp rp' hkr hsub⟩, fun y b er hkr2 => ?_⟩
    · rw [List.eq_nil_iff_forall_not_mem]
      intro v hv
      obtain ⟨ha, hb⟩ := (km v).1 hv
      refine hb ?_
      have key : ∀ z, RV E l (fun _ => False) z → z ≠ x := fun z hz e => hx ((rm x).2 (e ▸ hz))
      clear hb hv
      induction ha with
      | base a h => exact .base a (key _ (.base a h))
      | step a0 a h ih => exact .step ih a (key _ (.step a0 a h))
    · rw [hkr]; exact ⟨fun h => h.2, fun h => ⟨hv, h⟩⟩
    · rcases hkr2 with ⟨h, _⟩ | ⟨qs, hq, hx, hno, hy, hb, he⟩ | ⟨qs, r, hq, hx, hin, hK2, he, hrr⟩
      · rcases h with h | h
        · rw [hp] at h; cases h
        · exact absurd hxN h
      · rw [hp] at hq; injection hq with hq; subst hq
        exact ⟨fun _ => he, fun h => absurd (hxR.1 h) hno⟩
      · rw [hp] at hq; injection hq with hq; subst hq
        refine ⟨fun h => absurd (hxR.2 hin) h, fun _ => ⟨he, fun hb => ?_, fun hb => ?_⟩⟩
        · rcases hrr with ⟨_, h, _⟩ | ⟨k, _, _, h⟩
          · exact h
          · rw [hb] at h; cases h
        · rcases hrr with ⟨_, _, h⟩ | ⟨k, hrk, hy, _⟩
          · rw [hb] at h; cases h
          · rcases hK2 with ⟨h, _⟩ | ⟨j, k', hj, hjk, hrk', hd, _⟩
            · omega
            · obtain rfl : k' = k := by omega
              have BB := all_BI (nx := Sp.nx N E) (wo := -1) (L := N.length) (src := ps) (nx_lt N E) (nx_bd N E) (pls_lt hp).1
              have hW : WayF (Sp.nx N E) N.length ps (N.idxOf x) (Sp.wy (Bf.all (Sp.nx N E) (-1) N.length ps) (N.idxOf x)) := (chn_way BB _ _ hin (Nat.le_refl _)).1
              have hkL : k' < N.length := BB.bd k' ((hr k').2 hd.2.1)
              have hky : N[k']? = some y := by rw [hy, List.getD_eq_getElem?_getD, List.getElem?_eq_getElem hkL]; rfl
              have hyN : y ∈ N := List.mem_of_getElem? hky
              have hidy : N.idxOf y = k' := idx_at2 (lt_nd hN) hky
              have hyx : y ≠ x := fun e => hd.1 (by rw [← hidy, e])
              refine ⟨hyN, hyx, fun hyK => ?_, ?_⟩
              · refine ((km y).1 hyK).2 ?_
                have hpre := hW.pre (k := (N.idxOf x : Int)) j k' hjk (fun i z hi hz e => by
                  have hz2 : z = N.idxOf x := by omega
                  subst hz2
                  have := nd_at hW.nd hz hW.la
                  omega)
                obtain ⟨u, hu, hru⟩ := rch_rv hp (havx x hxN) hpre
                rw [hky] at hu; injection hu with hu; subst hu
                exact hru
              · obtain ⟨U, hU⟩ := hkp y ⟨ps, hp⟩ hyN
                obtain ⟨_, um⟩ := keepsV hN hE hU
                refine ⟨U, hU, (um x).2 ⟨(rm x).1 (hxR.2 hin), fun hc => hd.2.2 ?_⟩⟩
                have := rv_rch (lt_nd hN) hE hp (havx y hyN) hc _ hxi
                rwa [hidy] at this
end Go.Proofs.YtikhpbidbcfedaaGreat

