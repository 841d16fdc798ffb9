/- Plain mathematics: a walk whose visitor keeps who was entered, who was left, and who is still open. -/
import Derived.Test.YtikhpbidbcfedaaGreatKo27
import Derived.Test.YtikhpbidbcfedaaGreatKo36
import Derived.Test.YtikhpbidbcfedaaGreatKo24
import Derived.Test.YtikhpbidbcfedaaGreatKo30
namespace Go.Proofs.YtikhpbidbcfedaaGreat

structure On where
  i : List Nat
  o : List Nat
  p : List Nat
  k : Bool
def Sp.onE (nx : Nat → List Nat) (s : On) (j : Nat) : Bool := s.k && (!decide (j ∈ s.i) && (s.p.isEmpty || decide (j ∈ nx (s.p.getD (s.p.length - 1) 0))))
def Sp.onL (s : On) (j : Nat) : Bool := s.k && decide (s.p[s.p.length - 1]? = some j)
def Sp.on (nx : Nat → List Nat) : Vr On where
  enter s j := (some true, ⟨s.i ++ [j], s.o, s.p ++ [j], Sp.onE nx s j⟩)
  leave s j := (some true, ⟨s.i, s.o ++ [j], s.p.dropLast, Sp.onL s j⟩)
structure OnP (nx : Nat → List Nat) (L : Nat) (l : List Nat) (E : List Bool) (s : On) (r : Option Bool × Wst On) : Prop where
  ok : r.1 = some true
  mor : Mor E r.2.1
  all : ∀ x ∈ l, r.2.1.getD x false = true
  row : ∃ t u, r.2.2 = ⟨s.i ++ t, s.o ++ u, s.p, s.k⟩ ∧ t.Nodup ∧ t.length = u.length ∧ (∀ x, x ∈ t ↔ x ∈ u) ∧ (∀ x ∈ t, x < L ∧ E.getD x false = false ∧ r.2.1.getD x false = true ∧ Rch nx (-1) l x ∧ ∀ z ∈ nx x, r.2.1.getD z false = true) ∧ ∀ x, r.2.1.getD x false = true → E.getD x false = true ∨ x ∈ t
theorem Rch.more {nx : Nat → List Nat} {wo : Int} {l m : List Nat} (h : ∀ x ∈ l, x ∈ m) {x : Nat} (hx : Rch nx wo l x) : Rch nx wo m x := by
  induction hx with
  | base a b => exact .base (h _ a) b
  | step _ a b ih => exact .step ih a b
theorem Rch.next {nx : Nat → List Nat} {n x : Nat} (hx : Rch nx (-1) (nx n) x) : Rch nx (-1) [n] x := by
  induction hx with
  | base a b => exact .step (.base (by simp) (by omega)) a b
  | step _ a b ih => exact .step ih a b
theorem on_all {L f : Nat} {nx : Nat → List Nat} (h1 : ∀ n E s, E.length = L → n < L → E.getD n false = false → Sp.cf E ≤ f → (∀ x ∈ s.i, E.getD x false = true) → (s.p = [] ∨ n ∈ nx (s.p.getD (s.p.length - 1) 0)) → OnP nx L [n] E s (wOne (Sp.on nx) nx f n (E, s))) :
    ∀ (l : List Nat) E s, E.length = L → (∀ x ∈ l, x < L) → Sp.cf E ≤ f → (∀ x ∈ s.i, E.getD x false = true) → (s.p = [] ∨ ∀ x ∈ l, x ∈ nx (s.p.getD (s.p.length - 1) 0)) → OnP nx L l E s (wAll (wOne (Sp.on nx) nx f) l (E, s))
  | [], E, s, hE, hl, hf, hi, hp => ⟨rfl, Mor.refl _, by simp, [], [], by simp [wAll], by simp, rfl, by simp, by simp, fun x hx => .inl hx⟩
  | n :: l, E, s, hE, hl, hf, hi, hp => by
    rw [wAll]
    have hp' : s.p = [] ∨ ∀ x ∈ l, x ∈ nx (s.p.getD (s.p.length - 1) 0) := hp.imp_right fun h x hx => h x (by simp [hx])
    split
    · rename_i hn
      have H := on_all h1 l E s hE (fun x hx => hl x (by simp [hx])) hf hi hp'
      obtain ⟨t, u, e, nd, hlen, hm, h4, h5⟩ := H.row
      refine ⟨H.ok, H.mor, fun x hx => ?_, t, u, e, nd, hlen, hm, fun x hx => ?_, h5⟩
      · rcases List.mem_cons.1 hx with e | hx
        · rw [e]; exact H.mor.2 n hn
        · exact H.all x hx
      · obtain ⟨a, b, c, d, g⟩ := h4 x hx
        exact ⟨a, b, c, d.more (fun y hy => by simp [hy]), g⟩
    · rename_i hn
      have hn' : E.getD n false = false := by cases h : E.getD n false with | false => rfl | true => exact absurd h hn
      have H := h1 n E s hE (hl n (by simp)) hn' hf hi (hp.imp_right fun h => h n (by simp))
      rw [if_pos H.ok]
      generalize wOne (Sp.on nx) nx f n (E, s) = r at H ⊢
      obtain ⟨r1, E1, s1⟩ := r
      obtain ⟨t, u, e1, nd1, hlen1, hm1, p1, q1⟩ := H.row
      have hal := H.all
      have hmo := H.mor
      dsimp only at e1 p1 q1 hal hmo ⊢
      subst e1
      have H2 := on_all h1 l E1 ⟨s.i ++ t, s.o ++ u, s.p, s.k⟩ (hmo.1.trans hE) (fun x hx => hl x (by simp [hx])) (Nat.le_trans hmo.cf hf) (fun x hx => by
        rcases List.mem_append.1 hx with hx | hx
        · exact hmo.2 x (hi x hx)
        · exact (p1 x hx).2.2.1) hp'
      obtain ⟨t2, u2, e2, nd2, hlen2, hm2, p2, q2⟩ := H2.row
      refine ⟨H2.ok, hmo.trans H2.mor, fun x hx => ?_, t ++ t2, u ++ u2, by rw [e2]; simp, ?_, by simp [hlen1, hlen2], fun x => by rw [List.mem_append, List.mem_append, hm1, hm2], fun x hx => ?_, fun x hx => ?_⟩
      · rcases List.mem_cons.1 hx with e | hx
        · rw [e]; exact H2.mor.2 n (hal n (by simp))
        · exact H2.all x hx
      · rw [List.nodup_append]
        refine ⟨nd1, nd2, fun x hx y hy e => ?_⟩
        subst e
        have h3 := (p1 x hx).2.2.1
        rw [(p2 x hy).2.1] at h3; cases h3
      · rcases List.mem_append.1 hx with hx | hx
        · obtain ⟨a, b, c, d, g⟩ := p1 x hx
          exact ⟨a, b, H2.mor.2 x c, d.more (fun y hy => by simp at hy; simp [hy]), fun z hz => H2.mor.2 z (g z hz)⟩
        · obtain ⟨a, b, c, d, g⟩ := p2 x hx
          refine ⟨a, ?_, c, d.more (fun y hy => by simp [hy]), g⟩
          cases h : E.getD x false with
          | false => rfl
          | true => rw [hmo.2 x h] at b; cases b
      · rcases q2 x hx with h | h
        · rcases q1 x h with h | h
          · exact .inl h
          · exact .inr (by simp [h])
        · exact .inr (by simp [h])
theorem on_one {L : Nat} {nx : Nat → List Nat} (hb : ∀ i, ∀ x ∈ nx i, x < L) : ∀ f n E s, E.length = L → n < L → E.getD n false = false → Sp.cf E ≤ f → (∀ x ∈ s.i, E.getD x false = true) → (s.p = [] ∨ n ∈ nx (s.p.getD (s.p.length - 1) 0)) → OnP nx L [n] E s (wOne (Sp.on nx) nx f n (E, s))
  | 0, n, E, s, hE, hn, h0, hf, _, _ => by
    have h1 : E[n]? = some false := by
      rw [List.getD_eq_getElem?_getD] at h0
      rw [List.getElem?_eq_getElem (by omega)] at h0 ⊢
      simpa using h0
    have := cf_set h1
    omega
  | f + 1, n, E, s, hE, hn, h0, hf, hi, hp => by
    have h1 : E[n]? = some false := by
      rw [List.getD_eq_getElem?_getD] at h0
      rw [List.getElem?_eq_getElem (by omega)] at h0 ⊢
      simpa using h0
    have hc := cf_set h1
    have hni : n ∉ s.i := fun h => by rw [hi n h] at h0; cases h0
    have hk : Sp.onE nx s n = s.k := by
      unfold Sp.onE
      rw [decide_eq_false hni]
      rcases hp with hp | hp
      · rw [hp]; simp
      · rw [decide_eq_true hp]; simp
    have H := on_all (fun m E s => on_one hb f m E s) (nx n) (E.set n true) ⟨s.i ++ [n], s.o, s.p ++ [n], s.k⟩ (by simpa using hE) (hb n) (by omega) (fun x hx => by
      rcases List.mem_append.1 hx with hx | hx
      · rw [getD_set_ne (fun e : x = n => hni (e ▸ hx))]; exact hi x hx
      · simp at hx; subst hx; exact getD_set_eq (by omega)) (.inr fun x hx => by simpa using hx)
    rw [wOne]
    have he : (Sp.on nx).enter s n = (some true, ⟨s.i ++ [n], s.o, s.p ++ [n], s.k⟩) := by simp only [Sp.on]; rw [hk]
    simp only [he]
    rw [if_pos trivial, if_pos H.ok]
    generalize wAll (wOne (Sp.on nx) nx f) (nx n) (E.set n true, ⟨s.i ++ [n], s.o, s.p ++ [n], s.k⟩) = r at H ⊢
    obtain ⟨r1, E1, s1⟩ := r
    obtain ⟨t, u, e1, nd1, hlen, hm, p1, q1⟩ := H.row
    have hal := H.all
    have hmo := H.mor
    dsimp only at e1 p1 q1 hal hmo ⊢
    subst e1
    have hn1 : n ∉ t := fun h => by
      have := (p1 n h).2.1
      rw [getD_set_eq (by omega)] at this; cases this
    have hnE : E1.getD n false = true := hmo.2 n (getD_set_eq (by omega))
    have hl : Sp.onL ⟨s.i ++ [n] ++ t, s.o ++ u, s.p ++ [n], s.k⟩ n = s.k := by simp [Sp.onL]
    refine ⟨rfl, (Mor.set E n).trans hmo, fun x hx => by simp at hx; subst hx; exact hnE, n :: t, u ++ [n], ?_, ?_, by simp [hlen], fun x => ?_, fun x hx => ?_, fun x hx => ?_⟩
    · simp only [wLeave, Sp.on]; rw [hl]; simp
    · rw [List.nodup_cons]; exact ⟨hn1, nd1⟩
    · rw [List.mem_cons, List.mem_append, hm]; simp [or_comm]
    · rcases List.mem_cons.1 hx with e | hx
      · subst e
        exact ⟨hn, h0, hnE, .base (by simp) (by omega), hal⟩
      · obtain ⟨a, b, c, d, g⟩ := p1 x hx
        refine ⟨a, ?_, c, d.next, g⟩
        rwa [getD_set_ne (fun e : x = n => hn1 (e ▸ hx))] at b
    · rcases q1 x hx with h | h
      · by_cases e : x = n
        · exact .inr (by simp [e])
        · rw [getD_set_ne e] at h; exact .inl h
      · exact .inr (by simp [h])
theorem on_end {L : Nat} {nx : Nat → List Nat} (hb : ∀ i, ∀ x ∈ nx i, x < L) {ps : List Nat} (hps : ∀ x ∈ ps, x < L) : (wAll (wOne (Sp.on nx) nx L) ps (List.replicate L false, ⟨[], [], [], true⟩)).1 = some true ∧ ∃ t u, (wAll (wOne (Sp.on nx) nx L) ps (List.replicate L false, ⟨[], [], [], true⟩)).2.2 = ⟨t, u, [], true⟩ ∧ t.Nodup ∧ t.length = u.length ∧ (∀ x, x ∈ t ↔ x ∈ u) ∧ (∀ x ∈ t, x < L) ∧ ∀ x, x ∈ t ↔ Rch nx (-1) ps x := by
  have hno : ∀ x, (List.replicate L false).getD x false = false := fun x => by
    rw [List.getD_eq_getElem?_getD, List.getElem?_replicate]; split <;> rfl
  have H := on_all (on_one hb L) ps (List.replicate L false) ⟨[], [], [], true⟩ (by simp) hps (by have := cf_len (List.replicate L false); simpa using this) (by simp) (.inl rfl)
  obtain ⟨t, u, e, nd, hlen, hm, p, q⟩ := H.row
  refine ⟨H.ok, t, u, by rw [e]; simp, nd, hlen, hm, fun x hx => (p x hx).1, fun x => ⟨fun hx => (p x hx).2.2.2.1, fun hx => ?_⟩⟩
  have key : ∀ y, Rch nx (-1) ps y → (wAll (wOne (Sp.on nx) nx L) ps (List.replicate L false, ⟨[], [], [], true⟩)).2.1.getD y false = true := fun y hy => by
    induction hy with
    | base a _ => exact H.all _ a
    | step h0 a _ ih =>
      rcases q _ ih with h | h
      · rw [hno] at h; cases h
      · exact (p _ h).2.2.2.2 _ a
  rcases q x (key x hx) with h | h
  · rw [hno] at h; cases h
  · exact h
end Go.Proofs.YtikhpbidbcfedaaGreat

/- tenonref14.Has and tenonlaw14.edge: whether a node, whether an edge is among some. -/
namespace Go.Proofs.YtikhpbidbcfedaaGreat
open Go.RowKit Go.ChangeMaps

def RfV (w : World) (a : Option Addr) (l : List Int) : Prop := ∀ t x, l[t]? = some x → ∃ b o, a = some ⟨b, o, none⟩ ∧ w.cell? ⟨b, o + t, none⟩ = some (.int .u64 x)
theorem RefsAt.rfv {w : World} {B : Nat} {a : Option Addr} {l : List Int} (h : RefsAt w B a l) : RfV w a l := fun t x hx => by
  obtain ⟨b, o, e, _, h2⟩ := h.row t (.int .u64 x) (by simp [hx])
  exact ⟨b, o, e, by simpa using h2⟩
theorem NdR.rfv {w : World} {gs : Option Nat} {c : Nat} {l : List Int} (h : NdR w gs c l) : RfV w (adr gs) l := fun t x hx => by
  obtain ⟨g, rfl, h2⟩ := h.at_ hx
  exact ⟨g, 0, rfl, by simpa using h2⟩
theorem RfV.keep {w w' : World} {a : Option Addr} {l : List Int} (h : RfV w a l) (hb : Below w.heap.size w w') : RfV w' a l := fun t x hx => by
  obtain ⟨b, o, e, h2⟩ := h t x hx
  exact ⟨b, o, e, by rw [World.cell?_of_block (w := w) (hb.block b (World.block_lt_of_cell? _ _ h2))]; exact h2⟩
theorem RfV.take {w : World} {a : Option Addr} {l : List Int} (h : RfV w a l) (k : Nat) : RfV w a (l.take k) := fun t x hx => by
  rw [List.getElem?_take] at hx
  split at hx
  · exact h t x hx
  · cases hx

set_option maxRecDepth 100000 in
set_option maxHeartbeats 8000000 in
theorem rHas_any (a : Option Addr) (cap : Nat) (l : List Int) (x : Int) (w : World) (h : RfV w a l) (hl : l.length ≤ 70368744177664) :
    Calls Tryz.prog 12 #[.slice a l.length cap, .int .u64 x] w fun e w' => e = .returned (.bool (decide (x ∈ l))) ∧ Below w.heap.size w w' := by
  have H : Hid (RfV w a l) := h
  clear h
  go_enter Tryz.func12, Tryz.ntmps12
  go_wp2_with fail
  go_loopw [5] (fun v3 wr => ∃ i : Nat, v3 = .int .i64 i ∧ i ≤ l.length ∧ x ∉ l.take i ∧ Hid (Below w.heap.size w wr)) (fun v3 _ => l.length - (intOf v3).toNat)
  case atStart => exact ⟨0, rfl, Nat.zero_le _, by simp, Below.refl _ _⟩
  case round =>
    obtain ⟨i, rfl, hi, hno, HS⟩ := hrel
    by_cases hlt : i < l.length
    · have hltz : (i : Int) < (l.length : Int) := by omega
      obtain ⟨y, hy⟩ : ∃ e, l[i]? = some e := ⟨_, List.getElem?_eq_getElem hlt⟩
      obtain ⟨b, o, rfl, hc⟩ := H.out i y hy
      have hcr : wr.cell? ⟨b, o + i, none⟩ = some (.int .u64 y) := by rw [World.cell?_of_block (w := w) (HS.out.block b (World.block_lt_of_cell? _ _ hc))]; exact hc
      have hin : y = x → x ∈ l := fun e => e ▸ List.mem_of_getElem? hy
      have hnx : y ≠ x → x ∉ l.take (i + 1) := fun e => by
        rw [List.take_add_one, hy]; simp only [Option.toList, List.mem_append, List.mem_singleton]
        rintro (h | h); exact hno h; exact e h.symm
      clear hy hc hno
      by_cases hxy : y = x
      · have HIN : x ∈ l := hin hxy
        subst hxy
        clear hin hnx
        go_wp2_with fail
        go_ret
        exact ⟨by rw [decide_eq_true HIN]; rfl, HS.out⟩
      · have hnn := hnx hxy
        clear hin hnx
        go_wp2_with fail
        go_roundw
        case rel => exact ⟨i + 1, by go_num, by omega, hnn, HS.out⟩
        case measure => simp [intOf]; omega
    · obtain rfl : l.length = i := by omega
      rw [List.take_length] at hno
      go_wp2_with fail
      go_ret
      exact ⟨by rw [decide_eq_false hno]; rfl, HS.out⟩

def EgV (w : World) (a : Option Addr) (E : List (Int × Int)) : Prop := ∀ t x, E[t]? = some x → ∃ b o, a = some ⟨b, o, none⟩ ∧ w.cell? ⟨b, o + t * 2, none⟩ = some (.int .u64 x.1) ∧ w.cell? ⟨b, o + t * 2 + 1, none⟩ = some (.int .u64 x.2)
theorem EgV.keep {w w' : World} {a : Option Addr} {E : List (Int × Int)} (h : EgV w a E) (hb : Below w.heap.size w w') : EgV w' a E := fun t x hx => by
  obtain ⟨b, o, e, h2, h3⟩ := h t x hx
  exact ⟨b, o, e, by rw [World.cell?_of_block (w := w) (hb.block b (World.block_lt_of_cell? _ _ h2))]; exact h2, by rw [World.cell?_of_block (w := w) (hb.block b (World.block_lt_of_cell? _ _ h2))]; exact h3⟩
theorem EdgesAt.egv {w : World} {B : Nat} {a : Option Addr} {E : List (Int × Int)} (h : EdgesAt w B a E) : EgV w a E := fun t x hx => by
  obtain ⟨b, o, e, _, h2, h3⟩ := h.1 t x hx
  exact ⟨b, o, e, h2, h3⟩
set_option maxRecDepth 100000 in
set_option maxHeartbeats 8000000 in
theorem edge_any (a : Option Addr) (cap : Nat) (E : List (Int × Int)) (x y : Int) (w : World) (h : EgV w a E) (hl : E.length * 16 ≤ 140737488355328) :
    Calls Tryz.prog 13 #[.slice a E.length cap, .int .u64 x, .int .u64 y] w fun e w' => e = .returned (.bool (decide ((x, y) ∈ E))) ∧ Below w.heap.size w w' := by
  have H : Hid (EgV w a E) := h
  clear h
  go_enter Tryz.func13, Tryz.ntmps13
  go_wp2_with fail
  go_loopw [7] (fun v4 wr => ∃ i : Nat, v4 = .int .i64 i ∧ i ≤ E.length ∧ (x, y) ∉ E.take i ∧ Hid (Below w.heap.size w wr)) (fun v4 _ => E.length - (intOf v4).toNat)
  case atStart => exact ⟨0, rfl, Nat.zero_le _, by simp, Below.refl _ _⟩
  case round =>
    obtain ⟨i, rfl, hi, hno, HS⟩ := hrel
    by_cases hlt : i < E.length
    · have hltz : (i : Int) < (E.length : Int) := by omega
      obtain ⟨⟨x', y'⟩, hy⟩ : ∃ e, E[i]? = some e := ⟨_, List.getElem?_eq_getElem hlt⟩
      obtain ⟨b, o, rfl, hc1, hc2⟩ := H.out i (x', y') hy
      have hcr : wr.cell? ⟨b, o + i * 2, none⟩ = some (.int .u64 x') := by rw [World.cell?_of_block (w := w) (HS.out.block b (World.block_lt_of_cell? _ _ hc1))]; exact hc1
      have hcr2 : wr.cell? ⟨b, o + i * 2 + 1, none⟩ = some (.int .u64 y') := by rw [World.cell?_of_block (w := w) (HS.out.block b (World.block_lt_of_cell? _ _ hc1))]; exact hc2
      have hin : x' = x → y' = y → (x, y) ∈ E := fun e e2 => e ▸ e2 ▸ List.mem_of_getElem? hy
      have hnx : ¬ (x' = x ∧ y' = y) → (x, y) ∉ E.take (i + 1) := fun e => by
        rw [List.take_add_one, hy]; simp only [Option.toList, List.mem_append, List.mem_singleton, Prod.mk.injEq]
        rintro (h | h); exact hno h; exact e ⟨h.1.symm, h.2.symm⟩
      clear hy hc1 hc2 hno
      by_cases hxy : x' = x
      · subst hxy
        by_cases hyy : y' = y
        · have HIN := hin rfl hyy
          subst hyy
          clear hin hnx
          go_wp2_with fail
          go_ret
          exact ⟨by rw [decide_eq_true HIN]; rfl, HS.out⟩
        · have hnn := hnx (fun h => hyy h.2)
          clear hin hnx
          go_wp2_with fail
          go_roundw
          case rel => exact ⟨i + 1, by go_num, by omega, hnn, HS.out⟩
          case measure => simp [intOf]; omega
      · have hnn := hnx (fun h => hxy h.1)
        clear hin hnx
        go_wp2_with fail
        go_roundw
        case rel => exact ⟨i + 1, by go_num, by omega, hnn, HS.out⟩
        case measure => simp [intOf]; omega
    · obtain rfl : E.length = i := by omega
      rw [List.take_length] at hno
      go_wp2_with fail
      go_ret
      exact ⟨by rw [decide_eq_false hno]; rfl, HS.out⟩
end Go.Proofs.YtikhpbidbcfedaaGreat

