/- What the statements ask of pools: At of any identity; two pools side by side; more room holds more (plain). -/
import Derived.Test.YtjlhmgopmdcopaaKS28
import Derived.Test.YtjlhmgopmdcopaaKS30
import Derived.Test.YtjlhmgopmdcopaaKS7
namespace Go.Proofs.Ytjlhmgopmdcopaa
open Go.RowKit

def tRa : Tm := .mk 10 false 0 0 ByteArray.empty ByteArray.empty 0 .nil .nil ⟨#[97]⟩ 1
theorem tRa_ok : tRa.all.e = 0 ∧ tRa.cOf = ⟨#[97]⟩ ∧ tRa.vOf = 1 := ⟨by decide +kernel, rfl, rfl⟩
theorem tRa_V {w : World} {B : Nat → Prop} {rb : Nat} (hr : w.heap[rb]? = some (.cells #[.string ⟨#[97]⟩, .int .i64 1, .slice none 0 0] 63)) (hB : B rb) : tRa.V w B (.iface 32 (.pointer (some ⟨rb, 0, none⟩))) := by
  refine Tm.V_of10 (a := none) (cap := 0) hB (by rw [cell_of_row _ _ 0 _ _ _ hr]; rfl) (by rw [cell_of_row _ _ 1 _ _ _ hr]; rfl) (by rw [cell_of_row _ _ 2 _ _ _ hr]; rfl) (by decide) ⟨⟨_, hr⟩, ⟨by decide, ⟨[], rfl, .inl ⟨rfl, rfl⟩⟩, fun g o q e => by cases e⟩, ?_⟩
  simp only [TmF.V]

section
variable {w : World} {p : Nat} {fv : Value} {room : Int} {σ : Sta} {Z : List Int} {bz : Int}
theorem At_any {i : Int} (h : PS w p fv room σ Z bz) (hib : 0 < i ∧ i < 18446744073709551616) :
    Calls Try.prog 24 #[.pointer (some ⟨p, 0, none⟩), .int .u64 i] w fun e w' => ∃ b σ', e = .returned (.tuple #[.pointer (some ⟨b, 0, none⟩), .int .i64 0]) ∧ PS w' p fv room σ' Z bz ∧ Mv p Z w σ w' σ' ∧ i ∈ σ'.Kn ∧ σ'.κ i = b ∧ σ'.R = σ.R ∧ σ'.ft = σ.ft := by
  by_cases hi : i ∈ σ.Kn
  · refine (At_known h hi).mono ?_
    rintro e w' ⟨rfl, rfl⟩
    exact ⟨_, σ, rfl, h, Mv.refl _ _ _ _, hi, rfl, rfl, rfl⟩
  · refine (At_new h hi hib).mono ?_
    rintro e w' ⟨b, rfl, m, h1, h2⟩
    exact ⟨b, _, rfl, h1, h2, by simp, updK_self _ _ _, rfl, rfl⟩

/-- Class of a ghost of a pool whose fetch leaves the pool alone -/
theorem Class_eq {FF : Nat} {fcap : Array Value} {tm : Tm} {b0 : Nat} {w0 : World} {i : Int} (h : PS w p (.func (.func FF) #[] fcap) room σ [] 0) (hi : i ∈ σ.Kn) (hr : 1 ≤ room ∧ room < 1152921504606846976)
    (hcf : ∀ W, Sem.run Try.prog (callFunc FF (#[.int .u64 i] ++ fcap)) W = .ok (.enter FF (#[.int .u64 i] ++ fcap)) W) (hge : ∀ j, OwnP p σ.mp σ.κ σ.Kn j → b0 ≤ j) (hE : ∀ j, j < b0 → w.heap[j]? = w0.heap[j]?) (hRl : ((σ.R.length : Nat) : Int) ≤ room)
    (hFC : FC FF fcap p (.func (.func FF) #[] fcap) room tm b0 w0 [i] i (fun a b => b = a) 1) (ht : tm.all.e = 0 ∧ tm.cOf = ⟨#[97]⟩ ∧ tm.vOf = 1) :
    Calls Try.prog 13 #[.pointer (some ⟨σ.κ i, 0, none⟩)] w fun e w' => e = .returned (.string ⟨#[97]⟩) ∧ ∃ σ', PS w' p (.func (.func FF) #[] fcap) room σ' [] 0 ∧ Mv p [] w σ w' σ' ∧ ((∃ A B, σ.R = A ++ i :: B ∧ σ'.R = A ++ B ++ [i] ∧ σ'.ft = σ.ft) ∨ (i ∉ σ.R ∧ σ'.R = holdR room σ.R i ∧ σ'.ft = wrap64 (σ.ft + 1))) := by
  by_cases hR : i ∈ σ.R
  · obtain ⟨A, B, hAB⟩ := List.append_of_mem hR
    refine (Class_hit h hAB (by omega)).mono ?_
    rintro e w' ⟨rfl, h1, h2⟩
    exact ⟨rfl, _, h1, h2, .inl ⟨A, B, hAB, rfl, rfl⟩⟩
  · refine (Class_miss h hi hR (by simp) hr hcf hge hE hRl hFC (by omega) ht (fun σ' e => by subst e; show σ.R.length < _; omega)).mono ?_
    rintro e w' ⟨rfl, σ', rfl, h1, h2⟩
    exact ⟨rfl, _, h1, h2, .inr ⟨hR, rfl, rfl⟩⟩
end

/-- two pools side by side -/
structure Two (w0 : World) (fv : Value) (p q : Nat) (n m : Int) (σ τ : Sta) (w : World) : Prop where
  P : PS w p fv n σ [] 0
  Q : PS w q fv m τ [] 0
  gp : ∀ j, OwnP p σ.mp σ.κ σ.Kn j → w0.heap.size ≤ j
  gq : ∀ j, OwnP q τ.mp τ.κ τ.Kn j → w0.heap.size ≤ j
  dis : ∀ j, OwnP p σ.mp σ.κ σ.Kn j → ¬ OwnP q τ.mp τ.κ τ.Kn j
  bel : Below w0.heap.size w0 w
theorem Two.swap {w0 : World} {fv : Value} {p q : Nat} {n m : Int} {σ τ : Sta} {w : World} (h : Two w0 fv p q n m σ τ w) : Two w0 fv q p m n τ σ w := ⟨h.Q, h.P, h.gq, h.gp, fun j h1 h2 => h.dis j h2 h1, h.bel⟩
theorem Two.left {w0 : World} {fv : Value} {p q : Nat} {n m : Int} {σ τ σ' : Sta} {w w' : World} (h : Two w0 fv p q n m σ τ w) (h1 : PS w' p fv n σ' [] 0) (h2 : Mv p [] w σ w' σ') : Two w0 fv p q n m σ' τ w' := by
  have hs := h.bel.size
  refine ⟨h1, h.Q.keep h2.kx.size (fun j hj _ => h2.kx.block j (h.Q.ownLt hj) (fun hx => h.dis j hx.1 hj)), fun j hj => ?_, h.gq, fun j hj hq => ?_, h.bel.trans (h2.kx.below (fun j hj => h.gp j hj.1) hs)⟩
  · rcases h2.own j hj with h3 | h3
    · exact h.gp j h3
    · omega
  · rcases h2.own j hj with h3 | h3
    · exact h.dis j h3 hq
    · have := h.Q.ownLt hq; omega
theorem Two.right {w0 : World} {fv : Value} {p q : Nat} {n m : Int} {σ τ τ' : Sta} {w w' : World} (h : Two w0 fv p q n m σ τ w) (h1 : PS w' q fv m τ' [] 0) (h2 : Mv q [] w τ w' τ') : Two w0 fv p q n m σ τ' w' := (h.swap.left h1 h2).swap
theorem Two.below {w0 : World} {fv : Value} {p q : Nat} {n m : Int} {σ τ : Sta} {w w' : World} (h : Two w0 fv p q n m σ τ w) (hb : Below w.heap.size w w') : Two w0 fv p q n m σ τ w' := ⟨h.P.below hb, h.Q.below hb, h.gp, h.gq, h.dis, h.bel.trans (hb.mono h.bel.size)⟩

/-! more room holds more -/
/-- the last n of all that were used, in the order of their last uses -/
def Sfx (n : Int) (Rec R : List Int) : Prop := ∃ Y, Rec = Y ++ R ∧ (R.length : Int) ≤ n ∧ ((R.length : Int) < n → Y = [])
def Sp.recent (Rec : List Int) (i : Int) : List Int := Rec.filter (fun x => decide (x ≠ i)) ++ [i]
theorem filter_no {L : List Int} {i : Int} (h : i ∉ L) : L.filter (fun x => decide (x ≠ i)) = L := List.filter_eq_self.2 fun x hx => by simp; exact fun e => h (e ▸ hx)
theorem recent_nd {Rec : List Int} {i : Int} (h : Rec.Nodup) : (Sp.recent Rec i).Nodup := by
  unfold Sp.recent
  rw [List.nodup_append]
  exact ⟨h.filter _, by simp, fun x hx y hy e => by have h1 := (List.mem_filter.1 hx).2; have h2 := List.mem_singleton.1 hy; rw [e, h2] at h1; simp at h1⟩
theorem Sfx.hit {n : Int} {Rec R A B : List Int} {i : Int} (hn : Rec.Nodup) (h : Sfx n Rec R) (hR : R = A ++ i :: B) : Sfx n (Sp.recent Rec i) (A ++ B ++ [i]) := by
  obtain ⟨Y, h1, h2, h3⟩ := h
  have hlen : (A ++ B ++ [i]).length = R.length := by rw [hR]; simp
  refine ⟨Y, ?_, by rw [hlen]; exact h2, fun hl => h3 (by rw [hlen] at hl; exact hl)⟩
  subst hR
  rw [h1] at hn ⊢
  obtain ⟨_, nR, nYR⟩ := List.nodup_append.1 hn
  obtain ⟨_, nB, nAB⟩ := List.nodup_append.1 nR
  have hiY : i ∉ Y := fun e => nYR i e i (by simp) rfl
  have hiA : i ∉ A := fun e => nAB i e i (by simp) rfl
  have hiB : i ∉ B := (List.nodup_cons.1 nB).1
  unfold Sp.recent
  rw [List.filter_append, List.filter_append, filter_no hiY, filter_no hiA, List.filter_cons_of_neg (by simp), filter_no hiB]
  simp
theorem Sfx.miss {n : Int} {Rec R : List Int} {i : Int} (hn1 : 1 ≤ n) (h : Sfx n Rec R) (hi : i ∉ R) : Sfx n (Sp.recent Rec i) (holdR n R i) := by
  obtain ⟨Y, h1, h2, h3⟩ := h
  unfold Sp.recent holdR
  rw [h1, List.filter_append, filter_no hi]
  by_cases hr : n < ((R.length : Nat) : Int) + 1
  · rw [if_pos hr]
    cases R with
    | nil => simp at hr; omega
    | cons x R =>
      refine ⟨Y.filter (fun x => decide (x ≠ i)) ++ [x], by simp, ?_, fun hl => ?_⟩
      · simp at h2 ⊢; omega
      · simp at hl hr; omega
  · rw [if_neg hr]
    rw [h3 (by omega)]
    exact ⟨[], by simp, by simp; omega, fun _ => rfl⟩
/-- the one with less room holds the end of what the other one holds -/
theorem Sfx.two {n m : Int} {Rec X Y : List Int} (hnm : n ≤ m) (hx : Sfx n Rec X) (hy : Sfx m Rec Y) : X.length ≤ Y.length ∧ Y.drop (Y.length - X.length) = X ∧ ((X.length : Int) < n → X.length = Y.length) ∧ (∀ i ∈ X, i ∈ Y) := by
  obtain ⟨A, a1, a2, a3⟩ := hx
  obtain ⟨B, b1, b2, b3⟩ := hy
  have hl : A.length + X.length = B.length + Y.length := by
    have e1 := congrArg List.length a1; have e2 := congrArg List.length b1
    rw [List.length_append] at e1 e2; omega
  have hle : X.length ≤ Y.length := by
    rcases Nat.lt_or_ge Y.length X.length with h | h
    · have := b3 (by omega); subst this; simp at hl; omega
    · exact h
  have hd : Y.drop (Y.length - X.length) = X := by
    have e1 : Rec.drop A.length = X := by rw [a1]; simp
    have e2 : Rec.drop B.length = Y := by rw [b1]; simp
    rw [← e2, List.drop_drop, show B.length + ((Rec.drop B.length).length - X.length) = A.length from by rw [e2]; omega, e1]
  refine ⟨hle, hd, fun h => ?_, fun i hi => ?_⟩
  · have := a3 h; subst this; simp at hl
    have : B.length = 0 ∨ 0 < B.length := by omega
    omega
  · rw [← hd] at hi; exact List.mem_of_mem_drop hi
end Go.Proofs.Ytjlhmgopmdcopaa

/- tenonlaw12.LazyStack: its fetch, tenonmake.Refs, and the law. -/
namespace Go.Proofs.Ytjlhmgopmdcopaa
open Go.RowKit

set_option maxRecDepth 100000 in
set_option maxHeartbeats 2000000 in
theorem stack1_any (id : Int) (w : World) :
    Calls Try.prog 27 #[.int .u64 id] w fun e w' => FE 0 0 0 tRa w e w' ∧ Below w.heap.size w w' := by
  go_enter Try.func27, Try.ntmps27
  go_wp2_with fail
  go_ret2
  exact ⟨.inl ⟨rfl, rfl, _, rfl, fun _ => tRa_V (heap_alloc_last _ _) ⟨Nat.le_refl _, by simp⟩⟩, (Below.refl _ _).alloc (Nat.le_refl _) _⟩
def stackF : Value := .func (.func 27) #[] #[]
theorem stack_FC (p : Nat) (room : Int) (b0 : Nat) (w0 : World) (Z : List Int) (id bz : Int) : FC 27 #[] p stackF room tRa b0 w0 Z id (fun a b => b = a) bz := by
  intro W σ h _ _ _
  refine (show Calls Try.prog 27 #[.int .u64 id] W _ from (stack1_any id W).mono ?_)
  rintro e w' ⟨h1, h2⟩
  exact ⟨h1, σ, rfl, h.below h2, Mv.of (Kx.of h2) rfl rfl rfl⟩

set_option maxRecDepth 100000 in
set_option maxHeartbeats 2000000 in
theorem Refs_any (a oa b ob n c c' : Nat) (w : World) (h : ∀ k, k < n → ∃ v, w.cell? ⟨a, oa + k, none⟩ = some (.int .u64 v) ∧ w.cell? ⟨b, ob + k, none⟩ = some (.int .u64 v)) (hn : n < 1000000) :
    Calls Try.prog 28 #[.slice (some ⟨a, oa, none⟩) n c, .slice (some ⟨b, ob, none⟩) n c'] w fun e w' => e = .returned (.bool true) ∧ Below w.heap.size w w' := by
  have H : Hid (∀ k, k < n → ∃ v, w.cell? ⟨a, oa + k, none⟩ = some (.int .u64 v) ∧ w.cell? ⟨b, ob + k, none⟩ = some (.int .u64 v)) := h
  clear h
  go_enter Try.func28, Try.ntmps28
  go_wp2_with fail
  go_loopw [5] (fun x wr => ∃ k : Nat, x = .int .i64 (k : Int) ∧ k ≤ n ∧ Hid (Below w.heap.size w wr)) (fun x _ => n - (intOf x).toNat)
  case atStart => exact ⟨0, rfl, Nat.zero_le _, Below.refl _ _⟩
  case round =>
    obtain ⟨k, rfl, hk, HB⟩ := hrel
    rcases Nat.lt_or_ge k n with hlt | hge
    · obtain ⟨v, h1, h2⟩ := H.out k hlt
      have c1 : wr.cell? ⟨a, oa + k, none⟩ = some (.int .u64 v) := by rw [HB.out.cell (p := ⟨a, oa + k, none⟩) (World.block_lt_of_cell? _ _ h1)]; exact h1
      have c2 : wr.cell? ⟨b, ob + k, none⟩ = some (.int .u64 v) := by rw [HB.out.cell (p := ⟨b, ob + k, none⟩) (World.block_lt_of_cell? _ _ h2)]; exact h2
      have hi0 : (0 : Int) ≤ (k : Int) := by omega
      have hi1 : (k : Int) < (n : Int) := by omega
      have hw1 : IntKind.i64.wrap ((k : Int) + 1) = (k : Int) + 1 := by rw [IntKind.wrap_i64]; omega
      clear h1 h2
      go_wp2_with fail
      go_region
      have HB1 : Hid (Below w.heap.size w wr.drew) := HB.out.drew
      generalize wr.drew = w1 at HB1 ⊢
      go_wp2_with fail
      exact ⟨⟨k + 1, by simp, by omega, HB1⟩, by simp [intOf]; omega⟩
    · have hi1 : ¬ (k : Int) < (n : Int) := by omega
      go_wp2_with fail
      go_ret
      exact ⟨rfl, HB.out⟩

set_option maxRecDepth 100000 in
set_option maxHeartbeats 2000000 in
theorem Fetched_any {w : World} {p : Nat} {fv : Value} {room : Int} {σ : Sta} {Z : List Int} {bz : Int} (h : PS w p fv room σ Z bz) : Calls Try.prog 29 #[.pointer (some ⟨p, 0, none⟩)] w fun e w' => e = .returned (.int .i64 σ.ft) ∧ w = w' := by
  have c7 := h.pool.c7
  clear h
  go_enter Try.func29, Try.ntmps29
  go_wp2_with fail
  go_ret
  exact ⟨rfl, rfl⟩

/-- what holds between two rounds -/
structure SI (w0 : World) (p q : Nat) (n m : Int) (k : Nat) (σ τ : Sta) (w : World) : Prop where
  two : Two w0 stackF p q n m σ τ w
  ex : ∃ Rec, Rec.Nodup ∧ Sfx n Rec σ.R ∧ Sfx m Rec τ.R
  ft : 0 ≤ τ.ft ∧ τ.ft ≤ σ.ft ∧ σ.ft ≤ k

/-- identities, as they are handed in -/
def RefIn (w : World) (a : Option Addr) (len : Nat) : Prop := ∀ i, i < len → ∃ g o v, a = some ⟨g, o, none⟩ ∧ g < w.heap.size ∧ w.cell? ⟨g, o + i, none⟩ = some (.int .u64 v) ∧ 0 ≤ v ∧ v < 18446744073709551616
end Go.Proofs.Ytjlhmgopmdcopaa

/- tenonlaw12.LazyStack returns true, whatever is used in whatever order. -/
namespace Go.Proofs.Ytjlhmgopmdcopaa
open Go.RowKit

theorem add_none' (b o n : Nat) : (⟨b, o, none⟩ : Addr).add n = ⟨b, o + n, none⟩ := by
  unfold Addr.add; split
  · rename_i h; rw [h]; rfl
  · rfl

set_option maxRecDepth 100000 in
set_option maxHeartbeats 8000000 in
theorem LazyStack_any (less more : Int) (a : Option Addr) (len cap : Nat) (w : World) (hl : 0 ≤ less ∧ less ≤ 255) (hm : 0 ≤ more ∧ more ≤ 255) (ha : RefIn w a len) (hlen : len < 4611686018427387904) :
    Calls Try.prog 6 #[.int .u8 less, .int .u8 more, .slice a len cap] w fun e w' => e = .returned (.bool true) ∧ Below w.heap.size w w' := by
  have HLv : Hid (∀ W, Calls Try.prog 7 #[] W fun e w' => e = .returned (.bool true) ∧ Below W.heap.size W w') := lives12_any
  have HA : Hid (RefIn w a len) := ha
  have HLn : Hid (len < 4611686018427387904) := hlen
  clear ha hlen
  go_enter Try.func6, Try.ntmps6
  go_wp2_with fail
  refine (HLv.out _).mono ?_
  rintro e u1 ⟨rfl, hb1⟩
  have HB1 : Hid (Below w.heap.size w u1) := hb1
  clear hb1 HLv
  go_wp2_with fail
  have hn1 : 1 ≤ less % 9 + 1 ∧ less % 9 + 1 ≤ 9 := by omega
  generalize less % 9 + 1 = n at hn1 ⊢
  refine (NewPool_any n _ _ u1 hn1.1 (by omega)).mono ?_
  rintro e u2 ⟨rfl, hp2, hb2⟩
  have HP2 : Hid (PS u2 u1.heap.size stackF n ⟨fun _ => 0, [], [], none, 0⟩ [] 0 ∧ Below u1.heap.size u1 u2) := ⟨hp2, hb2⟩
  clear hp2 hb2
  have hm9 : 0 ≤ more % 9 ∧ more % 9 ≤ 8 := by omega
  have hwn : IntKind.i64.wrap (n + more % 9) = n + more % 9 := by rw [IntKind.wrap_i64]; omega
  go_wp2_with fail
  have hm1 : n ≤ n + more % 9 ∧ n + more % 9 ≤ 17 := by omega
  clear hwn
  generalize n + more % 9 = m at hm1 ⊢
  refine (NewPool_any m _ _ u2 (by omega) (by omega)).mono ?_
  rintro e u3 ⟨rfl, hp3, hb3⟩
  have hpl : u1.heap.size < u2.heap.size := HP2.out.1.pool.lt
  have HT : Hid (SI w u1.heap.size u2.heap.size n m 0 ⟨fun _ => 0, [], [], none, 0⟩ ⟨fun _ => 0, [], [], none, 0⟩ u3) := by
    have h1 := HB1.out.size
    have h2 := HP2.out.2
    have own : ∀ (r j : Nat), OwnP r (none : Option Nat) (fun _ => 0) [] j → j = r := fun r j hj => by
      rcases hj with e | e | ⟨x, hx, _⟩
      · exact e
      · cases e
      · cases hx
    refine ⟨⟨HP2.out.1.below hb3, hp3, fun j hj => ?_, fun j hj => ?_, fun j hj hq => ?_, HB1.out.trans ((h2.trans (hb3.mono h2.size)).mono h1)⟩, ⟨[], List.nodup_nil, ⟨[], rfl, by simp; omega, fun _ => rfl⟩, ⟨[], rfl, by simp; omega, fun _ => rfl⟩⟩, by simp⟩
    · rw [own _ j hj]; exact h1
    · rw [own _ j hj]; omega
    · have e1 := own _ j hj; have e2 := own _ j hq; omega
  clear hp3 hb3
  generalize u1.heap.size = pb at HT HP2 hpl ⊢
  generalize u2.heap.size = qb at HT hpl ⊢
  have eq1 : ∀ b W, (binOp .eql 55 (.pointer (some ⟨b, 0, none⟩)) (.pointer none)).run Try.prog W = .ok (.bool false) W := fun b W => by kernel_rfl
  have eq2 : ∀ b x y W, (eqGuard .eql 55 x y (.pointer (some ⟨b, 0, none⟩)) (.pointer none)).run Try.prog W = .ok () W := fun b x y W => by kernel_rfl
  clear HP2 HB1 hm9 hl hm
  go_wp2_with fail
  go_loopw [13] (fun x wr => ∃ (k : Nat) (σ τ : Sta), x = .int .i64 (k : Int) ∧ k ≤ len ∧ Hid (SI w pb qb n m k σ τ wr)) (fun x _ => len - (intOf x).toNat)
  case atStart => exact ⟨0, _, _, rfl, Nat.zero_le _, HT.out⟩
  case round =>
    obtain ⟨k, σ, τ, rfl, hkl, HS⟩ := hrel
    have HLl := HLn.out
    rcases Nat.lt_or_ge k len with hlt | hge
    · obtain ⟨ga, oa, v, rfl, hgl, cv, hv0, hv1⟩ := HA.out k hlt
      have y0 : wr.cell? ⟨ga, oa + k, none⟩ = some (.int .u64 v) := by rw [HS.out.two.bel.cell (p := ⟨ga, oa + k, none⟩) hgl]; exact cv
      have hi0 : (0 : Int) ≤ (k : Int) := by omega
      have hi1 : (k : Int) < (len : Int) := by omega
      have hw1 : IntKind.i64.wrap ((k : Int) + 1) = (k : Int) + 1 := by rw [IntKind.wrap_i64]; omega
      clear cv hgl
      go_wp2_with fail
      have hid : 0 < v % 30 + 1 ∧ v % 30 + 1 < 18446744073709551616 := by omega
      generalize v % 30 + 1 = i at hid ⊢
      clear y0 hv0 hv1
      refine (At_any HS.out.two.P hid).mono ?_
      rintro e w1 ⟨b1, σ1, rfl, p1, m1, ki1, kb1, r1, f1⟩
      have HT1 : Hid (Two w stackF pb qb n m σ1 τ w1 ∧ i ∈ σ1.Kn ∧ σ1.κ i = b1 ∧ σ1.R = σ.R ∧ σ1.ft = σ.ft) := ⟨HS.out.two.left p1 m1, ki1, kb1, r1, f1⟩
      clear p1 m1 ki1 kb1 r1 f1
      go_wp2_with fail
      refine (At_any HT1.out.1.Q hid).mono ?_
      rintro e w2 ⟨b2, τ1, rfl, p1, m1, ki1, kb1, r1, f1⟩
      have HT2 : Hid (Two w stackF pb qb n m σ1 τ1 w2 ∧ i ∈ τ1.Kn ∧ τ1.κ i = b2 ∧ τ1.R = τ.R ∧ τ1.ft = τ.ft) := ⟨HT1.out.1.right p1 m1, ki1, kb1, r1, f1⟩
      clear p1 m1 ki1 kb1 r1 f1
      obtain ⟨Rec, hrn, hsx, hsy⟩ := HS.out.ex
      have HRec : Hid (Rec.Nodup ∧ Sfx n Rec σ.R ∧ Sfx m Rec τ.R) := ⟨hrn, hsx, hsy⟩
      have hxl : ((σ.R.length : Nat) : Int) ≤ n := by obtain ⟨_, _, h, _⟩ := hsx; exact h
      have hyl : ((τ.R.length : Nat) : Int) ≤ m := by obtain ⟨_, _, h, _⟩ := hsy; exact h
      have HC1 : Hid (Calls Try.prog 13 #[.pointer (some ⟨b1, 0, none⟩)] w2 fun e w' => e = .returned (.string ⟨#[97]⟩) ∧ ∃ σ', PS w' pb stackF n σ' [] 0 ∧ Mv pb [] w2 σ1 w' σ' ∧ ((∃ A B, σ1.R = A ++ i :: B ∧ σ'.R = A ++ B ++ [i] ∧ σ'.ft = σ1.ft) ∨ (i ∉ σ1.R ∧ σ'.R = holdR n σ1.R i ∧ σ'.ft = wrap64 (σ1.ft + 1)))) := by
        rw [← HT1.out.2.2.1]
        exact Class_eq (b0 := 0) (w0 := w) HT2.out.1.P HT1.out.2.1 (by omega) (fun W => by kernel_rfl) (fun j _ => Nat.zero_le _) (fun j hj => by omega) (by rw [HT1.out.2.2.2.1]; exact hxl) (stack_FC pb n 0 w [i] i 1) tRa_ok
      have HC2 : Hid (∀ W σ', Two w stackF pb qb n m σ' τ1 W → Calls Try.prog 13 #[.pointer (some ⟨b2, 0, none⟩)] W fun e w' => e = .returned (.string ⟨#[97]⟩) ∧ ∃ τ', PS w' qb stackF m τ' [] 0 ∧ Mv qb [] W τ1 w' τ' ∧ ((∃ A B, τ1.R = A ++ i :: B ∧ τ'.R = A ++ B ++ [i] ∧ τ'.ft = τ1.ft) ∨ (i ∉ τ1.R ∧ τ'.R = holdR m τ1.R i ∧ τ'.ft = wrap64 (τ1.ft + 1)))) := fun W σ' hW => by
        rw [← HT2.out.2.2.1]
        exact Class_eq (b0 := 0) (w0 := w) hW.Q HT2.out.2.1 (by omega) (fun W => by kernel_rfl) (fun j _ => Nat.zero_le _) (fun j hj => by omega) (by rw [HT2.out.2.2.2.1]; exact hyl) (stack_FC qb m 0 w [i] i 1) tRa_ok
      clear hrn hsx hsy hxl hyl
      go_wp2_with fail
      refine HC1.out.mono ?_
      rintro e w3 ⟨rfl, σ2, p1, m1, hc1⟩
      have HT3 : Hid (Two w stackF pb qb n m σ2 τ1 w3 ∧ ((∃ A B, σ1.R = A ++ i :: B ∧ σ2.R = A ++ B ++ [i] ∧ σ2.ft = σ1.ft) ∨ (i ∉ σ1.R ∧ σ2.R = holdR n σ1.R i ∧ σ2.ft = wrap64 (σ1.ft + 1)))) := ⟨HT2.out.1.left p1 m1, hc1⟩
      clear p1 m1 hc1 HC1
      go_wp2_with fail
      refine (HC2.out w3 σ2 HT3.out.1).mono ?_
      rintro e w4 ⟨rfl, τ2, p1, m1, hc1⟩
      have HT4 : Hid (Two w stackF pb qb n m σ2 τ2 w4 ∧ ((∃ A B, τ1.R = A ++ i :: B ∧ τ2.R = A ++ B ++ [i] ∧ τ2.ft = τ1.ft) ∨ (i ∉ τ1.R ∧ τ2.R = holdR m τ1.R i ∧ τ2.ft = wrap64 (τ1.ft + 1)))) := ⟨HT3.out.1.right p1 m1, hc1⟩
      clear p1 m1 hc1 HC2
      -- what it comes to
      have HF : Hid ((∃ Rec, Rec.Nodup ∧ Sfx n Rec σ2.R ∧ Sfx m Rec τ2.R) ∧ 0 ≤ τ2.ft ∧ τ2.ft ≤ σ2.ft ∧ σ2.ft ≤ ((k + 1 : Nat) : Int)) := by
        obtain ⟨hrn, hsx, hsy⟩ := HRec.out
        obtain ⟨_, _, _, hR1, hf1⟩ := HT1.out
        obtain ⟨_, _, _, hR2, hf2⟩ := HT2.out
        have hft := HS.out.ft
        have hsub := (Sfx.two hm1.1 hsx hsy).2.2.2
        have hwr : ∀ x : Int, 0 ≤ x → x ≤ k → wrap64 (x + 1) = x + 1 := fun x h1 h2 => by unfold wrap64; omega
        rcases HT3.out.2 with ⟨A, B, e1, e2, e3⟩ | ⟨e1, e2, e3⟩ <;> rcases HT4.out.2 with ⟨C, D, d1, d2, d3⟩ | ⟨d1, d2, d3⟩
        · rw [hR1] at e1; rw [hR2] at d1
          refine ⟨⟨_, recent_nd (i := i) hrn, by rw [e2]; exact hsx.hit hrn e1, by rw [d2]; exact hsy.hit hrn d1⟩, ?_⟩
          rw [e3, d3, hf1, hf2]; push_cast; omega
        · rw [hR1] at e1; rw [hR2] at d1
          exact absurd (hsub i (by rw [e1]; simp)) d1
        · rw [hR1] at e1 e2; rw [hR2] at d1
          refine ⟨⟨_, recent_nd (i := i) hrn, by rw [e2]; exact hsx.miss (by omega) e1, by rw [d2]; exact hsy.hit hrn d1⟩, ?_⟩
          rw [e3, d3, hf1, hf2, hwr σ.ft (by omega) (by omega)]; push_cast; omega
        · rw [hR1] at e1 e2; rw [hR2] at d1 d2
          refine ⟨⟨_, recent_nd (i := i) hrn, by rw [e2]; exact hsx.miss (by omega) e1, by rw [d2]; exact hsy.miss (by omega) d1⟩, ?_⟩
          rw [e3, d3, hf1, hf2, hwr σ.ft (by omega) (by omega), hwr τ.ft (by omega) (by omega)]; push_cast; omega
      obtain ⟨Rec2, hrn2, hx2, hy2⟩ := HF.out.1
      obtain ⟨hle, hdrop, hfew, _⟩ := Sfx.two hm1.1 hx2 hy2
      have hxl : ((σ2.R.length : Nat) : Int) ≤ n := by obtain ⟨_, _, h, _⟩ := hx2; exact h
      have hyl : ((τ2.R.length : Nat) : Int) ≤ m := by obtain ⟨_, _, h, _⟩ := hy2; exact h
      have HD : Hid (τ2.R.drop (τ2.R.length - σ2.R.length) = σ2.R) := hdrop
      have HH1 : Hid (Calls Try.prog 23 #[.pointer (some ⟨pb, 0, none⟩)] w4 fun e w' => ∃ b cap, e = .returned (.slice (some ⟨b, 0, none⟩) σ2.R.length cap) ∧ w'.ownsRow w4.heap.size 25 1 (.slice (some ⟨b, 0, none⟩) σ2.R.length cap) σ2.R.length (refs σ2.R) ∧ Below w4.heap.size w4 w') := Held_any HT4.out.1.P (by omega)
      have HH2 : Hid (∀ W, Below w4.heap.size w4 W → Calls Try.prog 23 #[.pointer (some ⟨qb, 0, none⟩)] W fun e w' => ∃ b cap, e = .returned (.slice (some ⟨b, 0, none⟩) τ2.R.length cap) ∧ w'.ownsRow W.heap.size 25 1 (.slice (some ⟨b, 0, none⟩) τ2.R.length cap) τ2.R.length (refs τ2.R) ∧ Below W.heap.size W w') := fun W hW => Held_any (HT4.out.1.below hW).Q (by omega)
      have HT4L : Hid ((∃ A B, σ1.R = A ++ i :: B ∧ σ2.R = A ++ B ++ [i] ∧ σ2.ft = σ1.ft) ∨ (i ∉ σ1.R ∧ σ2.R = holdR n σ1.R i ∧ σ2.ft = wrap64 (σ1.ft + 1))) := HT3.out.2
      clear hrn2 hx2 hy2 hdrop HT1 HT2 HT3 HRec
      go_wp2_with fail
      refine HH1.out.mono ?_
      rintro e w5 ⟨bx, cx, rfl, ox, hb5⟩
      have H5 : Hid (w5.ownsRow w4.heap.size 25 1 (.slice (some ⟨bx, 0, none⟩) σ2.R.length cx) σ2.R.length (refs σ2.R) ∧ Below w4.heap.size w4 w5) := ⟨ox, hb5⟩
      clear ox hb5 HH1
      go_wp2_with fail
      refine (HH2.out w5 H5.out.2).mono ?_
      rintro e w6 ⟨by', cy, rfl, oy, hb6⟩
      have hcy : τ2.R.length ≤ cy := by
        rcases oy.2 with ⟨e, _⟩ | ⟨g2, c2, cur, e, _, _, h1, _⟩
        · cases e
        · injection e with _ _ e; subst e; exact h1
      have H6 : Hid (Below w4.heap.size w4 w6 ∧ ∀ q, q < σ2.R.length → ∃ v, w6.cell? ⟨bx, 0 + q, none⟩ = some (.int .u64 v) ∧ w6.cell? ⟨by', τ2.R.length - σ2.R.length + q, none⟩ = some (.int .u64 v)) := by
        refine ⟨H5.out.2.trans (hb6.mono H5.out.2.size), fun q hq => ⟨σ2.R[q], ?_, ?_⟩⟩
        · have h1 := (owns_below hb6 H5.out.1).cells (g := bx) rfl q (.int .u64 σ2.R[q]) (by simp [refs])
          rw [add_none'] at h1; exact h1
        · have hd := HD.out
          have h2 : (refs τ2.R)[τ2.R.length - σ2.R.length + q]? = some (.int .u64 σ2.R[q]) := by
            have : (τ2.R.drop (τ2.R.length - σ2.R.length))[q]? = some σ2.R[q] := by rw [hd]; exact List.getElem?_eq_getElem hq
            rw [List.getElem?_drop] at this
            simp [refs, this]
          have h1 := oy.cells (g := by') rfl _ _ h2
          rw [add_none'] at h1; simpa using h1
      clear oy hb6 HH2
      have hly : τ2.R.length < 1000 := by omega
      have hx1 : 1 ≤ σ2.R.length := by
        rcases HT4L.out with ⟨A, B, _, e2, _⟩ | ⟨_, e2, _⟩
        · rw [e2]; simp only [List.length_append, List.length_singleton]; omega
        · obtain ⟨A, hA⟩ := holdR_last n σ1.R i (by omega)
          rw [e2, hA]; simp only [List.length_append, List.length_singleton]; omega
      generalize hlx : σ2.R.length = lx at H6 hle hfew hxl hx1 ⊢
      generalize hlz : τ2.R.length = ly at H6 hle hfew hyl hcy hly ⊢
      have t1 : ¬ (ly : Int) < (lx : Int) := by omega
      have hw3 : IntKind.i64.wrap ((ly : Int) - (lx : Int)) = ((ly - lx : Nat) : Int) := by rw [IntKind.wrap_i64]; omega
      have s1 : (0 : Int) ≤ ((ly - lx : Nat) : Int) := by omega
      have s2 : ((ly - lx : Nat) : Int) ≤ (ly : Int) := by omega
      have s3 : ¬ cy = ly - lx := by omega
      have s4 : (cy == ly - lx) = false := by simp; omega
      have s5 : ly - (ly - lx) = lx := by omega
      have HRf : Hid (∀ c', Calls Try.prog 28 #[.slice (some ⟨bx, 0, none⟩) lx cx, .slice (some ⟨by', ly - lx, none⟩) lx c'] w6 fun e w' => e = .returned (.bool true) ∧ Below w6.heap.size w6 w') := fun c' => Refs_any bx 0 by' (ly - lx) lx cx c' w6 H6.out.2 (by omega)
      clear hlx hlz
      go_wp2_with fail
      refine (HRf.out _).mono ?_
      rintro e w7 ⟨rfl, hb7⟩
      have HEnd : Hid (SI w pb qb n m (k + 1) σ2 τ2 w7) := ⟨HT4.out.1.below (H6.out.1.trans (hb7.mono H6.out.1.size)), HF.out.1, HF.out.2⟩
      clear hb7 HRf
      by_cases hfw : (lx : Int) < n
      · have hlq : (lx : Int) = (ly : Int) := by have := hfew hfw; omega
        have hlq2 : lx = ly := by omega
        subst hlq2
        go_wp2_with fail
        exact ⟨⟨k + 1, σ2, τ2, by simp, by omega, HEnd⟩, by simp [intOf]; omega⟩
      · go_wp2_with fail
        exact ⟨⟨k + 1, σ2, τ2, by simp, by omega, HEnd⟩, by simp [intOf]; omega⟩
    · have hi1 : ¬ (k : Int) < (len : Int) := by omega
      have HP : Hid (Calls Try.prog 29 #[.pointer (some ⟨pb, 0, none⟩)] wr fun e w' => e = .returned (.int .i64 σ.ft) ∧ wr = w') := Fetched_any HS.out.two.P
      have HQ : Hid (Calls Try.prog 29 #[.pointer (some ⟨qb, 0, none⟩)] wr fun e w' => e = .returned (.int .i64 τ.ft) ∧ wr = w') := Fetched_any HS.out.two.Q
      have hft : τ.ft ≤ σ.ft := HS.out.ft.2.1
      generalize σ.ft = f1 at HP hft
      generalize τ.ft = f2 at HQ hft
      go_wp2_with fail
      refine HP.out.mono ?_
      rintro e w' ⟨rfl, rfl⟩
      go_wp2_with fail
      refine HQ.out.mono ?_
      rintro e w' ⟨rfl, rfl⟩
      go_wp2_with fail
      go_ret
      exact ⟨rfl, HS.out.two.bel⟩
end Go.Proofs.Ytjlhmgopmdcopaa

