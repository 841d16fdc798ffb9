/- What the statements ask of pools: At of any identity; two pools side by side; more room holds more (plain). -/
import Derived.Test.YtjlhmgopmdcopaaKR28
import Derived.Test.YtjlhmgopmdcopaaKR30
import Derived.Test.YtjlhmgopmdcopaaKR7
import Derived.Deep.RegionHeld3
namespace Go.Proofs.Ytjlhmgopmdcopaa
open Go.RowKit

def tRa : Tm := .mk 10 false 0 0 ByteArray.empty ByteArray.empty 0 .nil .nil ⟨#[97]⟩ 1
theorem tRa_ok : tRa.all.e = 0 ∧ tRa.cOf = ⟨#[97]⟩ ∧ tRa.vOf = 1 := ⟨by decide +kernel, rfl, rfl⟩
theorem tRa_V {w : World} {B : Nat → Prop} {rb : Nat} (hr : w.heap[rb]? = some (.cells #[.string ⟨#[97]⟩, .int .i64 1, .slice none 0 0] 63)) (hB : B rb) : tRa.V w B (.iface 32 (.pointer (some ⟨rb, 0, none⟩))) := by
  refine Tm.V_of10 (a := none) (cap := 0) hB (by rw [cell_of_row _ _ 0 _ _ _ hr]; rfl) (by rw [cell_of_row _ _ 1 _ _ _ hr]; rfl) (by rw [cell_of_row _ _ 2 _ _ _ hr]; rfl) (by decide) ⟨⟨_, hr⟩, ⟨by decide, ⟨[], rfl, .inl ⟨rfl, rfl⟩⟩, fun g o q e => by cases e⟩, ?_⟩
  simp only [TmF.V]

section
variable {w : World} {p : Nat} {fv : Value} {room : Int} {σ : Sta} {Z : List Int} {bz : Int}
theorem At_any {i : Int} (h : PS w p fv room σ Z bz) (hib : 0 < i ∧ i < 18446744073709551616) :
    Calls Try.prog 24 #[.pointer (some ⟨p, 0, none⟩), .int .u64 i] w fun e w' => ∃ b σ', e = .returned (.tuple #[.pointer (some ⟨b, 0, none⟩), .int .i64 0]) ∧ PS w' p fv room σ' Z bz ∧ Mv p Z w σ w' σ' ∧ i ∈ σ'.Kn ∧ σ'.κ i = b ∧ σ'.R = σ.R ∧ σ'.ft = σ.ft := by
  by_cases hi : i ∈ σ.Kn
  · refine (At_known h hi).mono ?_
    rintro e w' ⟨rfl, rfl⟩
    exact ⟨_, σ, rfl, h, Mv.refl _ _ _ _, hi, rfl, rfl, rfl⟩
  · refine (At_new h hi hib).mono ?_
    rintro e w' ⟨b, rfl, m, h1, h2⟩
    exact ⟨b, _, rfl, h1, h2, by simp, updK_self _ _ _, rfl, rfl⟩

end

/-- two pools side by side -/
structure Two (w0 : World) (fv : Value) (p q : Nat) (n m : Int) (σ τ : Sta) (w : World) : Prop where
  P : PS w p fv n σ [] 0
  Q : PS w q fv m τ [] 0
  gp : ∀ j, OwnP p σ.mp σ.κ σ.Kn j → w0.heap.size ≤ j
  gq : ∀ j, OwnP q τ.mp τ.κ τ.Kn j → w0.heap.size ≤ j
  dis : ∀ j, OwnP p σ.mp σ.κ σ.Kn j → ¬ OwnP q τ.mp τ.κ τ.Kn j
  bel : Below w0.heap.size w0 w
theorem Two.swap {w0 : World} {fv : Value} {p q : Nat} {n m : Int} {σ τ : Sta} {w : World} (h : Two w0 fv p q n m σ τ w) : Two w0 fv q p m n τ σ w := ⟨h.Q, h.P, h.gq, h.gp, fun j h1 h2 => h.dis j h2 h1, h.bel⟩
theorem Two.left {w0 : World} {fv : Value} {p q : Nat} {n m : Int} {σ τ σ' : Sta} {w w' : World} (h : Two w0 fv p q n m σ τ w) (h1 : PS w' p fv n σ' [] 0) (h2 : Mv p [] w σ w' σ') : Two w0 fv p q n m σ' τ w' := by
  have hs := h.bel.size
  refine ⟨h1, h.Q.keep h2.kx.size (fun j hj _ => h2.kx.block j (h.Q.ownLt hj) (fun hx => h.dis j hx.1 hj)), fun j hj => ?_, h.gq, fun j hj hq => ?_, h.bel.trans (h2.kx.below (fun j hj => h.gp j hj.1) hs)⟩
  · rcases h2.own j hj with h3 | h3
    · exact h.gp j h3
    · omega
  · rcases h2.own j hj with h3 | h3
    · exact h.dis j h3 hq
    · have := h.Q.ownLt hq; omega
theorem Two.right {w0 : World} {fv : Value} {p q : Nat} {n m : Int} {σ τ τ' : Sta} {w w' : World} (h : Two w0 fv p q n m σ τ w) (h1 : PS w' q fv m τ' [] 0) (h2 : Mv q [] w τ w' τ') : Two w0 fv p q n m σ τ' w' := (h.swap.left h1 h2).swap
theorem Two.below {w0 : World} {fv : Value} {p q : Nat} {n m : Int} {σ τ : Sta} {w w' : World} (h : Two w0 fv p q n m σ τ w) (hb : Below w.heap.size w w') : Two w0 fv p q n m σ τ w' := ⟨h.P.below hb, h.Q.below hb, h.gp, h.gq, h.dis, h.bel.trans (hb.mono h.bel.size)⟩

/-! more room holds more -/
/-- the last n of all that were used, in the order of their last uses -/
def Sfx (n : Int) (Rec R : List Int) : Prop := ∃ Y, Rec = Y ++ R ∧ (R.length : Int) ≤ n ∧ ((R.length : Int) < n → Y = [])
def Sp.recent (Rec : List Int) (i : Int) : List Int := Rec.filter (fun x => decide (x ≠ i)) ++ [i]
theorem filter_no {L : List Int} {i : Int} (h : i ∉ L) : L.filter (fun x => decide (x ≠ i)) = L := List.filter_eq_self.2 fun x hx => by simp; exact fun e => h (e ▸ hx)
theorem Sfx.hit {n : Int} {Rec R A B : List Int} {i : Int} (hn : Rec.Nodup) (h : Sfx n Rec R) (hR : R = A ++ i :: B) : Sfx n (Sp.recent Rec i) (A ++ B ++ [i]) := by
  obtain ⟨Y, h1, h2, h3⟩ := h
  have hlen : (A ++ B ++ [i]).length = R.length := by rw [hR]; simp
  refine ⟨Y, ?_, by rw [hlen]; exact h2, fun hl => h3 (by rw [hlen] at hl; exact hl)⟩
  subst hR
  rw [h1] at hn ⊢
  obtain ⟨_, nR, nYR⟩ := List.nodup_append.1 hn
  obtain ⟨_, nB, nAB⟩ := List.nodup_append.1 nR
  have hiY : i ∉ Y := fun e => nYR i e i (by simp) rfl
  have hiA : i ∉ A := fun e => nAB i e i (by simp) rfl
  have hiB : i ∉ B := (List.nodup_cons.1 nB).1
  unfold Sp.recent
  rw [List.filter_append, List.filter_append, filter_no hiY, filter_no hiA, List.filter_cons_of_neg (by simp), filter_no hiB]
  simp
theorem Sfx.miss {n : Int} {Rec R : List Int} {i : Int} (hn1 : 1 ≤ n) (h : Sfx n Rec R) (hi : i ∉ R) : Sfx n (Sp.recent Rec i) (holdR n R i) := by
  obtain ⟨Y, h1, h2, h3⟩ := h
  unfold Sp.recent holdR
  rw [h1, List.filter_append, filter_no hi]
  by_cases hr : n < ((R.length : Nat) : Int) + 1
  · rw [if_pos hr]
    cases R with
    | nil => simp at hr; omega
    | cons x R =>
      refine ⟨Y.filter (fun x => decide (x ≠ i)) ++ [x], by simp, ?_, fun hl => ?_⟩
      · simp at h2 ⊢; omega
      · simp at hl hr; omega
  · rw [if_neg hr]
    rw [h3 (by omega)]
    exact ⟨[], by simp, by simp; omega, fun _ => rfl⟩
/-- the one with less room holds the end of what the other one holds -/
theorem Sfx.two {n m : Int} {Rec X Y : List Int} (hnm : n ≤ m) (hx : Sfx n Rec X) (hy : Sfx m Rec Y) : X.length ≤ Y.length ∧ Y.drop (Y.length - X.length) = X ∧ ((X.length : Int) < n → X.length = Y.length) ∧ (∀ i ∈ X, i ∈ Y) := by
  obtain ⟨A, a1, a2, a3⟩ := hx
  obtain ⟨B, b1, b2, b3⟩ := hy
  have hl : A.length + X.length = B.length + Y.length := by
    have e1 := congrArg List.length a1; have e2 := congrArg List.length b1
    rw [List.length_append] at e1 e2; omega
  have hle : X.length ≤ Y.length := by
    rcases Nat.lt_or_ge Y.length X.length with h | h
    · have := b3 (by omega); subst this; simp at hl; omega
    · exact h
  have hd : Y.drop (Y.length - X.length) = X := by
    have e1 : Rec.drop A.length = X := by rw [a1]; simp
    have e2 : Rec.drop B.length = Y := by rw [b1]; simp
    rw [← e2, List.drop_drop, show B.length + ((Rec.drop B.length).length - X.length) = A.length from by rw [e2]; omega, e1]
  refine ⟨hle, hd, fun h => ?_, fun i hi => ?_⟩
  · have := a3 h; subst this; simp at hl
    have : B.length = 0 ∨ 0 < B.length := by omega
    omega
  · rw [← hd] at hi; exact List.mem_of_mem_drop hi
end Go.Proofs.Ytjlhmgopmdcopaa

/- tenonlaw12.LazyStack: its fetch, tenonmake.Refs, and the law. -/
namespace Go.Proofs.Ytjlhmgopmdcopaa
open Go.RowKit

def stackF : Value := .func (.func 27) #[] #[]
/-- what holds between two rounds -/
structure SI (w0 : World) (p q : Nat) (n m : Int) (k : Nat) (σ τ : Sta) (w : World) : Prop where
  two : Two w0 stackF p q n m σ τ w
  ex : ∃ Rec, Rec.Nodup ∧ Sfx n Rec σ.R ∧ Sfx m Rec τ.R
  ft : 0 ≤ τ.ft ∧ τ.ft ≤ σ.ft ∧ σ.ft ≤ k

/-- identities, as they are handed in -/
def RefIn (w : World) (a : Option Addr) (len : Nat) : Prop := ∀ i, i < len → ∃ g o v, a = some ⟨g, o, none⟩ ∧ g < w.heap.size ∧ w.cell? ⟨g, o + i, none⟩ = some (.int .u64 v) ∧ 0 ≤ v ∧ v < 18446744073709551616
end Go.Proofs.Ytjlhmgopmdcopaa

/- tenonlaw12.LazyStack returns true, whatever is used in whatever order. -/
namespace Go.Proofs.Ytjlhmgopmdcopaa
open Go.RowKit

end Go.Proofs.Ytjlhmgopmdcopaa

/- LazyRoom: its fetch, which asks the pool for Held, and may ask for another ghost; Ghost.ID; has. -/
namespace Go.Proofs.Ytjlhmgopmdcopaa
open Go.RowKit

theorem holdR_len {room : Int} {R : List Int} {i : Int} (h : ((R.length : Nat) : Int) ≤ room) : (((holdR room R i).length : Nat) : Int) ≤ room := by
  unfold holdR
  by_cases hr : room < ((R.length : Nat) : Int) + 1
  · rw [if_pos hr]; simp; omega
  · rw [if_neg hr]; simp; omega

set_option maxRecDepth 100000 in
set_option maxHeartbeats 2000000 in
theorem gID_any {w : World} {g : Nat} {id : Int} {fn : Value} {bz : Bool} {la : Int} {cl : ByteArray} {vr : Int} {fp pl ol nw : Option Addr} (h : Gh w g (gc id fn bz la cl vr fp pl ol nw)) : Calls Try.prog 25 #[.pointer (some ⟨g, 0, none⟩)] w fun e w' => e = .returned (.int .u64 id) ∧ w = w' := by
  have c0 := h.c0
  clear h
  go_enter Try.func25, Try.ntmps25
  go_wp2_with fail
  go_ret
  exact ⟨rfl, rfl⟩

set_option maxRecDepth 100000 in
set_option maxHeartbeats 2000000 in
theorem has_no (b o n c : Nat) (x : Int) (w : World) (h : ∀ k, k < n → ∃ v, w.cell? ⟨b, o + k, none⟩ = some (.int .u64 v) ∧ v ≠ x) (hn : n < 1000000) :
    Calls Try.prog 26 #[.slice (some ⟨b, o, none⟩) n c, .int .u64 x] w fun e w' => e = .returned (.bool false) ∧ w = w' := by
  have H : Hid (∀ k, k < n → ∃ v, w.cell? ⟨b, o + k, none⟩ = some (.int .u64 v) ∧ v ≠ x) := h
  clear h
  go_enter Try.func26, Try.ntmps26
  go_wp2_with fail
  go_loopw [5] (fun y wr => ∃ k : Nat, y = .int .i64 (k : Int) ∧ k ≤ n ∧ w = wr) (fun y _ => n - (intOf y).toNat)
  case atStart => exact ⟨0, rfl, Nat.zero_le _, rfl⟩
  case round =>
    obtain ⟨k, rfl, hk, rfl⟩ := hrel
    rcases Nat.lt_or_ge k n with hlt | hge
    · obtain ⟨v, h1, h2⟩ := H.out k hlt
      have hb : (v == x) = false := by simp [h2]
      have hi0 : (0 : Int) ≤ (k : Int) := by omega
      have hi1 : (k : Int) < (n : Int) := by omega
      have hw1 : IntKind.i64.wrap ((k : Int) + 1) = (k : Int) + 1 := by rw [IntKind.wrap_i64]; omega
      go_wp2_with fail
      exact ⟨⟨k + 1, by simp, by omega, trivial⟩, by simp [intOf]; omega⟩
    · have hi1 : ¬ (k : Int) < (n : Int) := by omega
      go_wp2_with fail
      go_ret
      exact ⟨rfl, rfl⟩

/-- the three boxes of LazyRoom, below b0 -/
structure RB (w0 : World) (b0 okb px mb p : Nat) (room : Int) : Prop where
  rok : w0.heap[okb]? = some (.cells #[.bool true] 4)
  rpx : w0.heap[px]? = some (.cells #[.pointer (some ⟨p, 0, none⟩)] 55)
  rmb : w0.heap[mb]? = some (.cells #[.int .i64 room] 3)
  lo : okb < b0
  lp : px < b0
  lm : mb < b0
  rm : 1 ≤ room ∧ room ≤ 9
def roomC (okb px mb : Nat) : Array Value := #[.pointer (some ⟨okb, 0, none⟩), .pointer (some ⟨px, 0, none⟩), .pointer (some ⟨mb, 0, none⟩)]
def roomF (okb px mb : Nat) : Value := .func (.func 22) #[] (roomC okb px mb)
def roomT (room : Int) : Sta → Sta → Prop := fun _ σ' => ((σ'.R.length : Nat) : Int) ≤ room

section
variable {w0 W : World} {b0 okb px mb p : Nat} {room : Int} {σ : Sta} {Z : List Int} {bz : Int}
set_option maxRecDepth 100000 in
set_option maxHeartbeats 4000000 in
theorem room1_no {id : Int} (hB : RB w0 b0 okb px mb p room) (h : PS W p (roomF okb px mb) room σ Z bz) (_hge : ∀ j, OwnP p σ.mp σ.κ σ.Kn j → b0 ≤ j) (hE : ∀ j, j < b0 → W.heap[j]? = w0.heap[j]?) (hRl : ((σ.R.length : Nat) : Int) ≤ room) (hid : 0 < id ∧ id < 1000) (h3 : (id % 3 == 1) = false) :
    Calls Try.prog 22 #[.int .u64 id, .pointer (some ⟨okb, 0, none⟩), .pointer (some ⟨px, 0, none⟩), .pointer (some ⟨mb, 0, none⟩)] W fun e w' => FE 0 0 0 tRa W e w' ∧ Below W.heap.size W w' := by
  have hok : W.heap[okb]? = some (.cells #[.bool true] 4) := (hE okb hB.lo).trans hB.rok
  have hpx : W.heap[px]? = some (.cells #[.pointer (some ⟨p, 0, none⟩)] 55) := (hE px hB.lp).trans hB.rpx
  have hmb : W.heap[mb]? = some (.cells #[.int .i64 room] 3) := (hE mb hB.lm).trans hB.rmb
  have hlo : okb < W.heap.size := (Array.getElem?_eq_some_iff.1 hok).1
  have hlm : mb < W.heap.size := (Array.getElem?_eq_some_iff.1 hmb).1
  have c1 : W.cell? ⟨okb, 0, none⟩ = some (.bool true) := by rw [cell_of_row _ _ 0 _ _ _ hok]; rfl
  have c2 : W.cell? ⟨px, 0, none⟩ = some (.pointer (some ⟨p, 0, none⟩)) := by rw [cell_of_row _ _ 0 _ _ _ hpx]; rfl
  have c3 : W.cell? ⟨mb, 0, none⟩ = some (.int .i64 room) := by rw [cell_of_row _ _ 0 _ _ _ hmb]; rfl
  have HH : Hid (Calls Try.prog 23 #[.pointer (some ⟨p, 0, none⟩)] W.drew fun e w' => ∃ b cap, e = .returned (.slice (some ⟨b, 0, none⟩) σ.R.length cap) ∧ Below W.heap.size W w') := by
    refine (Held_any (h.below (Below.refl _ _).drew) (by have := hB.rm; omega)).mono ?_
    rintro e w' ⟨b, cap, rfl, _, hb⟩
    exact ⟨b, cap, rfl, (Below.refl _ _).drew.trans hb⟩
  have HX : Hid (∀ w1, Below W.heap.size W w1 → w1.cell? ⟨okb, 0, none⟩ = some (.bool true) ∧ w1.frozen? ⟨okb, 0, none⟩ = false ∧ w1.cell? ⟨mb, 0, none⟩ = some (.int .i64 room) ∧ Below W.heap.size W (w1.setCell ⟨okb, 0, none⟩ (.bool true))) := fun w1 hb => by
    have r1 : w1.heap[okb]? = some (.cells #[.bool true] 4) := (hb.block okb hlo).trans hok
    refine ⟨by rw [cell_of_row _ _ 0 _ _ _ r1]; rfl, frozen_of_row _ _ 0 _ _ r1, by rw [cell_of_row _ _ 0 _ _ _ ((hb.block mb hlm).trans hmb)]; rfl, ⟨hb.os, hb.tape, hb.output, by simpa [World.setCell] using hb.size, fun j hj => ?_⟩⟩
    by_cases e : j = okb
    · subst e; rw [setCell_eq_setRow _ _ _ _ _ _ _ r1, setRow_heap _ _ _ _ _ _ r1]; exact hok.symm
    · exact (Below.heap_setCell _ _ _ _ e).trans (hb.block j hj)
  have hle : ((σ.R.length : Nat) : Int) ≤ room := hRl
  generalize ((σ.R.length : Nat)) = lr at HH hle
  clear h _hge hE hok hpx hmb hlo hlm hB hRl
  go_enter Try.func22, Try.ntmps22
  go_wp2_with fail
  go_region_with ((go_at_call 23; refine HH.out.mono ?_; rintro e w1 ⟨b, cap, rfl, hb⟩; have HB1 : Hid (Below W.heap.size W w1) := hb; obtain ⟨a1, a2, a3, _⟩ := HX.out w1 hb; clear hb))
  all_goals
    have HBX : Hid (Below W.heap.size W (w1.setCell ⟨okb, 0, none⟩ (.bool true))) := (HX.out w1 HB1.out).2.2.2
    generalize w1.setCell ⟨okb, 0, none⟩ (.bool true) = X at HBX ⊢
    clear a1 a2 a3
    go_wp2_with fail
    go_ret2
    exact ⟨.inl ⟨rfl, rfl, _, rfl, fun _ => tRa_V (heap_alloc_last _ _) ⟨HBX.out.size, by simp⟩⟩, HBX.out.alloc HBX.out.size _⟩

theorem Mv.env {p : Nat} {Z : List Int} {w w' w0 : World} {σ σ' : Sta} {b0 : Nat} (h : Mv p Z w σ w' σ') (hge : ∀ j, OwnP p σ.mp σ.κ σ.Kn j → b0 ≤ j) (hE : ∀ j, j < b0 → w.heap[j]? = w0.heap[j]?) (hb : b0 ≤ w.heap.size) : (∀ j, OwnP p σ'.mp σ'.κ σ'.Kn j → b0 ≤ j) ∧ (∀ j, j < b0 → w'.heap[j]? = w0.heap[j]?) :=
  ⟨fun j hj => (h.own j hj).elim (hge j) (fun h1 => by omega), fun j hj => (h.kx.block j (by omega) (fun hx => by have := hge j hx.1; omega)).trans (hE j hj)⟩

set_option maxRecDepth 100000 in
set_option maxHeartbeats 4000000 in
theorem room1_yes {id : Int} (hB : RB w0 b0 okb px mb p room) (h : PS W p (roomF okb px mb) room σ Z bz) (hge : ∀ j, OwnP p σ.mp σ.κ σ.Kn j → b0 ≤ j) (hE : ∀ j, j < b0 → W.heap[j]? = w0.heap[j]?) (hRl : ((σ.R.length : Nat) : Int) ≤ room) (hid : 0 < id ∧ id < 1000) (h3 : id % 3 = 1)
    (hCl : ∀ X σ1, PS X p (roomF okb px mb) room σ1 Z bz → (∀ j, OwnP p σ1.mp σ1.κ σ1.Kn j → b0 ≤ j) → (∀ j, j < b0 → X.heap[j]? = w0.heap[j]?) → ((σ1.R.length : Nat) : Int) ≤ room → id + 1 ∈ σ1.Kn → Calls Try.prog 13 #[.pointer (some ⟨σ1.κ (id + 1), 0, none⟩)] X fun e w' => e = .returned (.string ⟨#[97]⟩) ∧ ∃ σ2, PS w' p (roomF okb px mb) room σ2 Z bz ∧ Mv p Z X σ1 w' σ2 ∧ ((σ2.R.length : Nat) : Int) ≤ room) :
    Calls Try.prog 22 #[.int .u64 id, .pointer (some ⟨okb, 0, none⟩), .pointer (some ⟨px, 0, none⟩), .pointer (some ⟨mb, 0, none⟩)] W fun e w' => FE 0 0 0 tRa W e w' ∧ ∃ σ', roomT room σ σ' ∧ PS w' p (roomF okb px mb) room σ' Z bz ∧ Mv p Z W σ w' σ' := by
  have HCl : Hid (∀ X σ1, PS X p (roomF okb px mb) room σ1 Z bz → (∀ j, OwnP p σ1.mp σ1.κ σ1.Kn j → b0 ≤ j) → (∀ j, j < b0 → X.heap[j]? = w0.heap[j]?) → ((σ1.R.length : Nat) : Int) ≤ room → id + 1 ∈ σ1.Kn → Calls Try.prog 13 #[.pointer (some ⟨σ1.κ (id + 1), 0, none⟩)] X fun e w' => e = .returned (.string ⟨#[97]⟩) ∧ ∃ σ2, PS w' p (roomF okb px mb) room σ2 Z bz ∧ Mv p Z X σ1 w' σ2 ∧ ((σ2.R.length : Nat) : Int) ≤ room) := hCl
  have hpl := h.pool.lt
  have HS : Hid (PS W p (roomF okb px mb) room σ Z bz ∧ (∀ j, OwnP p σ.mp σ.κ σ.Kn j → b0 ≤ j) ∧ (∀ j, j < b0 → W.heap[j]? = w0.heap[j]?) ∧ b0 ≤ W.heap.size ∧ ((σ.R.length : Nat) : Int) ≤ room) := ⟨h, hge, hE, by have := hge p (.inl rfl); omega, hRl⟩
  clear hpl hCl
  have hok : W.heap[okb]? = some (.cells #[.bool true] 4) := (hE okb hB.lo).trans hB.rok
  have hpx : W.heap[px]? = some (.cells #[.pointer (some ⟨p, 0, none⟩)] 55) := (hE px hB.lp).trans hB.rpx
  have hmb : W.heap[mb]? = some (.cells #[.int .i64 room] 3) := (hE mb hB.lm).trans hB.rmb
  have hlo : okb < W.heap.size := (Array.getElem?_eq_some_iff.1 hok).1
  have hlm : mb < W.heap.size := (Array.getElem?_eq_some_iff.1 hmb).1
  have c1 : W.cell? ⟨okb, 0, none⟩ = some (.bool true) := by rw [cell_of_row _ _ 0 _ _ _ hok]; rfl
  have c2 : W.cell? ⟨px, 0, none⟩ = some (.pointer (some ⟨p, 0, none⟩)) := by rw [cell_of_row _ _ 0 _ _ _ hpx]; rfl
  have c3 : W.cell? ⟨mb, 0, none⟩ = some (.int .i64 room) := by rw [cell_of_row _ _ 0 _ _ _ hmb]; rfl
  have HH : Hid (Calls Try.prog 23 #[.pointer (some ⟨p, 0, none⟩)] W.drew fun e w' => ∃ b cap, e = .returned (.slice (some ⟨b, 0, none⟩) σ.R.length cap) ∧ Below W.heap.size W w') := by
    refine (Held_any (h.below (Below.refl _ _).drew) (by have := hB.rm; omega)).mono ?_
    rintro e w' ⟨b, cap, rfl, _, hb⟩
    exact ⟨b, cap, rfl, (Below.refl _ _).drew.trans hb⟩
  have HX : Hid (∀ w1, Below W.heap.size W w1 → w1.cell? ⟨okb, 0, none⟩ = some (.bool true) ∧ w1.frozen? ⟨okb, 0, none⟩ = false ∧ w1.cell? ⟨mb, 0, none⟩ = some (.int .i64 room) ∧ Below W.heap.size W (w1.setCell ⟨okb, 0, none⟩ (.bool true))) := fun w1 hb => by
    have r1 : w1.heap[okb]? = some (.cells #[.bool true] 4) := (hb.block okb hlo).trans hok
    refine ⟨by rw [cell_of_row _ _ 0 _ _ _ r1]; rfl, frozen_of_row _ _ 0 _ _ r1, by rw [cell_of_row _ _ 0 _ _ _ ((hb.block mb hlm).trans hmb)]; rfl, ⟨hb.os, hb.tape, hb.output, by simpa [World.setCell] using hb.size, fun j hj => ?_⟩⟩
    by_cases e : j = okb
    · subst e; rw [setCell_eq_setRow _ _ _ _ _ _ _ r1, setRow_heap _ _ _ _ _ _ r1]; exact hok.symm
    · exact (Below.heap_setCell _ _ _ _ e).trans (hb.block j hj)
  have hle : ((σ.R.length : Nat) : Int) ≤ room := hRl
  generalize ((σ.R.length : Nat)) = lr at HH hle
  clear h hge hE hok hpx hmb hlo hlm hB hRl
  go_enter Try.func22, Try.ntmps22
  go_wp2_with fail
  go_region_with ((go_at_call 23; refine HH.out.mono ?_; rintro e w1 ⟨b, cap, rfl, hb⟩; have HB1 : Hid (Below W.heap.size W w1) := hb; obtain ⟨a1, a2, a3, _⟩ := HX.out w1 hb; clear hb))
  all_goals
    have HBX : Hid (Below W.heap.size W (w1.setCell ⟨okb, 0, none⟩ (.bool true))) := (HX.out w1 HB1.out).2.2.2
    have d2 : (w1.setCell ⟨okb, 0, none⟩ (.bool true)).cell? ⟨px, 0, none⟩ = some (.pointer (some ⟨p, 0, none⟩)) := by rw [HBX.out.cell (p := ⟨px, 0, none⟩) (World.block_lt_of_cell? _ _ c2)]; exact c2
    generalize w1.setCell ⟨okb, 0, none⟩ (.bool true) = X at HBX d2 ⊢
    clear a1 a2 a3
    have h3b : (id % 3 == 1) = true := by simp [h3]
    have hw : IntKind.u64.wrap (id + 1) = id + 1 := by rw [IntKind.wrap_u64]; omega
    go_wp2_with fail
    refine (At_any (HS.out.1.below HBX.out) (i := id + 1) (by omega)).mono ?_
    rintro e w2 ⟨b2, σ1, rfl, p1, m1, ki1, rfl, r1, f1⟩
    obtain ⟨s1, s2, s3, s4, s5⟩ := HS.out
    have m0 : Mv p Z W σ X σ := Mv.of (Kx.of HBX.out) rfl rfl rfl
    obtain ⟨g1, g2⟩ := (m0.trans m1).env s2 s3 s4
    have HM : Hid (Mv p Z W σ w2 σ1) := m0.trans m1
    have HC := HCl.out w2 σ1 p1 g1 g2 (by rw [r1]; exact s5) ki1
    clear s1 s2 s3 s4 s5 m0 g1 g2 p1 m1 ki1 r1 f1
    generalize σ1.κ (id + 1) = b2 at HC ⊢
    go_wp2_with fail
    refine HC.mono ?_
    rintro e w3 ⟨rfl, σ2, p2, m2, r2⟩
    have H3 : Hid (PS w3 p (roomF okb px mb) room σ2 Z bz ∧ Mv p Z W σ w3 σ2 ∧ ((σ2.R.length : Nat) : Int) ≤ room) := ⟨p2, HM.out.trans m2, r2⟩
    clear p2 m2 r2 HC
    go_wp2_with fail
    go_ret2
    obtain ⟨q1, q2, q3⟩ := H3.out
    exact ⟨.inl ⟨rfl, rfl, _, rfl, fun _ => tRa_V (heap_alloc_last _ _) ⟨q2.kx.size, by simp⟩⟩, σ2, q3, q1.below ((Below.refl _ _).alloc (Nat.le_refl _) _), q2.trans (Mv.of (Kx.of ((Below.refl _ _).alloc (Nat.le_refl _) _)) rfl rfl rfl)⟩

/-- Class of a ghost of LazyRoom's pool -/
theorem Class_room {X : World} {i : Int} (hB : RB w0 b0 okb px mb p room) (h : PS X p (roomF okb px mb) room σ Z bz) (hi : i ∈ σ.Kn) (hZ : i ∉ Z) (hge : ∀ j, OwnP p σ.mp σ.κ σ.Kn j → b0 ≤ j) (hE : ∀ j, j < b0 → X.heap[j]? = w0.heap[j]?) (hRl : ((σ.R.length : Nat) : Int) ≤ room)
    (hFC : FC 22 (roomC okb px mb) p (roomF okb px mb) room tRa b0 w0 (i :: Z) i (roomT room) (bz + 1)) (hb : 0 ≤ bz ∧ bz < 1000) :
    Calls Try.prog 13 #[.pointer (some ⟨σ.κ i, 0, none⟩)] X fun e w' => e = .returned (.string ⟨#[97]⟩) ∧ ∃ σ2, PS w' p (roomF okb px mb) room σ2 Z bz ∧ Mv p Z X σ w' σ2 ∧ ((σ2.R.length : Nat) : Int) ≤ room ∧ ∃ A, σ2.R = A ++ [i] := by
  have hrm := hB.rm
  by_cases hR : i ∈ σ.R
  · obtain ⟨A, B, hAB⟩ := List.append_of_mem hR
    refine (Class_hit h hAB (by omega)).mono ?_
    rintro e w' ⟨rfl, h1, h2⟩
    refine ⟨rfl, _, h1, h2, ?_, A ++ B, rfl⟩
    show (((A ++ B ++ [i]).length : Nat) : Int) ≤ room
    rw [hAB] at hRl
    simp at hRl ⊢
    omega
  · refine (Class_miss h hi hR hZ (by omega) (fun W => by kernel_rfl) hge hE hRl hFC hb tRa_ok (fun σ' hT => by have : ((σ'.R.length : Nat) : Int) ≤ room := hT; omega)).mono ?_
    rintro e w' ⟨rfl, σ', hT, h1, h2⟩
    exact ⟨rfl, _, h1, h2, holdR_len hT, holdR_last room σ'.R i hrm.1⟩

theorem room_FC0 (hB : RB w0 b0 okb px mb p room) (Z : List Int) {id : Int} (hid : 0 < id ∧ id < 1000) (h3 : id % 3 ≠ 1) (bz : Int) : FC 22 (roomC okb px mb) p (roomF okb px mb) room tRa b0 w0 Z id (roomT room) bz := by
  intro W σ h hge hE hRl
  refine (show Calls Try.prog 22 #[.int .u64 id, .pointer (some ⟨okb, 0, none⟩), .pointer (some ⟨px, 0, none⟩), .pointer (some ⟨mb, 0, none⟩)] W _ from (room1_no hB h hge hE hRl hid (by simp [h3])).mono ?_)
  rintro e w' ⟨h1, h2⟩
  exact ⟨h1, σ, hRl, h.below h2, Mv.of (Kx.of h2) rfl rfl rfl⟩
theorem room_FC (hB : RB w0 b0 okb px mb p room) {id : Int} (hid : 0 < id ∧ id < 900) (Z : List Int) (hZ : id + 1 ∉ Z) (bz : Int) (hb : 0 ≤ bz ∧ bz < 900) : FC 22 (roomC okb px mb) p (roomF okb px mb) room tRa b0 w0 Z id (roomT room) bz := by
  by_cases h3 : id % 3 = 1
  · intro W σ h hge hE hRl
    exact room1_yes hB h hge hE hRl (by omega) h3 fun X σ1 q1 q2 q3 q4 q5 => (Class_room hB q1 q5 hZ q2 q3 q4 (room_FC0 hB _ (by omega) (by omega) _) (by omega)).mono fun _ _ ⟨e1, σ2, e2, e3, e4, _⟩ => ⟨e1, σ2, e2, e3, e4⟩
  · exact room_FC0 hB Z (by omega) h3 bz
end
end Go.Proofs.Ytjlhmgopmdcopaa

/- tenonlaw12.LazyRoom returns true: never are more loaded than there is room for, not within a fetch either. -/
namespace Go.Proofs.Ytjlhmgopmdcopaa
open Go.RowKit

theorem add_nonW (b o n : Nat) : (⟨b, o, none⟩ : Addr).add n = ⟨b, o + n, none⟩ := by
  unfold Addr.add; split
  · rename_i h; rw [h]; rfl
  · rfl

/-- what holds between two rounds -/
structure RI (w w0 : World) (b0 okb px mb p : Nat) (room : Int) (σ : Sta) (wr : World) : Prop where
  P : PS wr p (roomF okb px mb) room σ [] 0
  ge : ∀ j, OwnP p σ.mp σ.κ σ.Kn j → b0 ≤ j
  E : ∀ j, j < b0 → wr.heap[j]? = w0.heap[j]?
  len : ((σ.R.length : Nat) : Int) ≤ room
  bel : Below w.heap.size w wr
  hb : w.heap.size ≤ b0 ∧ b0 ≤ wr.heap.size
section
variable {w w0 wr : World} {b0 okb px mb p : Nat} {room : Int} {σ : Sta}
theorem RI.step {w' : World} {σ' : Sta} (h : RI w w0 b0 okb px mb p room σ wr) (h1 : PS w' p (roomF okb px mb) room σ' [] 0) (h2 : Mv p [] wr σ w' σ') (h3 : ((σ'.R.length : Nat) : Int) ≤ room) : RI w w0 b0 okb px mb p room σ' w' := by
  obtain ⟨e1, e2⟩ := h2.env h.ge h.E h.hb.2
  refine ⟨h1, e1, e2, h3, h.bel.trans (h2.kx.below (fun j hj => ?_) h.bel.size), h.hb.1, Nat.le_trans h.hb.2 h2.kx.size⟩
  have := h.ge j hj.1; have := h.hb.1; omega
theorem RI.below {w' : World} (h : RI w w0 b0 okb px mb p room σ wr) (hb : Below wr.heap.size wr w') : RI w w0 b0 okb px mb p room σ w' := h.step (h.P.below hb) (Mv.of (Kx.of hb) rfl rfl rfl) h.len
theorem RI.cpx (h : RI w w0 b0 okb px mb p room σ wr) (hB : RB w0 b0 okb px mb p room) : wr.cell? ⟨px, 0, none⟩ = some (.pointer (some ⟨p, 0, none⟩)) := by rw [cell_of_row _ _ 0 _ _ _ ((h.E px hB.lp).trans hB.rpx)]; rfl
theorem RI.cmb (h : RI w w0 b0 okb px mb p room σ wr) (hB : RB w0 b0 okb px mb p room) : wr.cell? ⟨mb, 0, none⟩ = some (.int .i64 room) := by rw [cell_of_row _ _ 0 _ _ _ ((h.E mb hB.lm).trans hB.rmb)]; rfl
theorem RI.cok (h : RI w w0 b0 okb px mb p room σ wr) (hB : RB w0 b0 okb px mb p room) : wr.cell? ⟨okb, 0, none⟩ = some (.bool true) := by rw [cell_of_row _ _ 0 _ _ _ ((h.E okb hB.lo).trans hB.rok)]; rfl
end

set_option maxRecDepth 100000 in
set_option maxHeartbeats 8000000 in
theorem LazyRoom_any (rm : Int) (a : Option Addr) (len cap : Nat) (w : World) (hrm : 0 ≤ rm ∧ rm ≤ 255) (ha : RefIn w a len) (hlen : len < 4611686018427387904) :
    Calls Try.prog 5 #[.int .u8 rm, .slice a len cap] w fun e w' => e = .returned (.bool true) ∧ Below w.heap.size w w' := by
  have hmf : ∀ (fn : Fn) (first cap : Array Value) (w : World), (Instr.makeFunc fn first cap).run Try.prog w = .ok (.func fn first cap) w := fun _ _ _ _ => rfl
  have HLv : Hid (∀ W, Calls Try.prog 7 #[] W fun e w' => e = .returned (.bool true) ∧ Below W.heap.size W w') := lives12_any
  have HA : Hid (RefIn w a len) := ha
  have HLn : Hid (len < 4611686018427387904) := hlen
  clear ha hlen
  go_enter Try.func5, Try.ntmps5
  go_wp2_with fail
  refine (HLv.out _).mono ?_
  rintro e u1 ⟨rfl, hb1⟩
  have HB1 : Hid (Below w.heap.size w u1) := hb1
  clear hb1 HLv
  go_wp2_with fail
  have hn1 : 1 ≤ rm % 9 + 1 ∧ rm % 9 + 1 ≤ 9 := by omega
  generalize rm % 9 + 1 = room at hn1 ⊢
  refine (NewPool_any room _ _ _ hn1.1 (by omega)).mono ?_
  rintro e u3 ⟨rfl, hp3, hb3⟩
  -- behind NewPool
  obtain ⟨u2, hu2⟩ : ∃ u2, ((u1.alloc (.cells #[.int .i64 room] 3)).alloc (.cells #[.pointer none] 55)).alloc (.cells #[.bool true] 4) = u2 := ⟨_, rfl⟩
  obtain ⟨r0, r1, r2⟩ := al3 u1 (.cells #[.int .i64 room] 3) (.cells #[.pointer none] 55) (.cells #[.bool true] 4)
  have hs2 : u2.heap.size = u1.heap.size + 3 := by rw [← hu2]; simp
  have hbu : Below u1.heap.size u1 u2 := by rw [← hu2]; exact (((Below.refl _ _).alloc (Nat.le_refl _) _).alloc (by simp) _).alloc (by simp only [World.size_alloc]; omega) _
  rw [hu2] at hp3 hb3 r0 r1 r2 ⊢
  rw [hs2] at hp3 hb3 ⊢
  have q0 : u3.heap[u1.heap.size]? = some (.cells #[.int .i64 room] 3) := (hb3.block _ (by omega)).trans r0
  have q1 : u3.heap[u1.heap.size + 1]? = some (.cells #[.pointer none] 55) := (hb3.block _ (by omega)).trans r1
  have q2 : u3.heap[u1.heap.size + 2]? = some (.cells #[.bool true] 4) := (hb3.block _ (by omega)).trans r2
  obtain ⟨X, hX⟩ : ∃ X, u3.setCell ⟨u1.heap.size + 1, 0, none⟩ (.pointer (some ⟨u1.heap.size + 3, 0, none⟩)) = X := ⟨_, rfl⟩
  have far : ∀ j, j ≠ u1.heap.size + 1 → X.heap[j]? = u3.heap[j]? := fun j hj => by rw [← hX]; exact Below.heap_setCell _ _ _ _ hj
  have hXs : X.heap.size = u3.heap.size := by rw [← hX]; simp [World.setCell]
  have hXk : Kx (· = u1.heap.size + 1) u3 X := by rw [← hX]; exact Kx.setg (Kx.refl _ _) _
  have x1 : X.heap[u1.heap.size + 1]? = some (.cells #[.pointer (some ⟨u1.heap.size + 3, 0, none⟩)] 55) := by
    rw [← hX, setCell_eq_setRow _ _ _ _ _ _ _ q1]; exact setRow_heap _ _ _ _ _ _ q1
  have HRB : Hid (RB X (u1.heap.size + 3) (u1.heap.size + 2) (u1.heap.size + 1) u1.heap.size (u1.heap.size + 3) room) := ⟨(far _ (by omega)).trans q2, x1, (far _ (by omega)).trans q0, by omega, by omega, by omega, hn1⟩
  have HRI : Hid (RI w X (u1.heap.size + 3) (u1.heap.size + 2) (u1.heap.size + 1) u1.heap.size (u1.heap.size + 3) room ⟨fun _ => 0, [], [], none, 0⟩ X) := by
    have h1 := HB1.out.size
    have own : ∀ j : Nat, OwnP (u1.heap.size + 3) (none : Option Nat) (fun _ => 0) [] j → j = u1.heap.size + 3 := fun j hj => by
      rcases hj with e | e | ⟨y, hy, _⟩
      · exact e
      · cases e
      · cases hy
    refine ⟨PI.keep hp3 (by omega) (fun j hj _ => far j (by have := own j hj; omega)), fun j hj => by have := own j hj; omega, fun _ _ => rfl, by simp; omega, ?_, by omega, by have := hp3.pool.lt; omega⟩
    exact HB1.out.trans ((hbu.trans ((hb3.mono (by omega)).trans (hXk.below (fun j hj => by omega) (by have := hb3.size; omega)))).mono h1)
  have c1 : u3.cell? ⟨u1.heap.size + 1, 0, none⟩ = some (.pointer none) := by rw [cell_of_row _ _ 0 _ _ _ q1]; rfl
  have z1 : u3.frozen? ⟨u1.heap.size + 1, 0, none⟩ = false := frozen_of_row _ _ 0 _ _ q1
  have cX : X.cell? ⟨u1.heap.size + 1, 0, none⟩ = some (.pointer (some ⟨u1.heap.size + 3, 0, none⟩)) := by rw [cell_of_row _ _ 0 _ _ _ x1]; rfl
  have eq1 : ∀ b W, (binOp .eql 55 (.pointer (some ⟨b, 0, none⟩)) (.pointer none)).run Try.prog W = .ok (.bool false) W := fun b W => by kernel_rfl
  have eq2 : ∀ b x y W, (eqGuard .eql 55 x y (.pointer (some ⟨b, 0, none⟩)) (.pointer none)).run Try.prog W = .ok () W := fun b x y W => by kernel_rfl
  clear hu2 hs2 hbu hp3 hb3 r0 r1 r2 q0 q1 q2 far hXs hXk x1 HB1 hrm
  rw [show u1.heap.size + 1 + 1 = u1.heap.size + 2 from rfl]
  generalize u1.heap.size = mb at HRB HRI c1 z1 cX hX ⊢
  generalize hpq : mb + 3 = pb at HRB HRI cX hX ⊢
  generalize hpx : mb + 1 = px at HRB HRI c1 z1 cX hX ⊢
  generalize hok : mb + 2 = okb at HRB HRI ⊢
  clear hpq hpx hok
  go_wp2_with fail
  go_loopw [9] (fun y wr => ∃ (k : Nat) (σ : Sta), y = .int .i64 (k : Int) ∧ k ≤ len ∧ Hid (RI w X pb okb px mb pb room σ wr)) (fun y _ => len - (intOf y).toNat)
  case atStart => exact ⟨0, _, rfl, Nat.zero_le _, HRI.out⟩
  case round =>
    obtain ⟨k, σ, rfl, hkl, HS⟩ := hrel
    have HLl := HLn.out
    clear c1 z1 cX hX HRI
    rcases Nat.lt_or_ge k len with hlt | hge
    · obtain ⟨ga, oa, v, rfl, hgl, cv, hv0, hv1⟩ := HA.out k hlt
      have y0 : wr.cell? ⟨ga, oa + k, none⟩ = some (.int .u64 v) := by rw [HS.out.bel.cell (p := ⟨ga, oa + k, none⟩) hgl]; exact cv
      have yp := HS.out.cpx HRB.out
      have hi0 : (0 : Int) ≤ (k : Int) := by omega
      have hi1 : (k : Int) < (len : Int) := by omega
      have hw1 : IntKind.i64.wrap ((k : Int) + 1) = (k : Int) + 1 := by rw [IntKind.wrap_i64]; omega
      clear cv hgl
      go_wp2_with fail
      have hid : 0 < v % 20 + 1 ∧ v % 20 + 1 < 900 := by omega
      generalize v % 20 + 1 = i at hid ⊢
      clear y0 hv0 hv1
      refine (At_any HS.out.P (i := i) (by omega)).mono ?_
      rintro e w1 ⟨b1, σ1, rfl, p1, m1, ki1, kb1, r1, f1⟩
      have HS1 : Hid (RI w X pb okb px mb pb room σ1 w1) := HS.out.step p1 m1 (by rw [r1]; exact HS.out.len)
      have HC : Hid (Calls Try.prog 13 #[.pointer (some ⟨b1, 0, none⟩)] w1 fun e w' => e = .returned (.string ⟨#[97]⟩) ∧ ∃ σ2, RI w X pb okb px mb pb room σ2 w' ∧ ∃ A, σ2.R = A ++ [i]) := by
        rw [← kb1]
        refine (Class_room HRB.out HS1.out.P ki1 (by simp) HS1.out.ge HS1.out.E HS1.out.len (room_FC HRB.out hid [i] (by simp; omega) 1 (by omega)) (by omega)).mono ?_
        rintro e w' ⟨h1, σ2, h2, h3, h4, h5⟩
        exact ⟨h1, σ2, HS1.out.step h2 h3 h4, h5⟩
      have g1 := eqgh_s b1
      have g2 := eqgg_s b1
      clear p1 m1 ki1 kb1 r1 f1 yp
      go_wp2_with fail
      refine HC.out.mono ?_
      rintro e w2 ⟨rfl, σ2, hr2, A, hA⟩
      have HS2 : Hid (RI w X pb okb px mb pb room σ2 w2) := hr2
      have HA2 : Hid (σ2.R = A ++ [i]) := hA
      have yp := hr2.cpx HRB.out
      have hln : ((σ2.R.length : Nat) : Int) ≤ room ∧ 1 ≤ σ2.R.length := ⟨hr2.len, by rw [hA]; simp⟩
      have HH : Hid (Calls Try.prog 23 #[.pointer (some ⟨pb, 0, none⟩)] w2 fun e w' => ∃ b cap, e = .returned (.slice (some ⟨b, 0, none⟩) σ2.R.length cap) ∧ w'.ownsRow w2.heap.size 25 1 (.slice (some ⟨b, 0, none⟩) σ2.R.length cap) σ2.R.length (refs σ2.R) ∧ Below w2.heap.size w2 w') := Held_any hr2.P (by omega)
      clear hr2 hA HC
      go_wp2_with fail
      refine HH.out.mono ?_
      rintro e w3 ⟨bl, cl, rfl, ol, hb3⟩
      have HS3 : Hid (RI w X pb okb px mb pb room σ2 w3) := HS2.out.below hb3
      have ym := HS3.out.cmb HRB.out
      have hcl : σ2.R.length ≤ cl := by
        rcases ol.2 with ⟨e, _⟩ | ⟨g2, c2, cur, e, _, _, h1, _⟩
        · cases e
        · injection e with _ _ e; subst e; exact h1
      have HCe : Hid (∀ (q : Nat) x, σ2.R[q]? = some x → w3.cell? ⟨bl, q, none⟩ = some (.int .u64 x)) := fun q x hq => by
        have h1 := ol.cells (g := bl) rfl q (.int .u64 x) (by simp [refs, hq])
        rw [add_nonW] at h1; simpa using h1
      have hlast : w3.cell? ⟨bl, σ2.R.length - 1, none⟩ = some (.int .u64 i) := HCe.out _ _ (by rw [HA2.out]; simp)
      clear ol hb3 HH yp HS2
      generalize hlq : σ2.R.length = ln at hln hcl hlast ⊢
      have t1 : ¬ room < (ln : Int) := by omega
      have t2 : ((ln : Int) == 0) = false := by simp; omega
      have hw3 : IntKind.i64.wrap ((ln : Int) - 1) = ((ln - 1 : Nat) : Int) := by rw [IntKind.wrap_i64]; omega
      have t3 : (0 : Int) ≤ ((ln - 1 : Nat) : Int) := by omega
      have t4 : ((ln - 1 : Nat) : Int) < (ln : Int) := by omega
      have HLq : Hid (σ2.R.length = ln) := hlq
      clear hlq
      go_wp2_with fail
      go_loopw [14] (fun y wr2 => ∃ jj : Nat, y = .int .i64 (jj : Int) ∧ jj ≤ ln ∧ Hid (Below w3.heap.size w3 wr2)) (fun y _ => ln - (intOf y).toNat)
      case atStart => exact ⟨0, rfl, Nat.zero_le _, Below.refl _ _⟩
      case round =>
        obtain ⟨jj, rfl, hjl, HB4⟩ := hrel
        have HS4 : Hid (RI w X pb okb px mb pb room σ2 wr) := HS3.out.below HB4.out
        rcases Nat.lt_or_ge jj ln with hjt | hjg
        · have hjR : jj < σ2.R.length := by rw [HLq.out]; exact hjt
          obtain ⟨x, hx⟩ : ∃ x, σ2.R[jj]? = some x := ⟨σ2.R[jj], List.getElem?_eq_getElem hjR⟩
          have hxR : x ∈ σ2.R := List.mem_of_getElem? hx
          have hxK := HS4.out.P.sub x hxR
          have kc : wr.cell? ⟨bl, jj, none⟩ = some (.int .u64 x) := by
            have h1 := HCe.out jj x hx
            rw [HB4.out.cell (p := ⟨bl, jj, none⟩) (World.block_lt_of_cell? _ _ h1)]; exact h1
          have yp := HS4.out.cpx HRB.out
          have HAt : Hid (Calls Try.prog 24 #[.pointer (some ⟨pb, 0, none⟩), .int .u64 x] wr.drew fun e w' => e = .returned (.tuple #[.pointer (some ⟨σ2.κ x, 0, none⟩), .int .i64 0]) ∧ wr.drew = w') := At_known (HS4.out.P.below (Below.refl _ _).drew) hxK
          have hj0 : (0 : Int) ≤ (jj : Int) := by omega
          have hj1 : (jj : Int) < (ln : Int) := by omega
          have hw4 : IntKind.i64.wrap ((jj : Int) + 1) = (jj : Int) + 1 := by rw [IntKind.wrap_i64]; omega
          have HX : Hid (σ2.R[jj]? = some x ∧ x ∈ σ2.R ∧ x ∈ σ2.Kn) := ⟨hx, hxR, hxK⟩
          clear hx hxR hxK hjR ym hlast hw3 t1 t2 t3 t4
          go_wp2_with fail
          refine wp_region_held_drew (S := fun W => W.cell? ⟨px, 0, none⟩ = some (.pointer (some ⟨pb, 0, none⟩)) ∧ W.cell? ⟨bl, jj, none⟩ = some (.int .u64 x)) (by kernel_rfl) ?_ (fun hHeld => ?_)
          · exact ⟨yp, kc⟩
          refine wpAnyH_take (i := 0) (oi := { dst := some 92, op := Go.Op.load 55 (Go.Operand.tmp 6), type := 55, pos := "outright.go:141", after := #[], guard := none }) (v := ?_) rfl (by kernel_rfl) (by kernel_rfl) (by kernel_rfl) (fun _ _ _ h => h) (Or.inl ⟨by rfl, ?_⟩) (by assumption) ?_
          rotate_left
          · intro w hSw; (try dsimp only at hSw); go_simp; try (with_reducible rfl)
          simp only [Act.put, List.setIfInBounds_toArray, List.set_cons_zero, List.set_cons_succ]
          refine wpAnyH_take (i := 1) (oi := { dst := some 93, op := Go.Op.move (Go.Operand.tmp 13), type := 54, pos := "outright.go:141", after := #[], guard := none }) (v := ?_) rfl (by kernel_rfl) (by kernel_rfl) (by kernel_rfl) (fun _ _ _ h => h) (Or.inl ⟨by rfl, ?_⟩) (by assumption) ?_
          rotate_left
          · intro w hSw; (try dsimp only at hSw); go_simp; try (with_reducible rfl)
          simp only [Act.put, List.setIfInBounds_toArray, List.set_cons_zero, List.set_cons_succ]
          refine wpAnyH_take (i := 2) (oi := { dst := some 94, op := Go.Op.move (Go.Operand.tmp 14), type := 3, pos := "outright.go:141", after := #[], guard := none }) (v := ?_) rfl (by kernel_rfl) (by kernel_rfl) (by kernel_rfl) (fun _ _ _ h => h) (Or.inl ⟨by rfl, ?_⟩) (by assumption) ?_
          rotate_left
          · intro w hSw; (try dsimp only at hSw); go_simp; try (with_reducible rfl)
          simp only [Act.put, List.setIfInBounds_toArray, List.set_cons_zero, List.set_cons_succ]
          refine wpAnyH_take (i := 3) (oi := { dst := some 95, op := Go.Op.indexAddr 54 (Go.Operand.tmp 93) (Go.Operand.tmp 94), type := 0, pos := "outright.go:141", after := #[{ on := 1, ground := Go.Ground.data }, { on := 2, ground := Go.Ground.data }], guard := none }) (v := ?_) rfl (by kernel_rfl) (by kernel_rfl) (by kernel_rfl) (fun _ _ _ h => h) (Or.inl ⟨by rfl, ?_⟩) (by assumption) ?_
          rotate_left
          · intro w hSw; (try dsimp only at hSw); go_simp; try (with_reducible rfl)
          simp only [Act.put, List.setIfInBounds_toArray, List.set_cons_zero, List.set_cons_succ]
          refine wpAnyH_take (i := 4) (oi := { dst := some 96, op := Go.Op.load 25 (Go.Operand.tmp 95), type := 25, pos := "outright.go:141", after := #[{ on := 3, ground := Go.Ground.data }], guard := none }) (v := ?_) rfl (by kernel_rfl) (by kernel_rfl) (by kernel_rfl) (fun _ _ _ h => h) (Or.inl ⟨by rfl, ?_⟩) (by assumption) ?_
          rotate_left
          · intro w hSw; (try dsimp only at hSw); go_simp; try (with_reducible rfl)
          simp only [Act.put, List.setIfInBounds_toArray, List.set_cons_zero, List.set_cons_succ]
          refine wpAnyH_ready (rs := [5]) (by kernel_rfl) (by simp) ?_
          refine AllReadyH.cons (o := { dst := some 97, op := Go.Op.call { callee := Go.Callee.value (Go.Operand.func 24), args := #[Go.Operand.tmp 92, Go.Operand.tmp 96], argTypes := #[55, 25] }, type := 38, pos := "outright.go:141", after := #[{ on := 0, ground := Go.Ground.data }, { on := 4, ground := Go.Ground.data }], guard := none }) rfl (fun K hK => ?_) AllReadyH.nil
          go_simp
          refine HAt.out.mono ?_
          rintro e w' ⟨rfl, rfl⟩
          go_wp2_with fail
          refine hK.out _ _ ?_ (fun hHeld => ?_)
          · exact ⟨yp, kc⟩
          clear hK K
          refine wpAnyH_take (i := 6) (oi := { dst := some 91, op := Go.Op.move (Go.Operand.tmp 97), type := 38, pos := "outright.go:141", after := #[{ on := 5, ground := Go.Ground.data }], guard := none }) (v := ?_) rfl (by kernel_rfl) (by kernel_rfl) (by kernel_rfl) (fun _ _ _ h => h) (Or.inl ⟨by rfl, ?_⟩) (by assumption) ?_
          rotate_left
          · intro w hSw; (try dsimp only at hSw); go_simp; try (with_reducible rfl)
          simp only [Act.put, List.setIfInBounds_toArray, List.set_cons_zero, List.set_cons_succ]
          refine wpAnyH_take (i := 7) (oi := { dst := some 98, op := Go.Op.extract (Go.Operand.tmp 91) 0, type := 37, pos := "outright.go:141", after := #[{ on := 6, ground := Go.Ground.data }], guard := none }) (v := ?_) rfl (by kernel_rfl) (by kernel_rfl) (by kernel_rfl) (fun _ _ _ h => h) (Or.inl ⟨by rfl, ?_⟩) (by assumption) ?_
          rotate_left
          · intro w hSw; (try dsimp only at hSw); go_simp; try (with_reducible rfl)
          simp only [Act.put, List.setIfInBounds_toArray, List.set_cons_zero, List.set_cons_succ]
          refine wpAnyH_take (i := 8) (oi := { dst := some 99, op := Go.Op.extract (Go.Operand.tmp 91) 1, type := 34, pos := "outright.go:141", after := #[{ on := 6, ground := Go.Ground.data }, { on := 9, ground := Go.Ground.gcOnly Go.Departure.lateStores }], guard := none }) (v := ?_) rfl (by kernel_rfl) (by kernel_rfl) (by kernel_rfl) (fun _ _ _ h => h) (Or.inl ⟨by rfl, ?_⟩) (by assumption) ?_
          rotate_left
          · intro w hSw; (try dsimp only at hSw); go_simp; try (with_reducible rfl)
          simp only [Act.put, List.setIfInBounds_toArray, List.set_cons_zero, List.set_cons_succ]
          refine wpAnyH_take (i := 9) (oi := { dst := some 15, op := Go.Op.assign (Go.Operand.tmp 98), type := 37, pos := "outright.go:141", after := #[{ on := 7, ground := Go.Ground.data }, { on := 5, ground := Go.Ground.chain }, { on := 0, ground := Go.Ground.phase }, { on := 1, ground := Go.Ground.phase }, { on := 2, ground := Go.Ground.phase }, { on := 3, ground := Go.Ground.phase }, { on := 4, ground := Go.Ground.phase }, { on := 5, ground := Go.Ground.phase }, { on := 6, ground := Go.Ground.phase }, { on := 7, ground := Go.Ground.phase }, { on := 8, ground := Go.Ground.textOnly Go.Departure.lateStores }], guard := none }) (v := ?_) rfl (by kernel_rfl) (by kernel_rfl) (by kernel_rfl) (fun _ _ _ h => h) (Or.inl ⟨by rfl, ?_⟩) (by assumption) ?_
          rotate_left
          · intro w hSw; (try dsimp only at hSw); go_simp; try (with_reducible rfl)
          simp only [Act.put, List.setIfInBounds_toArray, List.set_cons_zero, List.set_cons_succ]
          refine wpAnyH_take (i := 10) (oi := { dst := some 16, op := Go.Op.assign (Go.Operand.tmp 99), type := 34, pos := "outright.go:141", after := #[{ on := 8, ground := Go.Ground.data }, { on := 9, ground := Go.Ground.chain }, { on := 0, ground := Go.Ground.phase }, { on := 1, ground := Go.Ground.phase }, { on := 2, ground := Go.Ground.phase }, { on := 3, ground := Go.Ground.phase }, { on := 4, ground := Go.Ground.phase }, { on := 5, ground := Go.Ground.phase }, { on := 6, ground := Go.Ground.phase }, { on := 7, ground := Go.Ground.phase }, { on := 8, ground := Go.Ground.phase }, { on := 9, ground := Go.Ground.phase }], guard := none }) (v := ?_) rfl (by kernel_rfl) (by kernel_rfl) (by kernel_rfl) (fun _ _ _ h => h) (Or.inl ⟨by rfl, ?_⟩) (by assumption) ?_
          rotate_left
          · intro w hSw; (try dsimp only at hSw); go_simp; try (with_reducible rfl)
          simp only [Act.put, List.setIfInBounds_toArray, List.set_cons_zero, List.set_cons_succ]
          refine wpAnyH_done (by kernel_rfl) ?_ _
          have HB5 : Hid (Below w3.heap.size w3 wr.drew) := HB4.out.drew
          have HS5 : Hid (RI w X pb okb px mb pb room σ2 wr.drew) := HS3.out.below HB5.out
          have kc5 : wr.drew.cell? ⟨bl, jj, none⟩ = some (.int .u64 x) := kc
          generalize wr.drew = w5 at HB5 HS5 kc5 ⊢
          obtain ⟨f5, ol5, nw5, row5⟩ : ∃ fb ol nw, Gh w5 (σ2.κ x) (hrow pb x fb ol nw) := by
            obtain ⟨A5, B5, hAB⟩ := List.append_of_mem HX.out.2.1
            obtain ⟨fb, hr⟩ := HS5.out.P.held A5 x B5 hAB
            exact ⟨fb, _, _, hr⟩
          have HLd : Hid (Calls Try.prog 17 #[.pointer (some ⟨σ2.κ x, 0, none⟩)] w5.drew fun e w' => e = .returned (.bool true) ∧ w5.drew = w') := Loaded_yes row5.drew
          have HId : Hid (Calls Try.prog 25 #[.pointer (some ⟨σ2.κ x, 0, none⟩)] w5.drew fun e w' => e = .returned (.int .u64 x) ∧ w5.drew = w') := gID_any row5.drew
          have HHs : Hid (Calls Try.prog 26 #[.slice (some ⟨bl, 0, none⟩) jj cl, .int .u64 x] w5.drew fun e w' => e = .returned (.bool false) ∧ w5.drew = w') := by
            refine has_no bl 0 jj cl x w5.drew (fun q hq => ?_) (by omega)
            have hqR : q < σ2.R.length := by rw [HLq.out]; omega
            have h1 := HCe.out q σ2.R[q] (List.getElem?_eq_getElem hqR)
            refine ⟨σ2.R[q], ?_, fun e => ?_⟩
            · rw [Nat.zero_add]
              show w5.cell? ⟨bl, q, none⟩ = _
              rw [HB5.out.cell (p := ⟨bl, q, none⟩) (World.block_lt_of_cell? _ _ h1)]; exact h1
            · have hx := HX.out.1
              have hjR : jj < σ2.R.length := by rw [HLq.out]; exact hjt
              rw [List.getElem?_eq_getElem hjR] at hx
              injection hx with hx
              exact (List.pairwise_iff_getElem.1 HS5.out.P.nd) q jj hqR hjR hq (by rw [hx]; exact e)
          have kcell : w5.drew.cell? ⟨bl, jj, none⟩ = some (.int .u64 x) := kc5
          have HB6 : Hid (Below w3.heap.size w3 w5.drew) := HB5.out.drew
          have e1 := eqgh_s (σ2.κ x)
          have e2 := eqgg_s (σ2.κ x)
          have k1 : (jj : Int) ≤ (cl : Int) := by omega
          have k2 : ¬ cl = 0 := by omega
          have k3 : (cl == 0) = false := by simp; omega
          generalize σ2.κ x = gx at HLd HId e1 e2 ⊢
          clear kc kc5 yp HAt row5 HS5 HB5
          go_wp2_with fail
          refine wp_region_held_drew (S := fun W => W.cell? ⟨bl, jj, none⟩ = some (.int .u64 x)) (by kernel_rfl) ?_ (fun hHeld => ?_)
          · exact kcell
          refine wpAnyH_take (i := 0) (oi := { dst := some 100, op := Go.Op.move (Go.Operand.tmp 15), type := 37, pos := "outright.go:142", after := #[], guard := none }) (v := ?_) rfl (by kernel_rfl) (by kernel_rfl) (by kernel_rfl) (fun _ _ _ h => h) (Or.inl ⟨by rfl, ?_⟩) (by assumption) ?_
          rotate_left
          · intro w hSw; (try dsimp only at hSw); go_simp; try (with_reducible rfl)
          simp only [Act.put, List.setIfInBounds_toArray, List.set_cons_zero, List.set_cons_succ]
          refine wpAnyH_take (i := 1) (oi := { dst := some 101, op := Go.Op.binOp Go.BinOp.eql 37 (Go.Operand.tmp 100) (Go.Operand.const (Go.Value.pointer none)) 37, type := 4, pos := "outright.go:142", after := #[{ on := 0, ground := Go.Ground.data }], guard := none }) (v := ?_) rfl (by kernel_rfl) (by kernel_rfl) (by kernel_rfl) (fun _ _ _ h => h) (Or.inl ⟨by rfl, ?_⟩) (by assumption) ?_
          rotate_left
          · intro w hSw; (try dsimp only at hSw); go_simp; try (with_reducible rfl)
          simp only [Act.put, List.setIfInBounds_toArray, List.set_cons_zero, List.set_cons_succ]
          refine wpAnyH_take (i := 2) (oi := { dst := some 102, op := Go.Op.move (Go.Operand.tmp 101), type := 4, pos := "outright.go:142", after := #[{ on := 1, ground := Go.Ground.data }], guard := none }) (v := ?_) rfl (by kernel_rfl) (by kernel_rfl) (by kernel_rfl) (fun _ _ _ h => h) (Or.inl ⟨by rfl, ?_⟩) (by assumption) ?_
          rotate_left
          · intro w hSw; (try dsimp only at hSw); go_simp; try (with_reducible rfl)
          simp only [Act.put, List.setIfInBounds_toArray, List.set_cons_zero, List.set_cons_succ]
          refine wpAnyH_take (i := 3) (oi := { dst := some 103, op := Go.Op.move (Go.Operand.tmp 15), type := 37, pos := "outright.go:142", after := #[{ on := 2, ground := Go.Ground.guard }], guard := some (2, false) }) (v := ?_) rfl (by kernel_rfl) (by kernel_rfl) (by kernel_rfl) (fun _ _ _ h => h) (Or.inl ⟨by rfl, ?_⟩) (by assumption) ?_
          rotate_left
          · intro w hSw; (try dsimp only at hSw); go_simp; try (with_reducible rfl)
          simp only [Act.put, List.setIfInBounds_toArray, List.set_cons_zero, List.set_cons_succ]
          refine wpAnyH_ready (rs := [4]) (by kernel_rfl) (by simp) ?_
          refine AllReadyH.cons (o := { dst := some 104, op := Go.Op.call { callee := Go.Callee.value (Go.Operand.func 17), args := #[Go.Operand.tmp 103], argTypes := #[37] }, type := 4, pos := "outright.go:142", after := #[{ on := 3, ground := Go.Ground.data }, { on := 2, ground := Go.Ground.chain }, { on := 2, ground := Go.Ground.guard }], guard := some (2, false) }) rfl (fun K hK => ?_) AllReadyH.nil
          go_simp
          refine HLd.out.mono ?_
          rintro e w' ⟨rfl, rfl⟩
          go_wp2_with fail
          refine hK.out _ _ ?_ (fun hHeld => ?_)
          · exact kcell
          clear hK K
          refine wpAnyH_take (i := 5) (oi := { dst := some 105, op := Go.Op.unOp Go.UnOp.not 4 (Go.Operand.tmp 104), type := 4, pos := "outright.go:142", after := #[{ on := 4, ground := Go.Ground.data }, { on := 2, ground := Go.Ground.guard }], guard := some (2, false) }) (v := ?_) rfl (by kernel_rfl) (by kernel_rfl) (by kernel_rfl) (fun _ _ _ h => h) (Or.inl ⟨by rfl, ?_⟩) (by assumption) ?_
          rotate_left
          · intro w hSw; (try dsimp only at hSw); go_simp; try (with_reducible rfl)
          simp only [Act.put, List.setIfInBounds_toArray, List.set_cons_zero, List.set_cons_succ]
          refine wpAnyH_take (i := 6) (oi := { dst := some 106, op := Go.Op.pick (Go.Operand.tmp 102) (Go.Operand.const (Go.Value.bool true)) (Go.Operand.tmp 105), type := 4, pos := "outright.go:142", after := #[{ on := 2, ground := Go.Ground.data }, { on := 5, ground := Go.Ground.data }], guard := none }) (v := ?_) rfl (by kernel_rfl) (by kernel_rfl) (by kernel_rfl) (fun _ _ _ h => h) (Or.inl ⟨by rfl, ?_⟩) (by assumption) ?_
          rotate_left
          · intro w hSw; (try dsimp only at hSw); go_simp; try (with_reducible rfl)
          simp only [Act.put, List.setIfInBounds_toArray, List.set_cons_zero, List.set_cons_succ]
          refine wpAnyH_take (i := 7) (oi := { dst := some 107, op := Go.Op.move (Go.Operand.tmp 106), type := 4, pos := "outright.go:142", after := #[{ on := 6, ground := Go.Ground.data }, { on := 4, ground := Go.Ground.chain }], guard := none }) (v := ?_) rfl (by kernel_rfl) (by kernel_rfl) (by kernel_rfl) (fun _ _ _ h => h) (Or.inl ⟨by rfl, ?_⟩) (by assumption) ?_
          rotate_left
          · intro w hSw; (try dsimp only at hSw); go_simp; try (with_reducible rfl)
          simp only [Act.put, List.setIfInBounds_toArray, List.set_cons_zero, List.set_cons_succ]
          refine wpAnyH_take (i := 8) (oi := { dst := some 108, op := Go.Op.move (Go.Operand.tmp 15), type := 37, pos := "outright.go:142", after := #[{ on := 7, ground := Go.Ground.guard }], guard := some (7, false) }) (v := ?_) rfl (by kernel_rfl) (by kernel_rfl) (by kernel_rfl) (fun _ _ _ h => h) (Or.inl ⟨by rfl, ?_⟩) (by assumption) ?_
          rotate_left
          · intro w hSw; (try dsimp only at hSw); go_simp; try (with_reducible rfl)
          simp only [Act.put, List.setIfInBounds_toArray, List.set_cons_zero, List.set_cons_succ]
          refine wpAnyH_take (i := 10) (oi := { dst := some 110, op := Go.Op.move (Go.Operand.tmp 13), type := 54, pos := "outright.go:142", after := #[{ on := 7, ground := Go.Ground.guard }], guard := some (7, false) }) (v := ?_) rfl (by kernel_rfl) (by kernel_rfl) (by kernel_rfl) (fun _ _ _ h => h) (Or.inl ⟨by rfl, ?_⟩) (by assumption) ?_
          rotate_left
          · intro w hSw; (try dsimp only at hSw); go_simp; try (with_reducible rfl)
          simp only [Act.put, List.setIfInBounds_toArray, List.set_cons_zero, List.set_cons_succ]
          refine wpAnyH_take (i := 11) (oi := { dst := some 111, op := Go.Op.move (Go.Operand.tmp 14), type := 3, pos := "outright.go:142", after := #[{ on := 7, ground := Go.Ground.guard }], guard := some (7, false) }) (v := ?_) rfl (by kernel_rfl) (by kernel_rfl) (by kernel_rfl) (fun _ _ _ h => h) (Or.inl ⟨by rfl, ?_⟩) (by assumption) ?_
          rotate_left
          · intro w hSw; (try dsimp only at hSw); go_simp; try (with_reducible rfl)
          simp only [Act.put, List.setIfInBounds_toArray, List.set_cons_zero, List.set_cons_succ]
          refine wpAnyH_take (i := 12) (oi := { dst := some 112, op := Go.Op.indexAddr 54 (Go.Operand.tmp 110) (Go.Operand.tmp 111), type := 0, pos := "outright.go:142", after := #[{ on := 10, ground := Go.Ground.data }, { on := 11, ground := Go.Ground.data }, { on := 7, ground := Go.Ground.guard }], guard := some (7, false) }) (v := ?_) rfl (by kernel_rfl) (by kernel_rfl) (by kernel_rfl) (fun _ _ _ h => h) (Or.inl ⟨by rfl, ?_⟩) (by assumption) ?_
          rotate_left
          · intro w hSw; (try dsimp only at hSw); go_simp; try (with_reducible rfl)
          simp only [Act.put, List.setIfInBounds_toArray, List.set_cons_zero, List.set_cons_succ]
          refine wpAnyH_take (i := 13) (oi := { dst := some 113, op := Go.Op.load 25 (Go.Operand.tmp 112), type := 25, pos := "outright.go:142", after := #[{ on := 12, ground := Go.Ground.data }, { on := 7, ground := Go.Ground.guard }], guard := some (7, false) }) (v := ?_) rfl (by kernel_rfl) (by kernel_rfl) (by kernel_rfl) (fun _ _ _ h => h) (Or.inl ⟨by rfl, ?_⟩) (by assumption) ?_
          rotate_left
          · intro w hSw; (try dsimp only at hSw); go_simp; try (with_reducible rfl)
          simp only [Act.put, List.setIfInBounds_toArray, List.set_cons_zero, List.set_cons_succ]
          refine wpAnyH_ready (rs := [9]) (by kernel_rfl) (by simp) ?_
          refine AllReadyH.cons (o := { dst := some 109, op := Go.Op.call { callee := Go.Callee.value (Go.Operand.func 25), args := #[Go.Operand.tmp 108], argTypes := #[37] }, type := 25, pos := "outright.go:142", after := #[{ on := 8, ground := Go.Ground.data }, { on := 7, ground := Go.Ground.chain }, { on := 7, ground := Go.Ground.guard }], guard := some (7, false) }) rfl (fun K hK => ?_) AllReadyH.nil
          go_simp
          refine HId.out.mono ?_
          rintro e w' ⟨rfl, rfl⟩
          go_wp2_with fail
          refine hK.out _ _ ?_ (fun hHeld => ?_)
          · exact kcell
          clear hK K
          refine wpAnyH_take (i := 14) (oi := { dst := some 114, op := Go.Op.binOp Go.BinOp.neq 25 (Go.Operand.tmp 109) (Go.Operand.tmp 113) 25, type := 4, pos := "outright.go:142", after := #[{ on := 9, ground := Go.Ground.data }, { on := 13, ground := Go.Ground.data }, { on := 7, ground := Go.Ground.guard }], guard := some (7, false) }) (v := ?_) rfl (by kernel_rfl) (by kernel_rfl) (by kernel_rfl) (fun _ _ _ h => h) (Or.inl ⟨by rfl, ?_⟩) (by assumption) ?_
          rotate_left
          · intro w hSw; (try dsimp only at hSw); go_simp; try (with_reducible rfl)
          simp only [Act.put, List.setIfInBounds_toArray, List.set_cons_zero, List.set_cons_succ]
          refine wpAnyH_take (i := 15) (oi := { dst := some 115, op := Go.Op.pick (Go.Operand.tmp 107) (Go.Operand.const (Go.Value.bool true)) (Go.Operand.tmp 114), type := 4, pos := "outright.go:142", after := #[{ on := 7, ground := Go.Ground.data }, { on := 14, ground := Go.Ground.data }], guard := none }) (v := ?_) rfl (by kernel_rfl) (by kernel_rfl) (by kernel_rfl) (fun _ _ _ h => h) (Or.inl ⟨by rfl, ?_⟩) (by assumption) ?_
          rotate_left
          · intro w hSw; (try dsimp only at hSw); go_simp; try (with_reducible rfl)
          simp only [Act.put, List.setIfInBounds_toArray, List.set_cons_zero, List.set_cons_succ]
          refine wpAnyH_take (i := 16) (oi := { dst := some 116, op := Go.Op.move (Go.Operand.tmp 115), type := 4, pos := "outright.go:142", after := #[{ on := 15, ground := Go.Ground.data }, { on := 9, ground := Go.Ground.chain }], guard := none }) (v := ?_) rfl (by kernel_rfl) (by kernel_rfl) (by kernel_rfl) (fun _ _ _ h => h) (Or.inl ⟨by rfl, ?_⟩) (by assumption) ?_
          rotate_left
          · intro w hSw; (try dsimp only at hSw); go_simp; try (with_reducible rfl)
          simp only [Act.put, List.setIfInBounds_toArray, List.set_cons_zero, List.set_cons_succ]
          refine wpAnyH_take (i := 17) (oi := { dst := some 117, op := Go.Op.move (Go.Operand.tmp 13), type := 54, pos := "outright.go:142", after := #[{ on := 16, ground := Go.Ground.guard }], guard := some (16, false) }) (v := ?_) rfl (by kernel_rfl) (by kernel_rfl) (by kernel_rfl) (fun _ _ _ h => h) (Or.inl ⟨by rfl, ?_⟩) (by assumption) ?_
          rotate_left
          · intro w hSw; (try dsimp only at hSw); go_simp; try (with_reducible rfl)
          simp only [Act.put, List.setIfInBounds_toArray, List.set_cons_zero, List.set_cons_succ]
          refine wpAnyH_take (i := 18) (oi := { dst := some 118, op := Go.Op.move (Go.Operand.tmp 14), type := 3, pos := "outright.go:142", after := #[{ on := 16, ground := Go.Ground.guard }], guard := some (16, false) }) (v := ?_) rfl (by kernel_rfl) (by kernel_rfl) (by kernel_rfl) (fun _ _ _ h => h) (Or.inl ⟨by rfl, ?_⟩) (by assumption) ?_
          rotate_left
          · intro w hSw; (try dsimp only at hSw); go_simp; try (with_reducible rfl)
          simp only [Act.put, List.setIfInBounds_toArray, List.set_cons_zero, List.set_cons_succ]
          refine wpAnyH_take (i := 19) (oi := { dst := some 119, op := Go.Op.slice 54 (Go.Operand.tmp 117) none (some (Go.Operand.tmp 118)) none, type := 54, pos := "outright.go:142", after := #[{ on := 17, ground := Go.Ground.data }, { on := 18, ground := Go.Ground.data }, { on := 16, ground := Go.Ground.guard }], guard := some (16, false) }) (v := ?_) rfl (by kernel_rfl) (by kernel_rfl) (by kernel_rfl) (fun _ _ _ h => h) (Or.inl ⟨by rfl, ?_⟩) (by assumption) ?_
          rotate_left
          · intro w hSw; (try dsimp only at hSw); go_simp; try (with_reducible rfl)
          simp only [Act.put, List.setIfInBounds_toArray, List.set_cons_zero, List.set_cons_succ]
          refine wpAnyH_take (i := 20) (oi := { dst := some 120, op := Go.Op.move (Go.Operand.tmp 13), type := 54, pos := "outright.go:142", after := #[{ on := 16, ground := Go.Ground.guard }], guard := some (16, false) }) (v := ?_) rfl (by kernel_rfl) (by kernel_rfl) (by kernel_rfl) (fun _ _ _ h => h) (Or.inl ⟨by rfl, ?_⟩) (by assumption) ?_
          rotate_left
          · intro w hSw; (try dsimp only at hSw); go_simp; try (with_reducible rfl)
          simp only [Act.put, List.setIfInBounds_toArray, List.set_cons_zero, List.set_cons_succ]
          refine wpAnyH_take (i := 21) (oi := { dst := some 121, op := Go.Op.move (Go.Operand.tmp 14), type := 3, pos := "outright.go:142", after := #[{ on := 16, ground := Go.Ground.guard }], guard := some (16, false) }) (v := ?_) rfl (by kernel_rfl) (by kernel_rfl) (by kernel_rfl) (fun _ _ _ h => h) (Or.inl ⟨by rfl, ?_⟩) (by assumption) ?_
          rotate_left
          · intro w hSw; (try dsimp only at hSw); go_simp; try (with_reducible rfl)
          simp only [Act.put, List.setIfInBounds_toArray, List.set_cons_zero, List.set_cons_succ]
          refine wpAnyH_take (i := 22) (oi := { dst := some 122, op := Go.Op.indexAddr 54 (Go.Operand.tmp 120) (Go.Operand.tmp 121), type := 0, pos := "outright.go:142", after := #[{ on := 20, ground := Go.Ground.data }, { on := 21, ground := Go.Ground.data }, { on := 16, ground := Go.Ground.guard }], guard := some (16, false) }) (v := ?_) rfl (by kernel_rfl) (by kernel_rfl) (by kernel_rfl) (fun _ _ _ h => h) (Or.inl ⟨by rfl, ?_⟩) (by assumption) ?_
          rotate_left
          · intro w hSw; (try dsimp only at hSw); go_simp; try (with_reducible rfl)
          simp only [Act.put, List.setIfInBounds_toArray, List.set_cons_zero, List.set_cons_succ]
          refine wpAnyH_take (i := 23) (oi := { dst := some 123, op := Go.Op.load 25 (Go.Operand.tmp 122), type := 25, pos := "outright.go:142", after := #[{ on := 22, ground := Go.Ground.data }, { on := 16, ground := Go.Ground.guard }], guard := some (16, false) }) (v := ?_) rfl (by kernel_rfl) (by kernel_rfl) (by kernel_rfl) (fun _ _ _ h => h) (Or.inl ⟨by rfl, ?_⟩) (by assumption) ?_
          rotate_left
          · intro w hSw; (try dsimp only at hSw); go_simp; try (with_reducible rfl)
          simp only [Act.put, List.setIfInBounds_toArray, List.set_cons_zero, List.set_cons_succ]
          refine wpAnyH_ready (rs := [24]) (by kernel_rfl) (by simp) ?_
          refine AllReadyH.cons (o := { dst := some 124, op := Go.Op.call { callee := Go.Callee.value (Go.Operand.func 26), args := #[Go.Operand.tmp 119, Go.Operand.tmp 123], argTypes := #[54, 25] }, type := 4, pos := "outright.go:142", after := #[{ on := 19, ground := Go.Ground.data }, { on := 23, ground := Go.Ground.data }, { on := 16, ground := Go.Ground.chain }, { on := 16, ground := Go.Ground.guard }], guard := some (16, false) }) rfl (fun K hK => ?_) AllReadyH.nil
          go_simp
          refine HHs.out.mono ?_
          rintro e w' ⟨rfl, rfl⟩
          go_wp2_with fail
          refine hK.out _ _ ?_ (fun hHeld => ?_)
          · exact kcell
          clear hK K
          refine wpAnyH_take (i := 25) (oi := { dst := some 125, op := Go.Op.pick (Go.Operand.tmp 116) (Go.Operand.const (Go.Value.bool true)) (Go.Operand.tmp 124), type := 4, pos := "outright.go:142", after := #[{ on := 16, ground := Go.Ground.data }, { on := 24, ground := Go.Ground.data }], guard := none }) (v := ?_) rfl (by kernel_rfl) (by kernel_rfl) (by kernel_rfl) (fun _ _ _ h => h) (Or.inl ⟨by rfl, ?_⟩) (by assumption) ?_
          rotate_left
          · intro w hSw; (try dsimp only at hSw); go_simp; try (with_reducible rfl)
          simp only [Act.put, List.setIfInBounds_toArray, List.set_cons_zero, List.set_cons_succ]
          refine wpAnyH_done (by kernel_rfl) ?_ _
          generalize w5.drew = w6 at HB6 ⊢
          go_wp2_with fail
          exact ⟨⟨jj + 1, by simp, by omega, HB6⟩, by simp [intOf]; omega⟩
        · have hi2 : ¬ (jj : Int) < (ln : Int) := by omega
          go_wp2_with fail
          exact ⟨⟨k + 1, σ2, by simp, by omega, HS4⟩, by simp [intOf]; omega⟩
    · have hi1 : ¬ (k : Int) < (len : Int) := by omega
      have yo := HS.out.cok HRB.out
      go_wp2_with fail
      go_ret
      exact ⟨rfl, HS.out.bel⟩
end Go.Proofs.Ytjlhmgopmdcopaa

