/- The reader's value where something is wrong. -/
import Derived.Test.YtmmiiapfefmcjaaJ37
import Derived.Test.YtmmiiapfefmcjaaJ30
import Derived.Test.YtmmiiapfefmcjaaJ28
import Derived.Test.YtmmiiapfefmcjaaJ33
import Derived.Test.YtmmiiapfefmcjaaJ34
import Derived.Test.YtmmiiapfefmcjaaJ35
namespace Go.Proofs.Ytmmiiapfefmcjaa
open Go.RowKit

set_option maxRecDepth 100000 in
set_option maxHeartbeats 1000000 in
theorem bval_end (d : Int) (b : Nat) (a : Option Addr) (xs : List Int) (cap at' p : Nat) (w : World) (h : Rdr w b a xs cap at' p) (hx : xs[at']? = none) : Calls Try.prog 83 #[.pointer (some ⟨b, 0, none⟩), .int .i64 d] w fun x w' => x = Flt xs.length 4 ∧ But b w w' := by
  have HK : Hid (Calls Try.prog 110 #[.pointer (some ⟨b, 0, none⟩), .int .i64 d] w fun x w' => x = Flt xs.length 4 ∧ But b w w') := kind_bad1 b a xs cap at' p w h d hx
  obtain ⟨c0, c1, c2, f1, f2, rd, cp, ln, le, np⟩ := h
  clear rd hx
  go_enter Try.func83, Try.ntmps83
  go_wp2_with fail
  refine HK.out.mono ?_
  rintro e w1 ⟨rfl, hb1⟩
  exact ⟨rfl, rfl, hb1⟩
set_option maxRecDepth 100000 in
set_option maxHeartbeats 1000000 in
theorem bval_more (d : Int) (b : Nat) (a : Option Addr) (xs : List Int) (cap at' p : Nat) (w : World) (h : Rdr w b a xs cap at' p) (k : Int) (hx : xs[at']? = some k) (hp : 16384 ≤ p ∨ 64 < d) : Calls Try.prog 83 #[.pointer (some ⟨b, 0, none⟩), .int .i64 d] w fun x w' => x = Flt at' 2 ∧ But b w w' := by
  have HK : Hid (Calls Try.prog 110 #[.pointer (some ⟨b, 0, none⟩), .int .i64 d] w fun x w' => x = Flt at' 2 ∧ But b w w') := kind_bad2 b a xs cap at' p w h d k hx hp
  obtain ⟨c0, c1, c2, f1, f2, rd, cp, ln, le, np⟩ := h
  clear rd hx hp
  go_enter Try.func83, Try.ntmps83
  go_wp2_with fail
  refine HK.out.mono ?_
  rintro e w1 ⟨rfl, hb1⟩
  exact ⟨rfl, rfl, hb1⟩

theorem value_bad (xs : List Int) (hby : By xs) : ∀ f, f ≤ 64 → VB xs f
  | 0, _ => fun b a cap at' p q er w d hd h hr => by
    rw [Sp.rdV] at hr
    split at hr
    · rename_i hl
      injection hr with e1 e2; subst e1; subst e2
      exact bval_end d b a xs cap at' p w h (List.getElem?_eq_none_iff.2 hl)
    · rename_i hl
      injection hr with e1 e2; subst e1; subst e2
      exact bval_more d b a xs cap _ p w h _ (List.getElem?_eq_getElem (by omega)) (.inr (by omega))
  | f + 1, hf => fun b a cap at' p q er w d hd h hr => by
    have HC := value_ok xs hby f (by omega)
    have HV := value_bad xs hby f (by omega)
    rw [Sp.rdV] at hr
    cases hx : xs[at']? with
    | none =>
      rw [hx] at hr
      injection hr with e1 e2; subst e1; subst e2
      exact bval_end d b a xs cap at' p w h hx
    | some k =>
      rw [hx] at hr
      simp only at hr
      by_cases hp : 16384 ≤ p
      · rw [if_pos hp] at hr
        injection hr with e1 e2; subst e1; subst e2
        exact bval_more d b a xs cap _ p w h k hx (.inl hp)
      · rw [if_neg hp] at hr
        have hp : p < 16384 := by omega
        have hd4 : d ≤ 64 := by omega
        have hdf : d + 1 = 65 - (f : Int) := by omega
        unfold Sp.rdB at hr
        split at hr
        · simp at hr
        rename_i k1
        split at hr
        · rename_i hk; subst hk
          cases hc : xs[at' + 1]? with
          | none =>
            rw [hc] at hr
            injection hr with e1 e2; subst e1; subst e2
            exact bval_2a d b a xs cap at' p w h hp hd4 hx hc
          | some c =>
            rw [hc] at hr
            simp only at hr
            split at hr
            · rename_i hc1
              injection hr with e1 e2; subst e1; subst e2
              exact bval_2b d b a xs cap at' p w h hp hd4 hx c hc hc1
            · simp at hr
        rename_i k2
        split at hr
        · rename_i hk; subst hk
          cases hn : Sp.rn xs (at' + 1) 10 0 0 with
          | bad q1 e1 =>
            rw [hn] at hr
            injection hr with e1 e2; subst e1; subst e2
            exact bval_3 d b a xs cap at' p w h hp hd4 hx hby _ _ hn
          | ok n a' => rw [hn] at hr; simp at hr
        rename_i k3
        split at hr
        · rename_i hk; subst hk
          unfold Sp.tk at hr
          by_cases hl : at' + 1 + 8 ≤ xs.length
          · rw [if_pos hl] at hr; simp at hr
          · rw [if_neg hl] at hr
            injection hr with e1 e2; subst e1; subst e2
            exact bval_4 d b a xs cap at' p w h hp hd4 hx hl
        rename_i k4
        split at hr
        · rename_i hk
          cases hn : Sp.cnt xs (at' + 1) at' 65536 with
          | bad q1 e1 =>
            rw [hn] at hr
            injection hr with e1 e2; subst e1; subst e2
            rcases hk with rfl | rfl
            · exact bval_5a d b a xs cap at' p w h hp hd4 hx hby _ _ hn
            · exact bval_6a d b a xs cap at' p w h hp hd4 hx hby _ _ hn
          | ok n a' =>
            obtain ⟨hrn, hn4⟩ := cnt_ok hn
            rw [hn] at hr
            simp only at hr
            unfold Sp.tk at hr
            by_cases hl : a' + n ≤ xs.length
            · rw [if_pos hl] at hr; simp at hr
            · rw [if_neg hl] at hr
              injection hr with e1 e2; subst e1; subst e2
              rcases hk with rfl | rfl
              · exact bval_5b d b a xs cap at' p w h hp hd4 hx hby n a' hrn hn4 hl
              · exact bval_6b d b a xs cap at' p w h hp hd4 hx hby n a' hrn hn4 hl
        rename_i k56
        split at hr
        · rename_i hk; subst hk
          cases hn : Sp.rn xs (at' + 1) 10 0 0 with
          | bad q1 e1 =>
            rw [hn] at hr
            injection hr with e1 e2; subst e1; subst e2
            exact bval_7 d b a xs cap at' p w h hp hd4 hx hby _ _ hn
          | ok n a' => rw [hn] at hr; simp at hr
        rename_i k7
        split at hr
        · rename_i hk; subst hk
          cases hn : Sp.cnt xs (at' + 1) at' 4096 with
          | bad q1 e1 =>
            rw [hn] at hr
            injection hr with e1 e2; subst e1; subst e2
            exact bval_8a d b a xs cap at' p w h hp hd4 hx hby _ _ hn
          | ok n a' =>
            obtain ⟨hrn, hn4⟩ := cnt_ok hn
            rw [hn] at hr
            simp only at hr
            cases hL : Sp.rdL (Sp.rdV xs f) n a' (p + 1) with
            | bad q1 e1 =>
              rw [hL] at hr
              injection hr with e1 e2; subst e1; subst e2
              exact bval_8b d b a xs cap at' p w h hp hd4 hx hby f HC HV hdf (by omega) _ _ n a' hrn hn4 hL
            | ok lp a3 => rw [hL] at hr; simp at hr
        rename_i k8
        split at hr
        · rename_i hk; subst hk
          cases hL : Sp.rdD xs at' (Sp.rdV xs f) (at' + 1) (p + 1) with
          | bad q1 e1 =>
            rw [hL] at hr
            injection hr with e1 e2; subst e1; subst e2
            exact bval_9 d b a xs cap at' p w h hp hd4 hx hby f HC HV hdf (by omega) _ _ hL
          | ok lp a3 => rw [hL] at hr; simp at hr
        rename_i k9
        split at hr
        · rename_i hk; subst hk
          cases hN : Sp.rdN xs (at' + 1) at' with
          | bad q1 e1 =>
            rw [hN] at hr
            injection hr with e1 e2; subst e1; subst e2
            exact bval_10a d b a xs cap at' p w h hp hd4 hx hby _ _ hN
          | ok c a' =>
            obtain ⟨nn, an, hrn, hn32, hle, rfl, rfl, hnm⟩ := rdN_ok hN
            rw [hN] at hr
            simp only at hr
            cases hv : Sp.rn xs (an + nn) 10 0 0 with
            | bad q1 e1 =>
              rw [hv] at hr
              injection hr with e1 e2; subst e1; subst e2
              exact bval_10b d b a xs cap at' p w h hp hd4 hx hby nn an hrn hn32 hle hnm _ _ hv
            | ok v a4 =>
              rw [hv] at hr
              simp only at hr
              split at hr
              · rename_i hv1
                injection hr with e1 e2; subst e1; subst e2
                exact bval_10c d b a xs cap _ p w h hp hd4 hx hby nn an hrn hn32 hle hnm v a4 hv hv1
              · rename_i hv1
                cases hL : Sp.rdD xs at' (Sp.rdV xs f) a4 (p + 1) with
                | bad q1 e1 =>
                  rw [hL] at hr
                  injection hr with e1 e2; subst e1; subst e2
                  exact bval_10d d b a xs cap at' p w h hp hd4 hx hby nn an hrn hn32 hle hnm v a4 hv (by omega) f HC HV hdf (by omega) _ _ hL
                | ok lp a3 => rw [hL] at hr; simp at hr
        · rename_i k10
          injection hr with e1 e2; subst e1; subst e2
          exact bval_0 d b a xs cap _ p w h hp hd4 k hx k1 k2 k3 k4 (by omega) (by omega) k7 k8 k9 k10
end Go.Proofs.Ytmmiiapfefmcjaa

/- wire.look, Decode and Skip at bytes that begin with no value. -/
namespace Go.Proofs.Ytmmiiapfefmcjaa
open Go.RowKit

set_option maxRecDepth 100000 in
set_option maxHeartbeats 1000000 in
theorem look_bad (xs : List Int) (hby : By xs) (q : Nat) (er : Int) (hr : Sp.rdV xs 64 0 0 = .bad q er) (a : Option Addr) (cap : Nat) (w : World) (hrd : RdB w (Lo w.heap.size) a xs) (hcp : xs.length ≤ cap) (hln : xs.length ≤ 281474976710656) :
    Calls Try.prog 47 #[.slice a xs.length cap] w fun e w' => e = .returned (.tuple #[.int .i64 (q : Int), .int .i64 er]) ∧ Below w.heap.size w w' := by
  have hmf : ∀ (fn : Fn) (first cap : Array Value) (w : World), (Instr.makeFunc fn first cap).run Try.prog w = .ok (.func fn first cap) w := fun _ _ _ _ => rfl
  have HX : Hid (By xs ∧ Sp.rdV xs 64 0 0 = .bad q er ∧ RdB w (Lo w.heap.size) a xs ∧ xs.length ≤ cap ∧ xs.length ≤ 281474976710656) := ⟨hby, hr, hrd, hcp, hln⟩
  clear hby hr hrd hcp hln
  go_enter_defers Try.func47, Try.ntmps47
  go_wp2_with fail
  show Calls Try.prog _ _ (lookW w a xs.length cap) _
  obtain ⟨hR, hbW, hzW, hW0, hW1⟩ := lookW_rdr w a xs cap HX.out.2.2.1 HX.out.2.2.2.1 HX.out.2.2.2.2
  refine (value_bad xs HX.out.1 64 (Nat.le_refl _) (w.heap.size + 1 + 1) a cap 0 0 q er _ 1 rfl hR HX.out.2.1).mono ?_
  rintro e w1 ⟨rfl, hb1⟩
  have hB0 := hb1.block w.heap.size (by omega) (by omega)
  have hB1 := hb1.block (w.heap.size + 1) (by omega) (by omega)
  rw [hW0] at hB0
  rw [hW1] at hB1
  have e0 : w1.cell? ⟨w.heap.size, 0, none⟩ = some (.int .i64 0) := by rw [cell_of_row _ _ 0 _ _ _ hB0]; rfl
  have e1 : w1.cell? ⟨w.heap.size + 1, 0, none⟩ = some (.int .i64 0) := by rw [cell_of_row _ _ 0 _ _ _ hB1]; rfl
  have z0 : w1.frozen? ⟨w.heap.size, 0, none⟩ = false := frozen_of_row _ _ 0 _ _ hB0
  have z1 : w1.frozen? ⟨w.heap.size + 1, 0, none⟩ = false := frozen_of_row _ _ 0 _ _ hB1
  have HB : Hid (Below w.heap.size w w1) := hbW.trans (hb1.below (by omega))
  clear hb1 hR hbW hzW hW0 hW1 hB0 hB1
  refine leaves_cons (f := 82) (args := #[.pointer (some ⟨w.heap.size, 0, none⟩), .pointer (some ⟨w.heap.size + 1, 0, none⟩)]) (by simp) (by simp [go_sem]) ?_
  refine (catch_fault w.heap.size (w.heap.size + 1) 0 0 q er [] w1 e0 e1 z0 z1 (by omega)).mono ?_
  rintro e u' w2 ⟨rfl, rfl, d0, d1, hbb⟩
  simp [Leaves, settle, results, Try.results47, go_sem, d0, d1]
  exact HB.out.trans (hbb _ (Nat.le_refl _) (Nat.le_succ _))

set_option maxRecDepth 100000 in
set_option maxHeartbeats 1000000 in
theorem Decode_bad (xs : List Int) (hby : By xs) (q : Nat) (er : Int) (hr : Sp.rdV xs 64 0 0 = .bad q er) (her : er ≠ 0) (a : Option Addr) (cap : Nat) (w : World) (hrd : RdB w (Lo w.heap.size) a xs) (hcp : xs.length ≤ cap) (hln : xs.length ≤ 281474976710656) :
    Calls Try.prog 24 #[.slice a xs.length cap] w fun e w' => e = .returned (.tuple #[.nilIface, .int .i64 (q : Int), .int .i64 er]) ∧ Below w.heap.size w w' := by
  have HL : Hid (Calls Try.prog 47 #[.slice a xs.length cap] w fun e w' => e = .returned (.tuple #[.int .i64 (q : Int), .int .i64 er]) ∧ Below w.heap.size w w') := look_bad xs hby q er hr a cap w hrd hcp hln
  have he : (er != 0) = true := by simp [her]
  clear hr hby hrd her
  go_enter Try.func24, Try.ntmps24
  go_wp2_with fail
  refine HL.out.mono ?_
  rintro e w1 ⟨rfl, hb1⟩
  go_wp2_with fail
  go_ret3
  exact ⟨rfl, hb1⟩
end Go.Proofs.Ytmmiiapfefmcjaa

/- What WireDecodes wants of the rows and of Decode. -/
namespace Go.Proofs.Ytmmiiapfefmcjaa
open Go.RowKit

end Go.Proofs.Ytmmiiapfefmcjaa

/- Values one behind the other, plainly; rows that grow. -/
namespace Go.Proofs.Ytmmiiapfefmcjaa
open Go.RowKit

/-- all values from at' on: f is more than how many bytes are left -/
def Sp.rdA (xs : List Int) : Nat → Nat → Rs TmL
  | 0, at' => .ok .nil at'
  | f + 1, at' => if xs.length ≤ at' then .ok .nil at' else match Sp.rdV (xs.drop at') 64 0 0 with
    | .bad q e => .bad (at' + q) e
    | .ok (t, _) n => match Sp.rdA xs f (at' + n) with
      | .bad q e => .bad q e
      | .ok l a => .ok (.cons t l) a
theorem enc_pos (t : Tm) (h : t.all.e = 0) : 1 ≤ t.enc.length := by
  have ho := Tm.ok_all h
  cases t with
  | mk k b i f tx by' rf l fs c v =>
    obtain ⟨p1, p2, _, _⟩ := ho.parts
    have hk : k = 1 ∨ k = 2 ∨ k = 3 ∨ k = 4 ∨ k = 5 ∨ k = 6 ∨ k = 7 ∨ k = 8 ∨ k = 9 ∨ k = 10 := by omega
    rcases hk with rfl | rfl | rfl | rfl | rfl | rfl | rfl | rfl | rfl | rfl
    · rw [Tm.enc_1]; simp
    · rw [Tm.enc_2]; simp
    · rw [Tm.enc_3]; simp
    · rw [Tm.enc_4]; simp
    · rw [Tm.enc_5]; simp
    · rw [Tm.enc_6]; simp
    · rw [Tm.enc_7]; simp
    · rw [Tm.enc_8]; simp
    · rw [Tm.enc_9]; simp
    · rw [Tm.enc_10]; simp
theorem rd_len {xs : List Int} (hby : By xs) {t : Tm} {p2 n : Nat} (h : Sp.rdV xs 64 0 0 = .ok (t, p2) n) : 1 ≤ n ∧ n ≤ xs.length ∧ t.all.e = 0 := by
  obtain ⟨h1, _, _, h4, h5, _⟩ := rd_snd hby h
  exact ⟨by rw [h4]; exact enc_pos t h1, h5, h1⟩
theorem By.drop {xs : List Int} (h : By xs) (n : Nat) : By (xs.drop n) := fun x hx => h x (List.mem_of_mem_drop hx)
theorem rdb_drop {w : World} {B : Nat → Prop} {g o : Nat} {xs : List Int} (h : RdB w B (some ⟨g, o, none⟩) xs) (k : Nat) : RdB w B (some ⟨g, o + k, none⟩) (xs.drop k) := fun j u hu => by
  rw [List.getElem?_drop] at hu
  obtain ⟨g', o', e, hg, hc⟩ := h (k + j) u hu
  simp only [Option.some.injEq, Addr.mk.injEq, and_true] at e
  obtain ⟨rfl, rfl⟩ := e
  exact ⟨g, o + k, rfl, hg, by rw [Nat.add_assoc]; exact hc⟩
theorem decX_ok (ys : List Int) (hby : By ys) (t : Tm) (p2 n : Nat) (hr : Sp.rdV ys 64 0 0 = .ok (t, p2) n) (g o cap : Nat) (w : World) (hrd : RdB w (Lo w.heap.size) (some ⟨g, o, none⟩) ys) (hcp : ys.length ≤ cap) (hln : ys.length ≤ 281474976710656) :
    Calls Try.prog 24 #[.slice (some ⟨g, o, none⟩) ys.length cap] w fun e w' => ∃ v, e = .returned (.tuple #[v, .int .i64 (n : Int), .int .i64 0]) ∧ Below w.heap.size w w' ∧ t.V w' (Fr w w') v := by
  obtain ⟨h1, h2, h3, h4, h5, h6⟩ := rd_snd hby hr
  obtain ⟨q, hq⟩ := rd_enc t [] h1 h2
  rw [List.append_nil, h3, ← h4, ← h6] at hq
  exact Decode_ok ys hby t p2 q n hr hq h5 g o cap w hrd hcp hln
/-- a row that grows, of a type e of sz cells -/
structure QR (e : TypeId) (sz : Nat) (w wr : World) (v : Value) (j : Nat) (cs : List Value) : Prop where
  bel : Below w.heap.size w wr
  own : wr.ownsRow w.heap.size e sz v j cs
/-- the blocks made since b but v's own -/
def OwnV (b : Nat) (wr : World) (v : Value) : Nat → Prop := fun k => b ≤ k ∧ k < wr.heap.size ∧ v.ownBlock ≠ some k
theorem QR.call {e : TypeId} {sz : Nat} {w wr w1 : World} {v : Value} {j : Nat} {cs : List Value} (h : QR e sz w wr v j cs) (hb : Below wr.heap.size wr w1) : QR e sz w w1 v j cs :=
  ⟨below_to h.bel hb, owns_below hb h.own⟩
theorem QR.app {e : TypeId} {sz : Nat} {w U w3 : World} {v : Value} {j : Nat} {cs : List Value} (h : QR e sz w U v j cs) {o : Obj} {c1 : List Value} {g' cap' : Nat} (ho : w3.ownsRow w.heap.size e sz (.slice (some ⟨g', 0, none⟩) (j + 1) cap') (j + 1) (cs ++ c1)) (hg : (U.alloc o).grownBy w3 v.ownBlock) (hor : v.ownBlock = some g' ∨ g' = U.heap.size + 1) :
    QR e sz w w3 (.slice (some ⟨g', 0, none⟩) (j + 1) cap') (j + 1) (cs ++ c1) ∧ (∀ k, k < U.heap.size → v.ownBlock ≠ some k → w3.heap[k]? = U.heap[k]? ∧ (Value.slice (some ⟨g', 0, none⟩) (j + 1) cap').ownBlock ≠ some k) ∧ U.heap.size ≤ w3.heap.size := by
  have hz3 := hg.size
  simp at hz3
  have hz0 := h.bel.size
  have hB : Below w.heap.size w w3 := (h.bel.alloc hz0 o).grown hg (by simp; omega) (fun k e => (owns_at h.own k e).1)
  refine ⟨⟨hB, ho⟩, fun k k2 k3 => ⟨by rw [hg.block k (by simp; omega) (fun e => k3 e.symm), Below.heap_alloc _ _ _ k2], ?_⟩, by omega⟩
  intro e
  simp only [Value.ownBlock, Option.some.injEq] at e
  subst e
  rcases hor with e | e
  · exact k3 e
  · omega
/-- what the step of a loop keeps of the blocks: from wr by a call to w1 (some blocks of U may have turned besides), and by an append to w3 -/
theorem ownV_keep {w wr w3 : World} {v v' : Value} (hz : wr.heap.size ≤ w3.heap.size) (hA : ∀ k, w.heap.size ≤ k → k < wr.heap.size → v.ownBlock ≠ some k → w3.heap[k]? = wr.heap[k]? ∧ v'.ownBlock ≠ some k) : Same (OwnV w.heap.size wr v) wr w3 ∧ ∀ k, OwnV w.heap.size wr v k → OwnV w.heap.size w3 v' k :=
  ⟨fun k hk => (hA k hk.1 hk.2.1 hk.2.2).1, fun k hk => ⟨hk.1, by have := hk.2.1; omega, (hA k hk.1 hk.2.1 hk.2.2).2⟩⟩
/-- what has been read: pr tells that the terms of L but those of the rest lie there -/
def AI (xs : List Int) (f at' : Nat) (pr : TmL → TmL → Prop) : Prop :=
  xs.length < f + at' ∧ at' ≤ xs.length ∧ (∀ L a, Sp.rdA xs (xs.length + 1) 0 = .ok L a → ∃ l, Sp.rdA xs f at' = .ok l a ∧ pr L l) ∧ (∀ q e, Sp.rdA xs (xs.length + 1) 0 = .bad q e → Sp.rdA xs f at' = .bad q e)
theorem AI.next {xs : List Int} {f at' : Nat} {pr pr' : TmL → TmL → Prop} {t : Tm} {p2 n : Nat} (hby : By xs) (h : AI xs f at' pr) (hlt : at' < xs.length) (hr : Sp.rdV (xs.drop at') 64 0 0 = .ok (t, p2) n) (hP : ∀ L l, pr L (.cons t l) → pr' L l) : AI xs (f - 1) (at' + n) pr' ∧ 1 ≤ n := by
  obtain ⟨h1, h2, h3, h4⟩ := h
  obtain ⟨n1, n2, _⟩ := rd_len (hby.drop at') hr
  rw [List.length_drop] at n2
  cases f with
  | zero => omega
  | succ f =>
    refine ⟨⟨by omega, by omega, fun L a hL => ?_, fun q e hq => ?_⟩, n1⟩
    · obtain ⟨l, hl, hp⟩ := h3 L a hL
      rw [Sp.rdA, if_neg (by omega), hr] at hl
      dsimp only at hl
      split at hl
      · cases hl
      · rename_i l2 a2 heq
        injection hl with e1 e2
        subst e1 e2
        exact ⟨l2, heq, hP L l2 hp⟩
    · have hl := h4 q e hq
      rw [Sp.rdA, if_neg (by omega), hr] at hl
      dsimp only at hl
      split at hl
      · rename_i q2 e2 heq
        injection hl with e1 e2
        subst e1 e2
        exact heq
      · cases hl
theorem AI.bad {xs : List Int} {f at' : Nat} {pr : TmL → TmL → Prop} {q : Nat} {e : Int} (h : AI xs f at' pr) (hlt : at' < xs.length) (hr : Sp.rdV (xs.drop at') 64 0 0 = .bad q e) : Sp.rdA xs (xs.length + 1) 0 = .bad (at' + q) e := by
  obtain ⟨h1, h2, h3, h4⟩ := h
  cases f with
  | zero => omega
  | succ f =>
    have hb : Sp.rdA xs (f + 1) at' = .bad (at' + q) e := by rw [Sp.rdA, if_neg (by omega), hr]
    cases hc : Sp.rdA xs (xs.length + 1) 0 with
    | ok L a => obtain ⟨l, hl, _⟩ := h3 L a hc; rw [hb] at hl; cases hl
    | bad q2 e2 => rw [← h4 q2 e2 hc, hb]
theorem AI.fin {xs : List Int} {f at' : Nat} {pr : TmL → TmL → Prop} (h : AI xs f at' pr) (hge : xs.length ≤ at') : ∃ L, Sp.rdA xs (xs.length + 1) 0 = .ok L at' ∧ pr L .nil := by
  obtain ⟨h1, h2, h3, h4⟩ := h
  have hz : Sp.rdA xs f at' = .ok .nil at' := by
    cases f with
    | zero => rfl
    | succ f => rw [Sp.rdA, if_pos hge]
  cases hc : Sp.rdA xs (xs.length + 1) 0 with
  | ok L a =>
    obtain ⟨l, hl, hp⟩ := h3 L a hc
    rw [hz] at hl
    injection hl with e1 e2
    subst e1 e2
    exact ⟨L, rfl, hp⟩
  | bad q2 e2 => have := h4 q2 e2 hc; rw [hz] at this; cases this
theorem AI.start (xs : List Int) (pr : TmL → TmL → Prop) (hp : ∀ L, pr L L) : AI xs (xs.length + 1) 0 pr := ⟨by omega, by omega, fun L a h => ⟨L, h, hp L⟩, fun q e h => h⟩
end Go.Proofs.Ytmmiiapfefmcjaa

