/- The reader's value where something is wrong. -/
import Derived.Test.YtmmiiapfefmcjaaA38
import Derived.Test.YtmmiiapfefmcjaaA33
import Derived.Test.YtmmiiapfefmcjaaA31
import Derived.Test.YtmmiiapfefmcjaaA35
import Derived.Test.YtmmiiapfefmcjaaA36
namespace Go.Proofs.Ytmmiiapfefmcjaa
open Go.RowKit

set_option maxRecDepth 100000 in
set_option maxHeartbeats 1000000 in
theorem bval_end (d : Int) (b : Nat) (a : Option Addr) (xs : List Int) (cap at' p : Nat) (w : World) (h : Rdr w b a xs cap at' p) (hx : xs[at']? = none) : Calls Try.prog 83 #[.pointer (some ⟨b, 0, none⟩), .int .i64 d] w fun x w' => x = Flt xs.length 4 ∧ But b w w' := by
  have HK : Hid (Calls Try.prog 110 #[.pointer (some ⟨b, 0, none⟩), .int .i64 d] w fun x w' => x = Flt xs.length 4 ∧ But b w w') := kind_bad1 b a xs cap at' p w h d hx
  obtain ⟨c0, c1, c2, f1, f2, rd, cp, ln, le, np⟩ := h
  clear rd hx
  go_enter Try.func83, Try.ntmps83
  go_wp2_with fail
  refine HK.out.mono ?_
  rintro e w1 ⟨rfl, hb1⟩
  exact ⟨rfl, rfl, hb1⟩
set_option maxRecDepth 100000 in
set_option maxHeartbeats 1000000 in
theorem bval_more (d : Int) (b : Nat) (a : Option Addr) (xs : List Int) (cap at' p : Nat) (w : World) (h : Rdr w b a xs cap at' p) (k : Int) (hx : xs[at']? = some k) (hp : 16384 ≤ p ∨ 64 < d) : Calls Try.prog 83 #[.pointer (some ⟨b, 0, none⟩), .int .i64 d] w fun x w' => x = Flt at' 2 ∧ But b w w' := by
  have HK : Hid (Calls Try.prog 110 #[.pointer (some ⟨b, 0, none⟩), .int .i64 d] w fun x w' => x = Flt at' 2 ∧ But b w w') := kind_bad2 b a xs cap at' p w h d k hx hp
  obtain ⟨c0, c1, c2, f1, f2, rd, cp, ln, le, np⟩ := h
  clear rd hx hp
  go_enter Try.func83, Try.ntmps83
  go_wp2_with fail
  refine HK.out.mono ?_
  rintro e w1 ⟨rfl, hb1⟩
  exact ⟨rfl, rfl, hb1⟩

theorem value_bad (xs : List Int) (hby : By xs) : ∀ f, f ≤ 64 → VB xs f
  | 0, _ => fun b a cap at' p q er w d hd h hr => by
    rw [Sp.rdV] at hr
    split at hr
    · rename_i hl
      injection hr with e1 e2; subst e1; subst e2
      exact bval_end d b a xs cap at' p w h (List.getElem?_eq_none_iff.2 hl)
    · rename_i hl
      injection hr with e1 e2; subst e1; subst e2
      exact bval_more d b a xs cap _ p w h _ (List.getElem?_eq_getElem (by omega)) (.inr (by omega))
  | f + 1, hf => fun b a cap at' p q er w d hd h hr => by
    have HC := value_ok xs hby f (by omega)
    have HV := value_bad xs hby f (by omega)
    rw [Sp.rdV] at hr
    cases hx : xs[at']? with
    | none =>
      rw [hx] at hr
      injection hr with e1 e2; subst e1; subst e2
      exact bval_end d b a xs cap at' p w h hx
    | some k =>
      rw [hx] at hr
      simp only at hr
      by_cases hp : 16384 ≤ p
      · rw [if_pos hp] at hr
        injection hr with e1 e2; subst e1; subst e2
        exact bval_more d b a xs cap _ p w h k hx (.inl hp)
      · rw [if_neg hp] at hr
        have hp : p < 16384 := by omega
        have hd4 : d ≤ 64 := by omega
        have hdf : d + 1 = 65 - (f : Int) := by omega
        unfold Sp.rdB at hr
        split at hr
        · simp at hr
        rename_i k1
        split at hr
        · rename_i hk; subst hk
          cases hc : xs[at' + 1]? with
          | none =>
            rw [hc] at hr
            injection hr with e1 e2; subst e1; subst e2
            exact bval_2a d b a xs cap at' p w h hp hd4 hx hc
          | some c =>
            rw [hc] at hr
            simp only at hr
            split at hr
            · rename_i hc1
              injection hr with e1 e2; subst e1; subst e2
              exact bval_2b d b a xs cap at' p w h hp hd4 hx c hc hc1
            · simp at hr
        rename_i k2
        split at hr
        · rename_i hk; subst hk
          cases hn : Sp.rn xs (at' + 1) 10 0 0 with
          | bad q1 e1 =>
            rw [hn] at hr
            injection hr with e1 e2; subst e1; subst e2
            exact bval_3 d b a xs cap at' p w h hp hd4 hx hby _ _ hn
          | ok n a' => rw [hn] at hr; simp at hr
        rename_i k3
        split at hr
        · rename_i hk; subst hk
          unfold Sp.tk at hr
          by_cases hl : at' + 1 + 8 ≤ xs.length
          · rw [if_pos hl] at hr; simp at hr
          · rw [if_neg hl] at hr
            injection hr with e1 e2; subst e1; subst e2
            exact bval_4 d b a xs cap at' p w h hp hd4 hx hl
        rename_i k4
        split at hr
        · rename_i hk
          cases hn : Sp.cnt xs (at' + 1) at' 65536 with
          | bad q1 e1 =>
            rw [hn] at hr
            injection hr with e1 e2; subst e1; subst e2
            rcases hk with rfl | rfl
            · exact bval_5a d b a xs cap at' p w h hp hd4 hx hby _ _ hn
            · exact bval_6a d b a xs cap at' p w h hp hd4 hx hby _ _ hn
          | ok n a' =>
            obtain ⟨hrn, hn4⟩ := cnt_ok hn
            rw [hn] at hr
            simp only at hr
            unfold Sp.tk at hr
            by_cases hl : a' + n ≤ xs.length
            · rw [if_pos hl] at hr; simp at hr
            · rw [if_neg hl] at hr
              injection hr with e1 e2; subst e1; subst e2
              rcases hk with rfl | rfl
              · exact bval_5b d b a xs cap at' p w h hp hd4 hx hby n a' hrn hn4 hl
              · exact bval_6b d b a xs cap at' p w h hp hd4 hx hby n a' hrn hn4 hl
        rename_i k56
        split at hr
        · rename_i hk; subst hk
          cases hn : Sp.rn xs (at' + 1) 10 0 0 with
          | bad q1 e1 =>
            rw [hn] at hr
            injection hr with e1 e2; subst e1; subst e2
            exact bval_7 d b a xs cap at' p w h hp hd4 hx hby _ _ hn
          | ok n a' => rw [hn] at hr; simp at hr
        rename_i k7
        split at hr
        · rename_i hk; subst hk
          cases hn : Sp.cnt xs (at' + 1) at' 4096 with
          | bad q1 e1 =>
            rw [hn] at hr
            injection hr with e1 e2; subst e1; subst e2
            exact bval_8a d b a xs cap at' p w h hp hd4 hx hby _ _ hn
          | ok n a' =>
            obtain ⟨hrn, hn4⟩ := cnt_ok hn
            rw [hn] at hr
            simp only at hr
            cases hL : Sp.rdL (Sp.rdV xs f) n a' (p + 1) with
            | bad q1 e1 =>
              rw [hL] at hr
              injection hr with e1 e2; subst e1; subst e2
              exact bval_8b d b a xs cap at' p w h hp hd4 hx hby f HC HV hdf (by omega) _ _ n a' hrn hn4 hL
            | ok lp a3 => rw [hL] at hr; simp at hr
        rename_i k8
        split at hr
        · rename_i hk; subst hk
          cases hL : Sp.rdD xs at' (Sp.rdV xs f) (at' + 1) (p + 1) with
          | bad q1 e1 =>
            rw [hL] at hr
            injection hr with e1 e2; subst e1; subst e2
            exact bval_9 d b a xs cap at' p w h hp hd4 hx hby f HC HV hdf (by omega) _ _ hL
          | ok lp a3 => rw [hL] at hr; simp at hr
        rename_i k9
        split at hr
        · rename_i hk; subst hk
          cases hN : Sp.rdN xs (at' + 1) at' with
          | bad q1 e1 =>
            rw [hN] at hr
            injection hr with e1 e2; subst e1; subst e2
            exact bval_10a d b a xs cap at' p w h hp hd4 hx hby _ _ hN
          | ok c a' =>
            obtain ⟨nn, an, hrn, hn32, hle, rfl, rfl, hnm⟩ := rdN_ok hN
            rw [hN] at hr
            simp only at hr
            cases hv : Sp.rn xs (an + nn) 10 0 0 with
            | bad q1 e1 =>
              rw [hv] at hr
              injection hr with e1 e2; subst e1; subst e2
              exact bval_10b d b a xs cap at' p w h hp hd4 hx hby nn an hrn hn32 hle hnm _ _ hv
            | ok v a4 =>
              rw [hv] at hr
              simp only at hr
              split at hr
              · rename_i hv1
                injection hr with e1 e2; subst e1; subst e2
                exact bval_10c d b a xs cap _ p w h hp hd4 hx hby nn an hrn hn32 hle hnm v a4 hv hv1
              · rename_i hv1
                cases hL : Sp.rdD xs at' (Sp.rdV xs f) a4 (p + 1) with
                | bad q1 e1 =>
                  rw [hL] at hr
                  injection hr with e1 e2; subst e1; subst e2
                  exact bval_10d d b a xs cap at' p w h hp hd4 hx hby nn an hrn hn32 hle hnm v a4 hv (by omega) f HC HV hdf (by omega) _ _ hL
                | ok lp a3 => rw [hL] at hr; simp at hr
        · rename_i k10
          injection hr with e1 e2; subst e1; subst e2
          exact bval_0 d b a xs cap _ p w h hp hd4 k hx k1 k2 k3 k4 (by omega) (by omega) k7 k8 k9 k10
end Go.Proofs.Ytmmiiapfefmcjaa

/- wire.look, Decode and Skip at bytes that begin with no value. -/
namespace Go.Proofs.Ytmmiiapfefmcjaa
open Go.RowKit

set_option maxRecDepth 100000 in
set_option maxHeartbeats 1000000 in
theorem look_bad (xs : List Int) (hby : By xs) (q : Nat) (er : Int) (hr : Sp.rdV xs 64 0 0 = .bad q er) (a : Option Addr) (cap : Nat) (w : World) (hrd : RdB w (Lo w.heap.size) a xs) (hcp : xs.length ≤ cap) (hln : xs.length ≤ 281474976710656) :
    Calls Try.prog 47 #[.slice a xs.length cap] w fun e w' => e = .returned (.tuple #[.int .i64 (q : Int), .int .i64 er]) ∧ Below w.heap.size w w' := by
  have hmf : ∀ (fn : Fn) (first cap : Array Value) (w : World), (Instr.makeFunc fn first cap).run Try.prog w = .ok (.func fn first cap) w := fun _ _ _ _ => rfl
  have HX : Hid (By xs ∧ Sp.rdV xs 64 0 0 = .bad q er ∧ RdB w (Lo w.heap.size) a xs ∧ xs.length ≤ cap ∧ xs.length ≤ 281474976710656) := ⟨hby, hr, hrd, hcp, hln⟩
  clear hby hr hrd hcp hln
  go_enter_defers Try.func47, Try.ntmps47
  go_wp2_with fail
  show Calls Try.prog _ _ (lookW w a xs.length cap) _
  obtain ⟨hR, hbW, hzW, hW0, hW1⟩ := lookW_rdr w a xs cap HX.out.2.2.1 HX.out.2.2.2.1 HX.out.2.2.2.2
  refine (value_bad xs HX.out.1 64 (Nat.le_refl _) (w.heap.size + 1 + 1) a cap 0 0 q er _ 1 rfl hR HX.out.2.1).mono ?_
  rintro e w1 ⟨rfl, hb1⟩
  have hB0 := hb1.block w.heap.size (by omega) (by omega)
  have hB1 := hb1.block (w.heap.size + 1) (by omega) (by omega)
  rw [hW0] at hB0
  rw [hW1] at hB1
  have e0 : w1.cell? ⟨w.heap.size, 0, none⟩ = some (.int .i64 0) := by rw [cell_of_row _ _ 0 _ _ _ hB0]; rfl
  have e1 : w1.cell? ⟨w.heap.size + 1, 0, none⟩ = some (.int .i64 0) := by rw [cell_of_row _ _ 0 _ _ _ hB1]; rfl
  have z0 : w1.frozen? ⟨w.heap.size, 0, none⟩ = false := frozen_of_row _ _ 0 _ _ hB0
  have z1 : w1.frozen? ⟨w.heap.size + 1, 0, none⟩ = false := frozen_of_row _ _ 0 _ _ hB1
  have HB : Hid (Below w.heap.size w w1) := hbW.trans (hb1.below (by omega))
  clear hb1 hR hbW hzW hW0 hW1 hB0 hB1
  refine leaves_cons (f := 82) (args := #[.pointer (some ⟨w.heap.size, 0, none⟩), .pointer (some ⟨w.heap.size + 1, 0, none⟩)]) (by simp) (by simp [go_sem]) ?_
  refine (catch_fault w.heap.size (w.heap.size + 1) 0 0 q er [] w1 e0 e1 z0 z1 (by omega)).mono ?_
  rintro e u' w2 ⟨rfl, rfl, d0, d1, hbb⟩
  simp [Leaves, settle, results, Try.results47, go_sem, d0, d1]
  exact HB.out.trans (hbb _ (Nat.le_refl _) (Nat.le_succ _))

set_option maxRecDepth 100000 in
set_option maxHeartbeats 1000000 in
theorem Decode_bad (xs : List Int) (hby : By xs) (q : Nat) (er : Int) (hr : Sp.rdV xs 64 0 0 = .bad q er) (her : er ≠ 0) (a : Option Addr) (cap : Nat) (w : World) (hrd : RdB w (Lo w.heap.size) a xs) (hcp : xs.length ≤ cap) (hln : xs.length ≤ 281474976710656) :
    Calls Try.prog 24 #[.slice a xs.length cap] w fun e w' => e = .returned (.tuple #[.nilIface, .int .i64 (q : Int), .int .i64 er]) ∧ Below w.heap.size w w' := by
  have HL : Hid (Calls Try.prog 47 #[.slice a xs.length cap] w fun e w' => e = .returned (.tuple #[.int .i64 (q : Int), .int .i64 er]) ∧ Below w.heap.size w w') := look_bad xs hby q er hr a cap w hrd hcp hln
  have he : (er != 0) = true := by simp [her]
  clear hr hby hrd her
  go_enter Try.func24, Try.ntmps24
  go_wp2_with fail
  refine HL.out.mono ?_
  rintro e w1 ⟨rfl, hb1⟩
  go_wp2_with fail
  go_ret3
  exact ⟨rfl, hb1⟩
end Go.Proofs.Ytmmiiapfefmcjaa

/- What WireDecodes wants of the rows and of Decode. -/
namespace Go.Proofs.Ytmmiiapfefmcjaa
open Go.RowKit

theorem outs_pre {w : World} {base g cap : Nat} {xs ys : List Int} (h : Outs w base (some ⟨g, 0, none⟩) cap (xs ++ ys)) : Outs w base (some ⟨g, 0, none⟩) cap xs := by
  refine ⟨⟨by simp [u8s], .inr ?_⟩, h.2⟩
  rcases h.1.2 with ⟨e, _⟩ | ⟨g0, cap0, cur, e, hb, hc, h1, h2, h3, h4⟩
  · simp at e
  · simp only [Value.slice.injEq, Option.some.injEq, Addr.mk.injEq, and_true, true_and] at e
    obtain ⟨rfl, rfl⟩ := e
    refine ⟨g, cap, cur, rfl, hb, hc, by rw [List.length_append] at h1; omega, h2, h3, ?_⟩
    have h5 := congrArg (List.take (xs.length * 1)) h4
    rw [List.take_take, List.length_append, Nat.min_eq_left (by omega), u8s_app] at h5
    rw [h5, List.take_append_of_le_length (by simp [u8s]), List.take_of_length_le (by simp [u8s])]
theorem bytes_rdb {w : World} {S : Nat → Prop} {ab : Option Addr} {l : ByteArray} (h : BytesAt w S ab l) : RdB w S ab (Sp.bts l) := fun j u hu => by
  have hj : j < l.size := by have := (List.getElem?_eq_some_iff.1 hu).1; rw [Sp.bts_len] at this; exact this
  obtain ⟨g, o, e, hg, hc⟩ := h j hj
  refine ⟨g, o, e, hg, ?_⟩
  have : u = Sp.byte l j := by
    simp only [Sp.bts, List.getElem?_map] at hu
    rw [List.getElem?_range hj] at hu
    simpa using hu.symm
  rw [this]; exact hc
end Go.Proofs.Ytmmiiapfefmcjaa

/- Values one behind the other, plainly; rows that grow. -/
namespace Go.Proofs.Ytmmiiapfefmcjaa
open Go.RowKit

/-- all values from at' on: f is more than how many bytes are left -/
def Sp.rdA (xs : List Int) : Nat → Nat → Rs TmL
  | 0, at' => .ok .nil at'
  | f + 1, at' => if xs.length ≤ at' then .ok .nil at' else match Sp.rdV (xs.drop at') 64 0 0 with
    | .bad q e => .bad (at' + q) e
    | .ok (t, _) n => match Sp.rdA xs f (at' + n) with
      | .bad q e => .bad q e
      | .ok l a => .ok (.cons t l) a
theorem enc_pos (t : Tm) (h : t.all.e = 0) : 1 ≤ t.enc.length := by
  have ho := Tm.ok_all h
  cases t with
  | mk k b i f tx by' rf l fs c v =>
    obtain ⟨p1, p2, _, _⟩ := ho.parts
    have hk : k = 1 ∨ k = 2 ∨ k = 3 ∨ k = 4 ∨ k = 5 ∨ k = 6 ∨ k = 7 ∨ k = 8 ∨ k = 9 ∨ k = 10 := by omega
    rcases hk with rfl | rfl | rfl | rfl | rfl | rfl | rfl | rfl | rfl | rfl
    · rw [Tm.enc_1]; simp
    · rw [Tm.enc_2]; simp
    · rw [Tm.enc_3]; simp
    · rw [Tm.enc_4]; simp
    · rw [Tm.enc_5]; simp
    · rw [Tm.enc_6]; simp
    · rw [Tm.enc_7]; simp
    · rw [Tm.enc_8]; simp
    · rw [Tm.enc_9]; simp
    · rw [Tm.enc_10]; simp
theorem rd_len {xs : List Int} (hby : By xs) {t : Tm} {p2 n : Nat} (h : Sp.rdV xs 64 0 0 = .ok (t, p2) n) : 1 ≤ n ∧ n ≤ xs.length ∧ t.all.e = 0 := by
  obtain ⟨h1, _, _, h4, h5, _⟩ := rd_snd hby h
  exact ⟨by rw [h4]; exact enc_pos t h1, h5, h1⟩
theorem By.drop {xs : List Int} (h : By xs) (n : Nat) : By (xs.drop n) := fun x hx => h x (List.mem_of_mem_drop hx)
theorem rdb_drop {w : World} {B : Nat → Prop} {g o : Nat} {xs : List Int} (h : RdB w B (some ⟨g, o, none⟩) xs) (k : Nat) : RdB w B (some ⟨g, o + k, none⟩) (xs.drop k) := fun j u hu => by
  rw [List.getElem?_drop] at hu
  obtain ⟨g', o', e, hg, hc⟩ := h (k + j) u hu
  simp only [Option.some.injEq, Addr.mk.injEq, and_true] at e
  obtain ⟨rfl, rfl⟩ := e
  exact ⟨g, o + k, rfl, hg, by rw [Nat.add_assoc]; exact hc⟩
theorem decX_ok (ys : List Int) (hby : By ys) (t : Tm) (p2 n : Nat) (hr : Sp.rdV ys 64 0 0 = .ok (t, p2) n) (g o cap : Nat) (w : World) (hrd : RdB w (Lo w.heap.size) (some ⟨g, o, none⟩) ys) (hcp : ys.length ≤ cap) (hln : ys.length ≤ 281474976710656) :
    Calls Try.prog 24 #[.slice (some ⟨g, o, none⟩) ys.length cap] w fun e w' => ∃ v, e = .returned (.tuple #[v, .int .i64 (n : Int), .int .i64 0]) ∧ Below w.heap.size w w' ∧ t.V w' (Fr w w') v := by
  obtain ⟨h1, h2, h3, h4, h5, h6⟩ := rd_snd hby hr
  obtain ⟨q, hq⟩ := rd_enc t [] h1 h2
  rw [List.append_nil, h3, ← h4, ← h6] at hq
  exact Decode_ok ys hby t p2 q n hr hq h5 g o cap w hrd hcp hln
/-- a row that grows, of a type e of sz cells -/
structure QR (e : TypeId) (sz : Nat) (w wr : World) (v : Value) (j : Nat) (cs : List Value) : Prop where
  bel : Below w.heap.size w wr
  own : wr.ownsRow w.heap.size e sz v j cs
/-- the blocks made since b but v's own -/
def OwnV (b : Nat) (wr : World) (v : Value) : Nat → Prop := fun k => b ≤ k ∧ k < wr.heap.size ∧ v.ownBlock ≠ some k
theorem QR.call {e : TypeId} {sz : Nat} {w wr w1 : World} {v : Value} {j : Nat} {cs : List Value} (h : QR e sz w wr v j cs) (hb : Below wr.heap.size wr w1) : QR e sz w w1 v j cs :=
  ⟨below_to h.bel hb, owns_below hb h.own⟩
theorem QR.app {e : TypeId} {sz : Nat} {w U w3 : World} {v : Value} {j : Nat} {cs : List Value} (h : QR e sz w U v j cs) {o : Obj} {c1 : List Value} {g' cap' : Nat} (ho : w3.ownsRow w.heap.size e sz (.slice (some ⟨g', 0, none⟩) (j + 1) cap') (j + 1) (cs ++ c1)) (hg : (U.alloc o).grownBy w3 v.ownBlock) (hor : v.ownBlock = some g' ∨ g' = U.heap.size + 1) :
    QR e sz w w3 (.slice (some ⟨g', 0, none⟩) (j + 1) cap') (j + 1) (cs ++ c1) ∧ (∀ k, k < U.heap.size → v.ownBlock ≠ some k → w3.heap[k]? = U.heap[k]? ∧ (Value.slice (some ⟨g', 0, none⟩) (j + 1) cap').ownBlock ≠ some k) ∧ U.heap.size ≤ w3.heap.size := by
  have hz3 := hg.size
  simp at hz3
  have hz0 := h.bel.size
  have hB : Below w.heap.size w w3 := (h.bel.alloc hz0 o).grown hg (by simp; omega) (fun k e => (owns_at h.own k e).1)
  refine ⟨⟨hB, ho⟩, fun k k2 k3 => ⟨by rw [hg.block k (by simp; omega) (fun e => k3 e.symm), Below.heap_alloc _ _ _ k2], ?_⟩, by omega⟩
  intro e
  simp only [Value.ownBlock, Option.some.injEq] at e
  subst e
  rcases hor with e | e
  · exact k3 e
  · omega
/-- what the step of a loop keeps of the blocks: from wr by a call to w1 (some blocks of U may have turned besides), and by an append to w3 -/
theorem ownV_keep {w wr w3 : World} {v v' : Value} (hz : wr.heap.size ≤ w3.heap.size) (hA : ∀ k, w.heap.size ≤ k → k < wr.heap.size → v.ownBlock ≠ some k → w3.heap[k]? = wr.heap[k]? ∧ v'.ownBlock ≠ some k) : Same (OwnV w.heap.size wr v) wr w3 ∧ ∀ k, OwnV w.heap.size wr v k → OwnV w.heap.size w3 v' k :=
  ⟨fun k hk => (hA k hk.1 hk.2.1 hk.2.2).1, fun k hk => ⟨hk.1, by have := hk.2.1; omega, (hA k hk.1 hk.2.1 hk.2.2).2⟩⟩
/-- what has been read: pr tells that the terms of L but those of the rest lie there -/
def AI (xs : List Int) (f at' : Nat) (pr : TmL → TmL → Prop) : Prop :=
  xs.length < f + at' ∧ at' ≤ xs.length ∧ (∀ L a, Sp.rdA xs (xs.length + 1) 0 = .ok L a → ∃ l, Sp.rdA xs f at' = .ok l a ∧ pr L l) ∧ (∀ q e, Sp.rdA xs (xs.length + 1) 0 = .bad q e → Sp.rdA xs f at' = .bad q e)
theorem AI.next {xs : List Int} {f at' : Nat} {pr pr' : TmL → TmL → Prop} {t : Tm} {p2 n : Nat} (hby : By xs) (h : AI xs f at' pr) (hlt : at' < xs.length) (hr : Sp.rdV (xs.drop at') 64 0 0 = .ok (t, p2) n) (hP : ∀ L l, pr L (.cons t l) → pr' L l) : AI xs (f - 1) (at' + n) pr' ∧ 1 ≤ n := by
  obtain ⟨h1, h2, h3, h4⟩ := h
  obtain ⟨n1, n2, _⟩ := rd_len (hby.drop at') hr
  rw [List.length_drop] at n2
  cases f with
  | zero => omega
  | succ f =>
    refine ⟨⟨by omega, by omega, fun L a hL => ?_, fun q e hq => ?_⟩, n1⟩
    · obtain ⟨l, hl, hp⟩ := h3 L a hL
      rw [Sp.rdA, if_neg (by omega), hr] at hl
      dsimp only at hl
      split at hl
      · cases hl
      · rename_i l2 a2 heq
        injection hl with e1 e2
        subst e1 e2
        exact ⟨l2, heq, hP L l2 hp⟩
    · have hl := h4 q e hq
      rw [Sp.rdA, if_neg (by omega), hr] at hl
      dsimp only at hl
      split at hl
      · rename_i q2 e2 heq
        injection hl with e1 e2
        subst e1 e2
        exact heq
      · cases hl
theorem AI.bad {xs : List Int} {f at' : Nat} {pr : TmL → TmL → Prop} {q : Nat} {e : Int} (h : AI xs f at' pr) (hlt : at' < xs.length) (hr : Sp.rdV (xs.drop at') 64 0 0 = .bad q e) : Sp.rdA xs (xs.length + 1) 0 = .bad (at' + q) e := by
  obtain ⟨h1, h2, h3, h4⟩ := h
  cases f with
  | zero => omega
  | succ f =>
    have hb : Sp.rdA xs (f + 1) at' = .bad (at' + q) e := by rw [Sp.rdA, if_neg (by omega), hr]
    cases hc : Sp.rdA xs (xs.length + 1) 0 with
    | ok L a => obtain ⟨l, hl, _⟩ := h3 L a hc; rw [hb] at hl; cases hl
    | bad q2 e2 => rw [← h4 q2 e2 hc, hb]
theorem AI.fin {xs : List Int} {f at' : Nat} {pr : TmL → TmL → Prop} (h : AI xs f at' pr) (hge : xs.length ≤ at') : ∃ L, Sp.rdA xs (xs.length + 1) 0 = .ok L at' ∧ pr L .nil := by
  obtain ⟨h1, h2, h3, h4⟩ := h
  have hz : Sp.rdA xs f at' = .ok .nil at' := by
    cases f with
    | zero => rfl
    | succ f => rw [Sp.rdA, if_pos hge]
  cases hc : Sp.rdA xs (xs.length + 1) 0 with
  | ok L a =>
    obtain ⟨l, hl, hp⟩ := h3 L a hc
    rw [hz] at hl
    injection hl with e1 e2
    subst e1 e2
    exact ⟨L, rfl, hp⟩
  | bad q2 e2 => have := h4 q2 e2 hc; rw [hz] at this; cases this
theorem AI.start (xs : List Int) (pr : TmL → TmL → Prop) (hp : ∀ L, pr L L) : AI xs (xs.length + 1) 0 pr := ⟨by omega, by omega, fun L a h => ⟨L, h, hp L⟩, fun q e h => h⟩
end Go.Proofs.Ytmmiiapfefmcjaa

/- wire.All. -/
namespace Go.Proofs.Ytmmiiapfefmcjaa
open Go.RowKit

/-- what All tells -/
def AllE (xs : List Int) (w : World) (pr : TmL → World → Option Addr → Prop) (e : Ending) (w' : World) : Prop :=
  (∃ L a al cl, Sp.rdA xs (xs.length + 1) 0 = .ok L a ∧ L.len ≤ xs.length ∧ e = .returned (.tuple #[.slice al L.len cl, .int .i64 (xs.length : Int), .int .i64 0]) ∧ Below w.heap.size w w' ∧ pr L w' al) ∨ (∃ (q : Nat) (er : Int), Sp.rdA xs (xs.length + 1) 0 = .bad q er ∧ er ≠ 0 ∧ e = .returned (.tuple #[.slice none 0 0, .int .i64 (wrap64 (q : Int)), .int .i64 er]) ∧ Below w.heap.size w w')

theorem Try.undAny : Try.prog.underlying 57 = some (.slice 20) := by kernel_rfl
theorem all_step {w wr w1 w3 : World} {u u' : Value} {j : Nat} {L l : TmL} {t : Tm} {vs : List Value} {v : Value} (hq : QR 20 1 w wr u j vs) (hB : Below wr.heap.size wr w1) (hA : ∀ k, k < w1.heap.size → u.ownBlock ≠ some k → w3.heap[k]? = w1.heap[k]? ∧ u'.ownBlock ≠ some k) (hz : w1.heap.size ≤ w3.heap.size) (hp : VPre wr (OwnV w.heap.size wr u) L vs (.cons t l)) (hv : t.V w1 (Fr wr w1) v) : VPre w3 (OwnV w.heap.size w3 u') L (vs ++ [v]) l := by
  have hz1 := hB.size
  have hw := hq.bel.size
  obtain ⟨k1, k2⟩ := ownV_keep (w := w) (v := u) (v' := u') (wr := wr) (w3 := w3) (by omega) (fun k h1 h2 h3 => ⟨by rw [(hA k (by omega) h3).1]; exact hB.block k h2, (hA k (by omega) h3).2⟩)
  have hne : ∀ k, wr.heap.size ≤ k → u.ownBlock ≠ some k := fun k hk e => by have := (owns_at hq.own k e).2; omega
  refine VPre.snoc _ _ t l v (VPre.same k1 k2 _ _ _ hp) (t.V_same (B := Fr wr w1) (fun k hk => ?_) (fun k hk => ?_) v hv)
  · exact (hA k hk.2 (hne k hk.1)).1
  · have h1 := hk.1; have h2 := hk.2
    exact ⟨by omega, by omega, (hA k hk.2 (hne k hk.1)).2⟩
theorem all_done {w wr : World} {j : Nat} {L : TmL} {vs : List Value} {al : Option Addr} {cl : Nat} (h : QR 20 1 w wr (.slice al j cl) j vs) (hp : VPre wr (OwnV w.heap.size wr (.slice al j cl)) L vs .nil) : L.V wr (Fr w wr) al 0 := by
  have hlen := VPre.len L vs .nil hp
  have h3 := h.own.1
  simp only [TmL.len] at hlen
  rcases h.own.2 with ⟨e, e0⟩ | ⟨g0, cap, cur, e, hb0, _⟩
  · have : L = .nil := by cases L with
      | nil => rfl
      | cons t l => simp [TmL.len] at hlen; omega
    subst this; exact trivial
  · injection e with e1 e2 e3
    subst e1
    have hown := h.own
    refine VPre.done (S := OwnV w.heap.size wr _) (fun k hk => ⟨hk.1, hk.2.1⟩) g0 ⟨hb0, (hown.lt g0 rfl).2⟩ L vs 0 hp (fun i x hx => ?_)
    have h9 := hown.cells (g := g0) rfl i x hx
    rw [addr_add] at h9; simpa using h9

set_option maxRecDepth 100000 in
set_option maxHeartbeats 2000000 in
theorem All_any (xs : List Int) (hby : By xs) (g0 o0 cap : Nat) (w : World) (hrd : RdB w (Lo w.heap.size) (some ⟨g0, o0, none⟩) xs) (hcp : xs.length ≤ cap) (hln : xs.length ≤ 1048576) :
    Calls Try.prog 29 #[.slice (some ⟨g0, o0, none⟩) xs.length cap] w (AllE xs w fun L w' al => L.V w' (Fr w w') al 0) := by
  obtain ⟨i0, hi, hz0, hz1, hz2⟩ := info_parts Try.infoI
  have HBY : Hid (By xs) := hby
  have HD : Hid (∀ (W : World) (at' : Nat) (t : Tm) (p2 n : Nat), Below w.heap.size w W → Sp.rdV (xs.drop at') 64 0 0 = .ok (t, p2) n → Calls Try.prog 24 #[.slice (some ⟨g0, o0 + at', none⟩) (xs.length - at') (cap - at')] W fun e w' => ∃ v, e = .returned (.tuple #[v, .int .i64 (n : Int), .int .i64 0]) ∧ Below W.heap.size W w' ∧ t.V w' (Fr W w') v) := fun W at' t p2 n hW hr => by
    have := decX_ok (xs.drop at') (hby.drop at') t p2 n hr g0 (o0 + at') (cap - at') W ((rdb_drop hrd at').same (Same.of_below hW (Nat.le_refl _)) (Lo.le hW.size)) (by rw [List.length_drop]; omega) (by rw [List.length_drop]; omega)
    rw [List.length_drop] at this
    exact this
  have HDB : Hid (∀ (W : World) (at' q : Nat) (er : Int), Below w.heap.size w W → Sp.rdV (xs.drop at') 64 0 0 = .bad q er → er ≠ 0 → Calls Try.prog 24 #[.slice (some ⟨g0, o0 + at', none⟩) (xs.length - at') (cap - at')] W fun e w' => e = .returned (.tuple #[.nilIface, .int .i64 (q : Int), .int .i64 er]) ∧ Below W.heap.size W w') := fun W at' q er hW hr her => by
    have := Decode_bad (xs.drop at') (hby.drop at') q er hr her (some ⟨g0, o0 + at', none⟩) (cap - at') W ((rdb_drop hrd at').same (Same.of_below hW (Nat.le_refl _)) (Lo.le hW.size)) (by rw [List.length_drop]; omega) (by rw [List.length_drop]; omega)
    rw [List.length_drop] at this
    exact this
  have H0 : Hid (QR 20 1 w w (.slice none 0 0) 0 [] ∧ AI xs (xs.length + 1) 0 (fun L l => VPre w (OwnV w.heap.size w (.slice none 0 0)) L [] l)) :=
    ⟨⟨Below.refl _ _, ⟨rfl, .inl ⟨rfl, rfl⟩⟩⟩, AI.start _ _ (fun L => (VPre_nil _ _).2 rfl)⟩
  clear hby hrd
  go_enter Try.func29, Try.ntmps29
  go_wp2_with fail
  go_loopw [5, 6] (fun u x wr => ∃ (j at' f : Nat) (vs : List Value) (lv : Option Addr) (lc : Nat), u = .slice lv j lc ∧ x = .int .i64 at' ∧ j ≤ at' ∧ at' ≤ xs.length ∧ Hid (QR 20 1 w wr (.slice lv j lc) j vs ∧ AI xs f at' (fun L l => VPre wr (OwnV w.heap.size wr (.slice lv j lc)) L vs l))) (fun _ x _ => xs.length - (intOf x).toNat)
  case atStart => exact ⟨0, 0, xs.length + 1, [], none, 0, rfl, rfl, by omega, by omega, H0.out⟩
  case round =>
    obtain ⟨j, at', f, vs, lv, lc, rfl, rfl, hja, hal, HR⟩ := hrel
    clear H0
    by_cases hlt : at' < xs.length
    · have hq0 : (0 : Int) ≤ (at' : Int) := Int.natCast_nonneg _
      have hq1 : (at' : Int) ≤ (xs.length : Int) := by omega
      have hq2 : (at' : Int) ≤ (cap : Int) := by omega
      have hq3 : ¬ cap = at' := by omega
      have hq4 : IntKind.i64.wrap (at' : Int) = (at' : Int) := by rw [IntKind.wrap_i64]; omega
      have hq5 : (xs.length : Int) ≤ (cap : Int) := by omega
      cases hr : Sp.rdV (xs.drop at') 64 0 0 with
      | ok tp n =>
        obtain ⟨t, p2⟩ := tp
        have HRR : Hid (Sp.rdV (xs.drop at') 64 0 0 = .ok (t, p2) n) := hr
        clear hr
        obtain ⟨n1, n2, _⟩ := rd_len (HBY.out.drop at') HRR.out
        rw [List.length_drop] at n2
        have hq6 : IntKind.i64.wrap ((at' : Int) + (n : Int)) = (at' : Int) + (n : Int) := by rw [IntKind.wrap_i64]; omega
        go_wp2_with fail
        refine (HD.out wr at' t p2 n HR.out.1.bel HRR.out).mono ?_
        rintro e w1 ⟨v, rfl, hb, hv⟩
        have HB : Hid (Below wr.heap.size wr w1) := hb
        have HV : Hid (t.V w1 (Fr wr w1) v) := hv
        have hz := hb.size
        have hzw := HR.out.1.bel.size
        rcases t.V_shape v hv with rfl | ⟨T, y, rfl⟩
        · clear hb hv
          go_wp2_with (at_builtin; refine wpList_app _ rfl _ _ 57 rfl w.heap.size 20 i0 .nilIface 1 16 Try.undAny hi hz0 hz1 hz2 rfl (by decide) (.slice lv j lc) j vs rfl ((owns_below HB.out HR.out.1.own).alloc _) ⟨w1.heap.size, 0, none⟩ 1 1 [.nilIface] rfl rfl (cell_one_new _ _ _) (one_nil) (by decide) (by unfold maxLen; omega) (by omega) (by simp; omega) ?_; intro g' cap' w3 hown' hgrow hor; have HAP := (HR.out.1.call HB.out).app hown' hgrow (by simpa [Value.ownBlock] using hor); have HAP : Hid _ := HAP; clear hown' hgrow hor)
          go_roundw
          case rel =>
            refine ⟨j + 1, at' + n, f - 1, vs ++ [.nilIface], some ⟨g', 0, none⟩, cap', rfl, by go_num, by omega, by omega, show _ ∧ _ from ⟨HAP.out.1, (HR.out.2.next HBY.out hlt HRR.out ?_).1⟩⟩
            intro L l hp
            exact all_step HR.out.1 HB.out HAP.out.2.1 HAP.out.2.2 hp HV.out
          case measure => simp [intOf]; omega
        · clear hb hv
          go_wp2_with (at_builtin; refine wpList_app _ rfl _ _ 57 rfl w.heap.size 20 i0 .nilIface 1 16 Try.undAny hi hz0 hz1 hz2 rfl (by decide) (.slice lv j lc) j vs rfl ((owns_below HB.out HR.out.1.own).alloc _) ⟨w1.heap.size, 0, none⟩ 1 1 [.iface T y] rfl rfl (cell_one_new _ _ _) (one_iface T y) (by decide) (by unfold maxLen; omega) (by omega) (by simp; omega) ?_; intro g' cap' w3 hown' hgrow hor; have HAP := (HR.out.1.call HB.out).app hown' hgrow (by simpa [Value.ownBlock] using hor); have HAP : Hid _ := HAP; clear hown' hgrow hor)
          go_roundw
          case rel =>
            refine ⟨j + 1, at' + n, f - 1, vs ++ [.iface T y], some ⟨g', 0, none⟩, cap', rfl, by go_num, by omega, by omega, show _ ∧ _ from ⟨HAP.out.1, (HR.out.2.next HBY.out hlt HRR.out ?_).1⟩⟩
            intro L l hp
            exact all_step HR.out.1 HB.out HAP.out.2.1 HAP.out.2.2 hp HV.out
          case measure => simp [intOf]; omega
      | bad q er =>
        have her := rdV_er 64 hr
        have HRR : Hid (Sp.rdV (xs.drop at') 64 0 0 = .bad q er ∧ er ≠ 0) := ⟨hr, her⟩
        have he : (er != 0) = true := by simp [her]
        clear hr her
        go_wp2_with fail
        refine (HDB.out wr at' q er HR.out.1.bel HRR.out.1 HRR.out.2).mono ?_
        rintro e w1 ⟨rfl, hb⟩
        have HB : Hid (Below w.heap.size w w1) := below_to HR.out.1.bel hb
        clear hb
        go_wp2_with fail
        exact bodyPost_ret (v := .tuple #[.slice none 0 0, .int .i64 (wrap64 ((at' : Int) + (q : Int))), .int .i64 er]) (by simp [results, Try.results29, go_sem] <;> rfl) rfl (.inr ⟨at' + q, er, HR.out.2.bad hlt HRR.out.1, HRR.out.2, rfl, HB.out⟩)
    · have h1 : xs.length ≤ at' := by omega
      have hae : at' = xs.length := by omega
      have HAE : Hid (at' = xs.length) := hae
      clear hae
      go_wp2_with fail
      refine bodyPost_ret (v := .tuple #[.slice lv j lc, .int .i64 (xs.length : Int), .int .i64 0]) (by simp [results, Try.results29, go_sem] <;> rfl) rfl (.inl ?_)
      obtain ⟨L, hL, hp⟩ := HR.out.2.fin h1
      have hlen : L.len = j := by
        have h2 := VPre.len L vs .nil hp
        have h3 := HR.out.1.own.1
        simp only [TmL.len] at h2
        omega
      refine ⟨L, at', lv, lc, hL, by omega, by rw [hlen], HR.out.1.bel, ?_⟩
      exact all_done HR.out.1 hp
end Go.Proofs.Ytmmiiapfefmcjaa

