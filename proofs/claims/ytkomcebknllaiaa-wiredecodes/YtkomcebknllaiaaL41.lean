/- The reader's value where something is wrong. -/
import Derived.Test.YtkomcebknllaiaaL40
import Derived.Test.YtkomcebknllaiaaL31
import Derived.Test.YtkomcebknllaiaaL30
import Derived.Test.YtkomcebknllaiaaL33
import Derived.Test.YtkomcebknllaiaaL37
import Derived.Test.YtkomcebknllaiaaL38
import Derived.Test.YtkomcebknllaiaaL39
import Derived.Deep.RegionHeld3
namespace Go.Proofs.Ytkomcebknllaiaa
open Go.RowKit

set_option maxRecDepth 100000 in
set_option maxHeartbeats 1000000 in
theorem bval_end (d : Int) (b : Nat) (a : Option Addr) (xs : List Int) (cap at' p : Nat) (w : World) (h : Rdr w b a xs cap at' p) (hx : xs[at']? = none) : Calls Try.prog 98 #[.pointer (some ⟨b, 0, none⟩), .int .i64 d] w fun x w' => x = Flt xs.length 4 ∧ But b w w' := by
  have HK : Hid (Calls Try.prog 117 #[.pointer (some ⟨b, 0, none⟩), .int .i64 d] w fun x w' => x = Flt xs.length 4 ∧ But b w w') := kind_bad1 b a xs cap at' p w h d hx
  obtain ⟨c0, c1, c2, f1, f2, rd, cp, ln, le, np⟩ := h
  clear rd hx
  go_enter Try.func98, Try.ntmps98
  go_wp2_with fail
  refine HK.out.mono ?_
  rintro e w1 ⟨rfl, hb1⟩
  exact ⟨rfl, rfl, hb1⟩
set_option maxRecDepth 100000 in
set_option maxHeartbeats 1000000 in
theorem bval_more (d : Int) (b : Nat) (a : Option Addr) (xs : List Int) (cap at' p : Nat) (w : World) (h : Rdr w b a xs cap at' p) (k : Int) (hx : xs[at']? = some k) (hp : 16384 ≤ p ∨ 64 < d) : Calls Try.prog 98 #[.pointer (some ⟨b, 0, none⟩), .int .i64 d] w fun x w' => x = Flt at' 2 ∧ But b w w' := by
  have HK : Hid (Calls Try.prog 117 #[.pointer (some ⟨b, 0, none⟩), .int .i64 d] w fun x w' => x = Flt at' 2 ∧ But b w w') := kind_bad2 b a xs cap at' p w h d k hx hp
  obtain ⟨c0, c1, c2, f1, f2, rd, cp, ln, le, np⟩ := h
  clear rd hx hp
  go_enter Try.func98, Try.ntmps98
  go_wp2_with fail
  refine HK.out.mono ?_
  rintro e w1 ⟨rfl, hb1⟩
  exact ⟨rfl, rfl, hb1⟩

theorem value_bad (xs : List Int) (hby : By xs) : ∀ f, f ≤ 64 → VB xs f
  | 0, _ => fun b a cap at' p q er w d hd h hr => by
    rw [Sp.rdV] at hr
    split at hr
    · rename_i hl
      injection hr with e1 e2; subst e1; subst e2
      exact bval_end d b a xs cap at' p w h (List.getElem?_eq_none_iff.2 hl)
    · rename_i hl
      injection hr with e1 e2; subst e1; subst e2
      exact bval_more d b a xs cap _ p w h _ (List.getElem?_eq_getElem (by omega)) (.inr (by omega))
  | f + 1, hf => fun b a cap at' p q er w d hd h hr => by
    have HC := value_ok xs hby f (by omega)
    have HV := value_bad xs hby f (by omega)
    rw [Sp.rdV] at hr
    cases hx : xs[at']? with
    | none =>
      rw [hx] at hr
      injection hr with e1 e2; subst e1; subst e2
      exact bval_end d b a xs cap at' p w h hx
    | some k =>
      rw [hx] at hr
      simp only at hr
      by_cases hp : 16384 ≤ p
      · rw [if_pos hp] at hr
        injection hr with e1 e2; subst e1; subst e2
        exact bval_more d b a xs cap _ p w h k hx (.inl hp)
      · rw [if_neg hp] at hr
        have hp : p < 16384 := by omega
        have hd4 : d ≤ 64 := by omega
        have hdf : d + 1 = 65 - (f : Int) := by omega
        unfold Sp.rdB at hr
        split at hr
        · simp at hr
        rename_i k1
        split at hr
        · rename_i hk; subst hk
          cases hc : xs[at' + 1]? with
          | none =>
            rw [hc] at hr
            injection hr with e1 e2; subst e1; subst e2
            exact bval_2a d b a xs cap at' p w h hp hd4 hx hc
          | some c =>
            rw [hc] at hr
            simp only at hr
            split at hr
            · rename_i hc1
              injection hr with e1 e2; subst e1; subst e2
              exact bval_2b d b a xs cap at' p w h hp hd4 hx c hc hc1
            · simp at hr
        rename_i k2
        split at hr
        · rename_i hk; subst hk
          cases hn : Sp.rn xs (at' + 1) 10 0 0 with
          | bad q1 e1 =>
            rw [hn] at hr
            injection hr with e1 e2; subst e1; subst e2
            exact bval_3 d b a xs cap at' p w h hp hd4 hx hby _ _ hn
          | ok n a' => rw [hn] at hr; simp at hr
        rename_i k3
        split at hr
        · rename_i hk; subst hk
          unfold Sp.tk at hr
          by_cases hl : at' + 1 + 8 ≤ xs.length
          · rw [if_pos hl] at hr; simp at hr
          · rw [if_neg hl] at hr
            injection hr with e1 e2; subst e1; subst e2
            exact bval_4 d b a xs cap at' p w h hp hd4 hx hl
        rename_i k4
        split at hr
        · rename_i hk
          cases hn : Sp.cnt xs (at' + 1) at' 65536 with
          | bad q1 e1 =>
            rw [hn] at hr
            injection hr with e1 e2; subst e1; subst e2
            rcases hk with rfl | rfl
            · exact bval_5a d b a xs cap at' p w h hp hd4 hx hby _ _ hn
            · exact bval_6a d b a xs cap at' p w h hp hd4 hx hby _ _ hn
          | ok n a' =>
            obtain ⟨hrn, hn4⟩ := cnt_ok hn
            rw [hn] at hr
            simp only at hr
            unfold Sp.tk at hr
            by_cases hl : a' + n ≤ xs.length
            · rw [if_pos hl] at hr; simp at hr
            · rw [if_neg hl] at hr
              injection hr with e1 e2; subst e1; subst e2
              rcases hk with rfl | rfl
              · exact bval_5b d b a xs cap at' p w h hp hd4 hx hby n a' hrn hn4 hl
              · exact bval_6b d b a xs cap at' p w h hp hd4 hx hby n a' hrn hn4 hl
        rename_i k56
        split at hr
        · rename_i hk; subst hk
          cases hn : Sp.rn xs (at' + 1) 10 0 0 with
          | bad q1 e1 =>
            rw [hn] at hr
            injection hr with e1 e2; subst e1; subst e2
            exact bval_7 d b a xs cap at' p w h hp hd4 hx hby _ _ hn
          | ok n a' => rw [hn] at hr; simp at hr
        rename_i k7
        split at hr
        · rename_i hk; subst hk
          cases hn : Sp.cnt xs (at' + 1) at' 4096 with
          | bad q1 e1 =>
            rw [hn] at hr
            injection hr with e1 e2; subst e1; subst e2
            exact bval_8a d b a xs cap at' p w h hp hd4 hx hby _ _ hn
          | ok n a' =>
            obtain ⟨hrn, hn4⟩ := cnt_ok hn
            rw [hn] at hr
            simp only at hr
            cases hL : Sp.rdL (Sp.rdV xs f) n a' (p + 1) with
            | bad q1 e1 =>
              rw [hL] at hr
              injection hr with e1 e2; subst e1; subst e2
              exact bval_8b d b a xs cap at' p w h hp hd4 hx hby f HC HV hdf (by omega) _ _ n a' hrn hn4 hL
            | ok lp a3 => rw [hL] at hr; simp at hr
        rename_i k8
        split at hr
        · rename_i hk; subst hk
          cases hL : Sp.rdD xs at' (Sp.rdV xs f) (at' + 1) (p + 1) with
          | bad q1 e1 =>
            rw [hL] at hr
            injection hr with e1 e2; subst e1; subst e2
            exact bval_9 d b a xs cap at' p w h hp hd4 hx hby f HC HV hdf (by omega) _ _ hL
          | ok lp a3 => rw [hL] at hr; simp at hr
        rename_i k9
        split at hr
        · rename_i hk; subst hk
          cases hN : Sp.rdN xs (at' + 1) at' with
          | bad q1 e1 =>
            rw [hN] at hr
            injection hr with e1 e2; subst e1; subst e2
            exact bval_10a d b a xs cap at' p w h hp hd4 hx hby _ _ hN
          | ok c a' =>
            obtain ⟨nn, an, hrn, hn32, hle, rfl, rfl, hnm⟩ := rdN_ok hN
            rw [hN] at hr
            simp only at hr
            cases hv : Sp.rn xs (an + nn) 10 0 0 with
            | bad q1 e1 =>
              rw [hv] at hr
              injection hr with e1 e2; subst e1; subst e2
              exact bval_10b d b a xs cap at' p w h hp hd4 hx hby nn an hrn hn32 hle hnm _ _ hv
            | ok v a4 =>
              rw [hv] at hr
              simp only at hr
              split at hr
              · rename_i hv1
                injection hr with e1 e2; subst e1; subst e2
                exact bval_10c d b a xs cap _ p w h hp hd4 hx hby nn an hrn hn32 hle hnm v a4 hv hv1
              · rename_i hv1
                cases hL : Sp.rdD xs at' (Sp.rdV xs f) a4 (p + 1) with
                | bad q1 e1 =>
                  rw [hL] at hr
                  injection hr with e1 e2; subst e1; subst e2
                  exact bval_10d d b a xs cap at' p w h hp hd4 hx hby nn an hrn hn32 hle hnm v a4 hv (by omega) f HC HV hdf (by omega) _ _ hL
                | ok lp a3 => rw [hL] at hr; simp at hr
        · rename_i k10
          injection hr with e1 e2; subst e1; subst e2
          exact bval_0 d b a xs cap _ p w h hp hd4 k hx k1 k2 k3 k4 (by omega) (by omega) k7 k8 k9 k10
end Go.Proofs.Ytkomcebknllaiaa

/- wire.look, Decode and Skip at bytes that begin with no value. -/
namespace Go.Proofs.Ytkomcebknllaiaa
open Go.RowKit

set_option maxRecDepth 100000 in
set_option maxHeartbeats 1000000 in
theorem look_bad (xs : List Int) (hby : By xs) (q : Nat) (er : Int) (hr : Sp.rdV xs 64 0 0 = .bad q er) (a : Option Addr) (cap : Nat) (w : World) (hrd : RdB w (Lo w.heap.size) a xs) (hcp : xs.length ≤ cap) (hln : xs.length ≤ 281474976710656) :
    Calls Try.prog 53 #[.slice a xs.length cap] w fun e w' => e = .returned (.tuple #[.int .i64 (q : Int), .int .i64 er]) ∧ Below w.heap.size w w' := by
  have hmf : ∀ (fn : Fn) (first cap : Array Value) (w : World), (Instr.makeFunc fn first cap).run Try.prog w = .ok (.func fn first cap) w := fun _ _ _ _ => rfl
  have HX : Hid (By xs ∧ Sp.rdV xs 64 0 0 = .bad q er ∧ RdB w (Lo w.heap.size) a xs ∧ xs.length ≤ cap ∧ xs.length ≤ 281474976710656) := ⟨hby, hr, hrd, hcp, hln⟩
  clear hby hr hrd hcp hln
  go_enter_defers Try.func53, Try.ntmps53
  go_wp2_with fail
  show Calls Try.prog _ _ (lookW w a xs.length cap) _
  obtain ⟨hR, hbW, hzW, hW0, hW1⟩ := lookW_rdr w a xs cap HX.out.2.2.1 HX.out.2.2.2.1 HX.out.2.2.2.2
  refine (value_bad xs HX.out.1 64 (Nat.le_refl _) (w.heap.size + 1 + 1) a cap 0 0 q er _ 1 rfl hR HX.out.2.1).mono ?_
  rintro e w1 ⟨rfl, hb1⟩
  have hB0 := hb1.block w.heap.size (by omega) (by omega)
  have hB1 := hb1.block (w.heap.size + 1) (by omega) (by omega)
  rw [hW0] at hB0
  rw [hW1] at hB1
  have e0 : w1.cell? ⟨w.heap.size, 0, none⟩ = some (.int .i64 0) := by rw [cell_of_row _ _ 0 _ _ _ hB0]; rfl
  have e1 : w1.cell? ⟨w.heap.size + 1, 0, none⟩ = some (.int .i64 0) := by rw [cell_of_row _ _ 0 _ _ _ hB1]; rfl
  have z0 : w1.frozen? ⟨w.heap.size, 0, none⟩ = false := frozen_of_row _ _ 0 _ _ hB0
  have z1 : w1.frozen? ⟨w.heap.size + 1, 0, none⟩ = false := frozen_of_row _ _ 0 _ _ hB1
  have HB : Hid (Below w.heap.size w w1) := hbW.trans (hb1.below (by omega))
  clear hb1 hR hbW hzW hW0 hW1 hB0 hB1
  refine leaves_cons (f := 97) (args := #[.pointer (some ⟨w.heap.size, 0, none⟩), .pointer (some ⟨w.heap.size + 1, 0, none⟩)]) (by simp) (by simp [go_sem]) ?_
  refine (catch_fault w.heap.size (w.heap.size + 1) 0 0 q er [] w1 e0 e1 z0 z1 (by omega)).mono ?_
  rintro e u' w2 ⟨rfl, rfl, d0, d1, hbb⟩
  simp [Leaves, settle, results, Try.results53, go_sem, d0, d1]
  exact HB.out.trans (hbb _ (Nat.le_refl _) (Nat.le_succ _))

set_option maxRecDepth 100000 in
set_option maxHeartbeats 1000000 in
theorem Skip_bad (xs : List Int) (hby : By xs) (q : Nat) (er : Int) (hr : Sp.rdV xs 64 0 0 = .bad q er) (her : er ≠ 0) (a : Option Addr) (cap : Nat) (w : World) (hrd : RdB w (Lo w.heap.size) a xs) (hcp : xs.length ≤ cap) (hln : xs.length ≤ 281474976710656) :
    Calls Try.prog 30 #[.slice a xs.length cap] w fun e w' => e = .returned (.tuple #[.int .i64 0, .int .i64 er]) ∧ Below w.heap.size w w' := by
  have HL : Hid (Calls Try.prog 53 #[.slice a xs.length cap] w fun e w' => e = .returned (.tuple #[.int .i64 (q : Int), .int .i64 er]) ∧ Below w.heap.size w w') := look_bad xs hby q er hr a cap w hrd hcp hln
  have he : (er != 0) = true := by simp [her]
  clear hr hby hrd her
  go_enter Try.func30, Try.ntmps30
  go_wp2_with fail
  refine HL.out.mono ?_
  rintro e w1 ⟨rfl, hb1⟩
  go_wp2_with fail
  go_ret2
  exact ⟨rfl, hb1⟩

set_option maxRecDepth 100000 in
set_option maxHeartbeats 1000000 in
theorem Decode_bad (xs : List Int) (hby : By xs) (q : Nat) (er : Int) (hr : Sp.rdV xs 64 0 0 = .bad q er) (her : er ≠ 0) (a : Option Addr) (cap : Nat) (w : World) (hrd : RdB w (Lo w.heap.size) a xs) (hcp : xs.length ≤ cap) (hln : xs.length ≤ 281474976710656) :
    Calls Try.prog 29 #[.slice a xs.length cap] w fun e w' => e = .returned (.tuple #[.nilIface, .int .i64 (q : Int), .int .i64 er]) ∧ Below w.heap.size w w' := by
  have HL : Hid (Calls Try.prog 53 #[.slice a xs.length cap] w fun e w' => e = .returned (.tuple #[.int .i64 (q : Int), .int .i64 er]) ∧ Below w.heap.size w w') := look_bad xs hby q er hr a cap w hrd hcp hln
  have he : (er != 0) = true := by simp [her]
  clear hr hby hrd her
  go_enter Try.func29, Try.ntmps29
  go_wp2_with fail
  refine HL.out.mono ?_
  rintro e w1 ⟨rfl, hb1⟩
  go_wp2_with fail
  go_ret3
  exact ⟨rfl, hb1⟩
end Go.Proofs.Ytkomcebknllaiaa

/- What WireDecodes wants of the rows and of Decode. -/
namespace Go.Proofs.Ytkomcebknllaiaa
open Go.RowKit

theorem outs_pre {w : World} {base g cap : Nat} {xs ys : List Int} (h : Outs w base (some ⟨g, 0, none⟩) cap (xs ++ ys)) : Outs w base (some ⟨g, 0, none⟩) cap xs := by
  refine ⟨⟨by simp [u8s], .inr ?_⟩, h.2⟩
  rcases h.1.2 with ⟨e, _⟩ | ⟨g0, cap0, cur, e, hb, hc, h1, h2, h3, h4⟩
  · simp at e
  · simp only [Value.slice.injEq, Option.some.injEq, Addr.mk.injEq, and_true, true_and] at e
    obtain ⟨rfl, rfl⟩ := e
    refine ⟨g, cap, cur, rfl, hb, hc, by rw [List.length_append] at h1; omega, h2, h3, ?_⟩
    have h5 := congrArg (List.take (xs.length * 1)) h4
    rw [List.take_take, List.length_append, Nat.min_eq_left (by omega), u8s_app] at h5
    rw [h5, List.take_append_of_le_length (by simp [u8s]), List.take_of_length_le (by simp [u8s])]
theorem bytes_rdb {w : World} {S : Nat → Prop} {ab : Option Addr} {l : ByteArray} (h : BytesAt w S ab l) : RdB w S ab (Sp.bts l) := fun j u hu => by
  have hj : j < l.size := by have := (List.getElem?_eq_some_iff.1 hu).1; rw [Sp.bts_len] at this; exact this
  obtain ⟨g, o, e, hg, hc⟩ := h j hj
  refine ⟨g, o, e, hg, ?_⟩
  have : u = Sp.byte l j := by
    simp only [Sp.bts, List.getElem?_map] at hu
    rw [List.getElem?_range hj] at hu
    simpa using hu.symm
  rw [this]; exact hc
theorem dec_ok (l : ByteArray) (t : Tm) (p2 n : Nat) (hr : Sp.rdV (Sp.bts l) 64 0 0 = .ok (t, p2) n) (hl : l.size ≤ 140737488351232) (W : World) (base g cap : Nat) (ho : Outs W base (some ⟨g, 0, none⟩) cap (Sp.bts l)) :
    Calls Try.prog 29 #[.slice (some ⟨g, 0, none⟩) l.size cap] W fun e w' => ∃ v, e = .returned (.tuple #[v, .int .i64 (n : Int), .int .i64 0]) ∧ Below W.heap.size W w' ∧ t.V w' (Fr W w') v := by
  obtain ⟨h1, h2, h3, h4, h5, h6⟩ := rd_snd (bts_by l) hr
  obtain ⟨q, hq⟩ := rd_enc t [] h1 h2
  rw [List.append_nil, h3, ← h4, ← h6] at hq
  obtain ⟨hrd, hcp⟩ := outs_rd ho
  have := Decode_ok (Sp.bts l) (bts_by l) t p2 q n hr hq h5 g 0 cap W hrd hcp (by rw [Sp.bts_len]; omega)
  rw [Sp.bts_len] at this
  exact this
theorem dec_bad (l : ByteArray) (q : Nat) (er : Int) (hr : Sp.rdV (Sp.bts l) 64 0 0 = .bad q er) (her : er ≠ 0) (hl : l.size ≤ 140737488351232) (W : World) (base g cap : Nat) (ho : Outs W base (some ⟨g, 0, none⟩) cap (Sp.bts l)) :
    Calls Try.prog 29 #[.slice (some ⟨g, 0, none⟩) l.size cap] W fun e w' => e = .returned (.tuple #[.nilIface, .int .i64 (q : Int), .int .i64 er]) ∧ Below W.heap.size W w' := by
  obtain ⟨hrd, hcp⟩ := outs_rd ho
  have := Decode_bad (Sp.bts l) (bts_by l) q er hr her _ cap W hrd hcp (by rw [Sp.bts_len]; omega)
  rw [Sp.bts_len] at this
  exact this
theorem skip_ok (l : ByteArray) (t : Tm) (p2 n : Nat) (hr : Sp.rdV (Sp.bts l) 64 0 0 = .ok (t, p2) n) (hl : l.size ≤ 140737488351232) (W : World) (base g cap : Nat) (ho : Outs W base (some ⟨g, 0, none⟩) cap (Sp.bts l)) :
    Calls Try.prog 30 #[.slice (some ⟨g, 0, none⟩) l.size cap] W fun e w' => e = .returned (.tuple #[.int .i64 (n : Int), .int .i64 0]) ∧ Below W.heap.size W w' := by
  obtain ⟨hrd, hcp⟩ := outs_rd ho
  have := Skip_ok (Sp.bts l) (bts_by l) t p2 n hr _ cap W hrd hcp (by rw [Sp.bts_len]; omega)
  rw [Sp.bts_len] at this
  exact this
theorem skip_bad (l : ByteArray) (q : Nat) (er : Int) (hr : Sp.rdV (Sp.bts l) 64 0 0 = .bad q er) (her : er ≠ 0) (hl : l.size ≤ 140737488351232) (W : World) (base g cap : Nat) (ho : Outs W base (some ⟨g, 0, none⟩) cap (Sp.bts l)) :
    Calls Try.prog 30 #[.slice (some ⟨g, 0, none⟩) l.size cap] W fun e w' => e = .returned (.tuple #[.int .i64 0, .int .i64 er]) ∧ Below W.heap.size W w' := by
  obtain ⟨hrd, hcp⟩ := outs_rd ho
  have := Skip_bad (Sp.bts l) (bts_by l) q er hr her _ cap W hrd hcp (by rw [Sp.bts_len]; omega)
  rw [Sp.bts_len] at this
  exact this
theorem dec_true (W : World) (base g cap : Nat) (ho : Outs W base (some ⟨g, 0, none⟩) cap [2, 1]) :
    Calls Try.prog 29 #[.slice (some ⟨g, 0, none⟩) 2 cap] W fun e w' => e = .returned (.tuple #[.iface 4 (.bool true), .int .i64 2, .int .i64 0]) ∧ Below W.heap.size W w' := by
  obtain ⟨hrd, hcp⟩ := outs_rd ho
  have hr : Sp.rdV [2, 1] 64 0 0 = .ok (lfT 2 true 0 0 ByteArray.empty ByteArray.empty 0, 1) 2 := by rfl
  refine (Decode_ok [2, 1] (fun x hx => by simp at hx; omega) _ 1 1 2 hr hr (by decide) g 0 cap W hrd hcp (by decide)).mono ?_
  rintro e w' ⟨v, rfl, hb, hv⟩
  have : v = .iface 4 (.bool true) := by simpa [lfT, Tm.V] using hv
  subst this
  exact ⟨rfl, hb⟩
end Go.Proofs.Ytkomcebknllaiaa

/- The Go function tenonlaw03.WireDecodes returns true. -/
namespace Go.Proofs.Ytkomcebknllaiaa
open Go.RowKit

@[go_sem] theorem eql_true (w : World) : (binOp .eql 20 (.iface 4 (.bool true)) (.iface 4 (.bool true))).run Try.prog w = .ok (.bool true) w := by kernel_rfl
@[go_sem] theorem eqg_true (x y : Operand) (w : World) : (eqGuard .eql 20 x y (.iface 4 (.bool true)) (.iface 4 (.bool true))).run Try.prog w = .ok () w := by kernel_rfl

set_option maxRecDepth 100000 in
set_option maxHeartbeats 4000000 in
theorem WireDecodes_bad (l : ByteArray) (ab : Option Addr) (cb : Nat) (w : World) (hl : l.size ≤ 140737488351232) (hab : BytesAt w (Lo w.heap.size) ab l) (hcb : l.size ≤ cb) (q : Nat) (er : Int) (hr : Sp.rdV (Sp.bts l) 64 0 0 = .bad q er) :
    Calls Try.prog 7 #[.slice ab l.size cb] w fun e w' => e = .returned (.bool true) ∧ Below w.heap.size w w' := by
  have her := rdV_er 64 hr
  have HLe : Hid (∀ W, Below w.heap.size w W → Calls Try.prog 28 #[.slice ab l.size cb] W fun e w' => ∃ g cap, e = .returned (.tuple #[.slice (some ⟨g, 0, none⟩) l.size cap, .slice (some ⟨g, 0, none⟩) (l.size + 32) cap]) ∧ Outs w' W.heap.size (some ⟨g, 0, none⟩) cap (Sp.bts l ++ Sp.marks 32) ∧ Below W.heap.size W w') := fun W hW =>
    lent_any l ab cb W hl (fun j hj => by
      obtain ⟨g, o, e, hg, hc⟩ := hab j hj
      exact ⟨g, o, e, Nat.lt_of_lt_of_le hg hW.size, by rw [hW.cell (p := ⟨g, o + j, none⟩) hg]; exact hc⟩)
  have HAB : Hid (∀ W, Below w.heap.size w W → BytesAt W (Lo W.heap.size) ab l) := fun W hW j hj => by
    obtain ⟨g, o, e, hg, hc⟩ := hab j hj
    exact ⟨g, o, e, Nat.lt_of_lt_of_le hg hW.size, by rw [hW.cell (p := ⟨g, o + j, none⟩) hg]; exact hc⟩
  have HRD : Hid (∀ W, Below w.heap.size w W → Calls Try.prog 31 #[.slice ab l.size cb] W fun e w' => e = .returned (.tuple #[.agg #[.int .i64 0, .bool false, .int .i64 0, .float .f64 0, .string ⟨#[]⟩, .slice none 0 0, .int .u64 0, .slice none 0 0, .slice none 0 0, .string ⟨#[]⟩, .int .i64 0], .int .i64 (q : Int), .int .i64 er]) ∧ Below W.heap.size W w') := fun W hW => by
    have := refDecode_bad (Sp.bts l) (bts_by l) q er hr ab cb W (by rw [Sp.bts_len]; exact hcb) (bytes_rdb (HAB.out W hW)) (by rw [Sp.bts_len]; omega)
    rw [Sp.bts_len] at this
    exact this
  have HD : Hid (∀ (W : World) (base g cap : Nat), Outs W base (some ⟨g, 0, none⟩) cap (Sp.bts l) → Calls Try.prog 29 #[.slice (some ⟨g, 0, none⟩) l.size cap] W fun e w' => e = .returned (.tuple #[.nilIface, .int .i64 (q : Int), .int .i64 er]) ∧ Below W.heap.size W w') := fun W base g cap ho => dec_bad l q er hr her hl W base g cap ho
  have HSk : Hid (∀ (W : World) (base g cap : Nat), Outs W base (some ⟨g, 0, none⟩) cap (Sp.bts l) → Calls Try.prog 30 #[.slice (some ⟨g, 0, none⟩) l.size cap] W fun e w' => e = .returned (.tuple #[.int .i64 0, .int .i64 er]) ∧ Below W.heap.size W w') := fun W base g cap ho => skip_bad l q er hr her hl W base g cap ho
  have HKe : Hid (∀ (W : World) (base g cap : Nat), Below w.heap.size w W → Outs W base (some ⟨g, 0, none⟩) cap (Sp.bts l ++ Sp.marks 32) → Calls Try.prog 32 #[.slice (some ⟨g, 0, none⟩) (l.size + 32) cap, .slice ab l.size cb] W fun e w' => e = .returned (.bool true) ∧ Below W.heap.size W w') := fun W base g cap hW ho => kept_any l ab cb g cap W hl (HAB.out W hW) (outs_rd ho).1
  have he : (er == 0) = false := by simp [her]
  have he2 : (er != 0) = true := by simp [her]
  clear hr her hab hcb
  go_enter Try.func7, Try.ntmps7
  go_wp2_with fail
  refine (HLe.out _ (Below.refl _ _)).mono ?_
  rintro e w1 ⟨g, cap, rfl, ho, hb⟩
  have HO : Hid (∀ W, Below w1.heap.size w1 W → Outs W w.heap.size (some ⟨g, 0, none⟩) cap (Sp.bts l ++ Sp.marks 32)) := fun W hW => outs_call ho hW
  have HB1 : Hid (Below w.heap.size w w1) := hb
  clear ho hb
  go_wp2_with fail
  refine (HD.out _ _ g cap (outs_pre (HO.out _ (Below.refl _ _)))).mono ?_
  rintro e w2 ⟨rfl, hb⟩
  have HB2 : Hid (Below w1.heap.size w1 w2) := hb
  clear hb
  go_wp2_with fail
  refine (HD.out _ _ g cap (outs_pre (HO.out _ HB2.out))).mono ?_
  rintro e w3 ⟨rfl, hb⟩
  have HB3 : Hid (Below w1.heap.size w1 w3) := below_to HB2.out hb
  clear hb
  go_wp2_with fail
  refine (HSk.out _ _ g cap (outs_pre (HO.out _ HB3.out))).mono ?_
  rintro e w4 ⟨rfl, hb⟩
  have HB4 : Hid (Below w1.heap.size w1 w4) := below_to HB3.out hb
  clear hb
  go_wp2_with fail
  refine (HRD.out _ (below_to HB1.out HB4.out)).mono ?_
  rintro e w5 ⟨rfl, hb⟩
  have HB5 : Hid (Below w1.heap.size w1 w5) := below_to HB4.out hb
  clear hb
  have HB6 : Hid (Below w1.heap.size w1 (w5.alloc (.cells #[.int .i64 0, .bool false, .int .i64 0, .float .f64 0, .string ⟨#[]⟩, .slice none 0 0, .int .u64 0, .slice none 0 0, .slice none 0 0, .string ⟨#[]⟩, .int .i64 0] 29))) := HB5.out.alloc HB5.out.size _
  go_wp2_with fail
  refine (HKe.out _ _ g cap (below_to HB1.out HB6.out) (HO.out _ HB6.out)).mono ?_
  rintro e w7 ⟨rfl, hb⟩
  have HB7 : Hid (Below w1.heap.size w1 w7) := below_to HB6.out hb
  clear hb
  go_wp2_with fail
  go_ret
  exact ⟨rfl, below_to HB1.out HB7.out⟩
set_option maxRecDepth 100000 in
set_option maxHeartbeats 4000000 in
theorem WireDecodes_ok (l : ByteArray) (ab : Option Addr) (cb : Nat) (w : World) (hl : l.size ≤ 140737488351232) (hab : BytesAt w (Lo w.heap.size) ab l) (hcb : l.size ≤ cb) (t : Tm) (p2 n : Nat) (hr : Sp.rdV (Sp.bts l) 64 0 0 = .ok (t, p2) n) :
    Calls Try.prog 7 #[.slice ab l.size cb] w fun e w' => e = .returned (.bool true) ∧ Below w.heap.size w w' := by
  have hsnd := rd_snd (bts_by l) hr
  have HEZ : Hid (t.all.e = 0) := hsnd.1
  clear hsnd
  have HLe : Hid (∀ W, Below w.heap.size w W → Calls Try.prog 28 #[.slice ab l.size cb] W fun e w' => ∃ g cap, e = .returned (.tuple #[.slice (some ⟨g, 0, none⟩) l.size cap, .slice (some ⟨g, 0, none⟩) (l.size + 32) cap]) ∧ Outs w' W.heap.size (some ⟨g, 0, none⟩) cap (Sp.bts l ++ Sp.marks 32) ∧ Below W.heap.size W w') := fun W hW =>
    lent_any l ab cb W hl (fun j hj => by
      obtain ⟨g, o, e, hg, hc⟩ := hab j hj
      exact ⟨g, o, e, Nat.lt_of_lt_of_le hg hW.size, by rw [hW.cell (p := ⟨g, o + j, none⟩) hg]; exact hc⟩)
  have HAB : Hid (∀ W, Below w.heap.size w W → BytesAt W (Lo W.heap.size) ab l) := fun W hW j hj => by
    obtain ⟨g, o, e, hg, hc⟩ := hab j hj
    exact ⟨g, o, e, Nat.lt_of_lt_of_le hg hW.size, by rw [hW.cell (p := ⟨g, o + j, none⟩) hg]; exact hc⟩
  have HRD : Hid (∀ W, Below w.heap.size w W → Calls Try.prog 31 #[.slice ab l.size cb] W fun e w' => ∃ (u : Int) (b : Bool) (i : Int) (f : Nat) (tx : ByteArray) (ab' : Option Addr) (nb cb' : Nat) (rf : Int) (al : Option Addr) (nl cl : Nat) (af : Option Addr) (nf cf : Nat) (c : ByteArray) (vr : Int), e = .returned (.tuple #[.agg #[.int .i64 u, .bool b, .int .i64 i, .float .f64 f, .string tx, .slice ab' nb cb', .int .u64 rf, .slice al nl cl, .slice af nf cf, .string c, .int .i64 vr], .int .i64 (n : Int), .int .i64 0]) ∧ Below W.heap.size W w' ∧ t.In w' (Fr W w') #[.int .i64 u, .bool b, .int .i64 i, .float .f64 f, .string tx, .slice ab' nb cb', .int .u64 rf, .slice al nl cl, .slice af nf cf, .string c, .int .i64 vr]) := fun W hW => by
    have := refDecode_ok (Sp.bts l) (bts_by l) t p2 n hr ab cb W (by rw [Sp.bts_len]; exact hcb) (bytes_rdb (HAB.out W hW)) (by rw [Sp.bts_len]; omega)
    rw [Sp.bts_len] at this
    exact this
  have HD : Hid (∀ (W : World) (base g cap : Nat), Outs W base (some ⟨g, 0, none⟩) cap (Sp.bts l) → Calls Try.prog 29 #[.slice (some ⟨g, 0, none⟩) l.size cap] W fun e w' => ∃ v, e = .returned (.tuple #[v, .int .i64 (n : Int), .int .i64 0]) ∧ Below W.heap.size W w' ∧ t.V w' (Fr W w') v) := fun W base g cap ho => dec_ok l t p2 n hr hl W base g cap ho
  have HSk : Hid (∀ (W : World) (base g cap : Nat), Outs W base (some ⟨g, 0, none⟩) cap (Sp.bts l) → Calls Try.prog 30 #[.slice (some ⟨g, 0, none⟩) l.size cap] W fun e w' => e = .returned (.tuple #[.int .i64 (n : Int), .int .i64 0]) ∧ Below W.heap.size W w') := fun W base g cap ho => skip_ok l t p2 n hr hl W base g cap ho
  have HKe : Hid (∀ (W : World) (base g cap : Nat), Below w.heap.size w W → Outs W base (some ⟨g, 0, none⟩) cap (Sp.bts l ++ Sp.marks 32) → Calls Try.prog 32 #[.slice (some ⟨g, 0, none⟩) (l.size + 32) cap, .slice ab l.size cb] W fun e w' => e = .returned (.bool true) ∧ Below W.heap.size W w') := fun W base g cap hW ho => kept_any l ab cb g cap W hl (HAB.out W hW) (outs_rd ho).1
  clear hr hab hcb
  go_enter Try.func7, Try.ntmps7
  go_wp2_with fail
  refine (HLe.out _ (Below.refl _ _)).mono ?_
  rintro e w1 ⟨g, cap, rfl, ho, hb⟩
  have HO : Hid (∀ W, Below w1.heap.size w1 W → Outs W w.heap.size (some ⟨g, 0, none⟩) cap (Sp.bts l ++ Sp.marks 32)) := fun W hW => outs_call ho hW
  have HB1 : Hid (Below w.heap.size w w1) := hb
  clear ho hb
  go_wp2_with fail
  refine (HD.out _ _ g cap (outs_pre (HO.out _ (Below.refl _ _)))).mono ?_
  rintro e w2 ⟨v1, rfl, hb, hv⟩
  have HB2 : Hid (Below w1.heap.size w1 w2) := hb
  have HV1 : Hid (t.V w2 (Fr w1 w2) v1) := hv
  clear hb hv
  go_wp2_with fail
  refine (HD.out _ _ g cap (outs_pre (HO.out _ HB2.out))).mono ?_
  rintro e w3 ⟨v2, rfl, hb, hv⟩
  have HB3 : Hid (Below w2.heap.size w2 w3) := hb
  have HV2 : Hid (t.V w3 (Fr w2 w3) v2) := hv
  clear hb hv
  go_wp2_with fail
  refine (HSk.out _ _ g cap (outs_pre (HO.out _ (below_to HB2.out HB3.out)))).mono ?_
  rintro e w4 ⟨rfl, hb⟩
  have HB4 : Hid (Below w3.heap.size w3 w4) := hb
  clear hb
  have HB14 : Hid (Below w1.heap.size w1 w4) := below_to (below_to HB2.out HB3.out) HB4.out
  go_wp2_with fail
  refine (HRD.out _ (below_to HB1.out HB14.out)).mono ?_
  rintro e w5 ⟨u, b, i, f, tx, ab', nb, cb', rf, al, nl, cl, af, nf, cf, c, vr, rfl, hb, hin⟩
  have HB5 : Hid (Below w4.heap.size w4 w5) := hb
  have HIN : Hid (t.In w5 (Fr w4 w5) #[.int .i64 u, .bool b, .int .i64 i, .float .f64 f, .string tx, .slice ab' nb cb', .int .u64 rf, .slice al nl cl, .slice af nf cf, .string c, .int .i64 vr]) := hin
  clear hb hin
  have HB6 : Hid (Below w1.heap.size w1 (w5.alloc (.cells #[.int .i64 u, .bool b, .int .i64 i, .float .f64 f, .string tx, .slice ab' nb cb', .int .u64 rf, .slice al nl cl, .slice af nf cf, .string c, .int .i64 vr] 29))) := (below_to HB14.out HB5.out).alloc (below_to HB14.out HB5.out).size _
  go_wp2_with fail
  refine (HKe.out _ _ g cap (below_to HB1.out HB6.out) (HO.out _ HB6.out)).mono ?_
  rintro e w7 ⟨rfl, hb⟩
  have HB7 : Hid (Below w1.heap.size w1 w7) := below_to HB6.out hb
  have HROW : Hid (w7.heap[w5.heap.size]? = some (.cells #[.int .i64 u, .bool b, .int .i64 i, .float .f64 f, .string tx, .slice ab' nb cb', .int .u64 rf, .slice al nl cl, .slice af nf cf, .string c, .int .i64 vr] 29 (0, 0))) := by
    show _ = _
    rw [hb.block _ (by simp)]; exact heap_alloc_new w5 _
  have HB57 : Hid (Below w5.heap.size w5 w7) := ((Below.refl _ _).alloc (Nat.le_refl _) _).trans (hb.mono (by simp))
  clear hb
  have HSZ : Hid (w.heap.size ≤ w1.heap.size ∧ w1.heap.size ≤ w2.heap.size ∧ w2.heap.size ≤ w3.heap.size ∧ w3.heap.size ≤ w4.heap.size ∧ w4.heap.size ≤ w5.heap.size ∧ w5.heap.size < w7.heap.size) := ⟨HB1.out.size, HB2.out.size, HB3.out.size, HB4.out.size, HB5.out.size, lt_row HROW.out⟩
  have HIs : Hid (∀ (W : World) (v : Value), t.V W (Lo w5.heap.size) v → t.In W (Lo w5.heap.size) #[.int .i64 u, .bool b, .int .i64 i, .float .f64 f, .string tx, .slice ab' nb cb', .int .u64 rf, .slice al nl cl, .slice af nf cf, .string c, .int .i64 vr] → w5.heap.size ≤ W.heap.size → Calls Try.prog 14 #[v, .agg #[.int .i64 u, .bool b, .int .i64 i, .float .f64 f, .string tx, .slice ab' nb cb', .int .u64 rf, .slice al nl cl, .slice af nf cf, .string c, .int .i64 vr]] W fun e w' => e = .returned (.bool true) ∧ Below W.heap.size W w') := fun W v h1 h2 h3 => Is_any t v #[.int .i64 u, .bool b, .int .i64 i, .float .f64 f, .string tx, .slice ab' nb cb', .int .u64 rf, .slice al nl cl, .slice af nf cf, .string c, .int .i64 vr] W (Lo w5.heap.size) h1 h2 (Sub.lo h3) HEZ.out
  have HAll : Hid (∀ W, Below w5.heap.size w5 W → t.V W (Lo w5.heap.size) v1 ∧ t.V W (Lo w5.heap.size) v2 ∧ t.In W (Lo w5.heap.size) #[.int .i64 u, .bool b, .int .i64 i, .float .f64 f, .string tx, .slice ab' nb cb', .int .u64 rf, .slice al nl cl, .slice af nf cf, .string c, .int .i64 vr]) := fun W hW => by
    obtain ⟨z0, z1, z2, z3, z4, z5⟩ := HSZ.out
    refine ⟨t.V_same (B := Fr w1 w2) (fun k hk => ?_) (fun k hk => ?_) v1 HV1.out, t.V_same (B := Fr w2 w3) (fun k hk => ?_) (fun k hk => ?_) v2 HV2.out, t.In_same (B := Fr w4 w5) (fun k hk => ?_) (fun k hk => ?_) _ HIN.out⟩
    · have h2 := hk.2
      rw [hW.block k (by omega), HB5.out.block k (by omega), HB4.out.block k (by omega), HB3.out.block k h2]
    · have h2 := hk.2; show k < _; omega
    · have h2 := hk.2
      rw [hW.block k (by omega), HB5.out.block k (by omega), HB4.out.block k h2]
    · have h2 := hk.2; show k < _; omega
    · exact hW.block k hk.2
    · exact hk.2
  obtain ⟨e0, e1, e2, e3, e4, e5, e6, e7, e8, e9, e10⟩ := own11 HROW.out
  go_wp2_with fail
  refine (HIs.out _ _ (HAll.out _ HB57.out).1 (HAll.out _ HB57.out).2.2 HB57.out.size).mono ?_
  rintro e w8 ⟨rfl, hb⟩
  have HB58 : Hid (Below w5.heap.size w5 w8) := below_to HB57.out hb
  have HROW8 : Hid (w8.heap[w5.heap.size]? = some (.cells #[.int .i64 u, .bool b, .int .i64 i, .float .f64 f, .string tx, .slice ab' nb cb', .int .u64 rf, .slice al nl cl, .slice af nf cf, .string c, .int .i64 vr] 29 (0, 0))) := by
    show _ = _
    rw [hb.block _ HSZ.out.2.2.2.2.2]; exact HROW.out
  clear hb e0 e1 e2 e3 e4 e5 e6 e7 e8 e9 e10
  obtain ⟨e0, e1, e2, e3, e4, e5, e6, e7, e8, e9, e10⟩ := own11 HROW8.out
  go_wp2_with fail
  refine (HIs.out _ _ (HAll.out _ HB58.out).2.1 (HAll.out _ HB58.out).2.2 HB58.out.size).mono ?_
  rintro e w9 ⟨rfl, hb⟩
  have HB59 : Hid (Below w5.heap.size w5 w9) := below_to HB58.out hb
  have HROW9 : Hid (w9.heap[w5.heap.size]? = some (.cells #[.int .i64 u, .bool b, .int .i64 i, .float .f64 f, .string tx, .slice ab' nb cb', .int .u64 rf, .slice al nl cl, .slice af nf cf, .string c, .int .i64 vr] 29 (0, 0))) := by
    show _ = _
    rw [hb.block _ (lt_row HROW8.out)]; exact HROW8.out
  clear hb e0 e1 e2 e3 e4 e5 e6 e7 e8 e9 e10
  have HB19 : Hid (Below w1.heap.size w1 w9) := below_to (below_to HB14.out HB5.out) HB59.out
  have HSp : Hid (Calls Try.prog 16 #[v1] w9 fun e w' => e = .returned (.tuple #[]) ∧ Dg (Fr w1 w2) w9 w') := by
    obtain ⟨z0, z1, z2, z3, z4, z5⟩ := HSZ.out
    have hz := HB59.out.size
    refine Spoil_any t v1 (Fr w1 w2) w9 (t.V_same (fun k hk => ?_) (fun _ h => h) v1 HV1.out) (fun k hk => by have := hk.2; omega) HEZ.out
    have h2 := hk.2
    rw [HB59.out.block k (by omega), HB5.out.block k (by omega), HB4.out.block k (by omega), HB3.out.block k h2]
  go_wp2_with fail
  refine HSp.out.mono ?_
  rintro e w10 ⟨rfl, hdg⟩
  have HDG : Hid (Dg (Fr w1 w2) w9 w10) := hdg
  clear hdg
  have HGlt : Hid (g < w1.heap.size) := ((HO.out w1 (Below.refl _ _)).1.lt g rfl).2
  have HO10 : Hid (Outs w10 w.heap.size (some ⟨g, 0, none⟩) cap (Sp.bts l)) := by
    have h := outs_pre (HO.out w9 HB19.out)
    have hg := HGlt.out
    refine ⟨owns_far h.1 (fun g0 hg0 => ?_), Nat.le_trans h.2 HDG.out.size⟩
    simp only [Value.ownBlock, Option.some.injEq] at hg0
    subst hg0
    exact HDG.out.far g (by have := HB19.out.size; omega) (fun hh => by have := hh.1; omega)
  go_wp2_with fail
  refine (full_at (Sp.bts l) (some ⟨g, 0, none⟩) cap w.heap.size _ w10 l.size (by rw [Sp.bts_len]) (by rw [Sp.bts_len]; exact hl) HO10.out).mono ?_
  rintro e w11 ⟨rfl, a11, hg11⟩
  have HG11 : Hid (Gr w.heap.size (some ⟨g, 0, none⟩) a11 w10 w11) := hg11
  clear hg11
  have HO2 : Hid (Outs (w11.alloc (.cells #[.int .u8 2, .int .u8 1] 5)) w11.heap.size (some ⟨w11.heap.size, 0, none⟩) 2 [2, 1]) :=
    ⟨⟨rfl, .inr ⟨w11.heap.size, 2, _, rfl, Nat.le_refl _, heap_alloc_new w11 _, Nat.le_refl _, by simp [maxLen], rfl, rfl⟩⟩, by simp⟩
  go_wp2_with fail
  refine (dec_true _ _ w11.heap.size 2 HO2.out).mono ?_
  rintro e w12 ⟨rfl, hb⟩
  have HB12 : Hid (Below w11.heap.size w11 w12) := ((Below.refl _ _).alloc (Nat.le_refl _) _).trans (hb.mono (by simp))
  clear hb
  have HK : Hid ((∀ k, w2.heap.size ≤ k → k < w9.heap.size → w12.heap[k]? = w9.heap[k]?) ∧ w9.heap.size ≤ w12.heap.size) := by
    obtain ⟨z0, z1, z2, z3, z4, z5⟩ := HSZ.out
    have hg := HGlt.out
    have hz1 := HDG.out.size
    have hz2 := HG11.out.1.size
    refine ⟨fun k h1 h2 => ?_, Nat.le_trans hz1 (Nat.le_trans hz2 HB12.out.size)⟩
    rw [HB12.out.block k (by omega), HG11.out.2.1 k (by omega) (fun e => by simp only [Option.map_some, Option.some.injEq] at e; omega), HDG.out.far k h2 (fun hh => by have := hh.2; omega)]
  have HV12 : Hid (t.V w12 (Lo w5.heap.size) v2 ∧ t.In w12 (Lo w5.heap.size) #[.int .i64 u, .bool b, .int .i64 i, .float .f64 f, .string tx, .slice ab' nb cb', .int .u64 rf, .slice al nl cl, .slice af nf cf, .string c, .int .i64 vr] ∧ w5.heap.size ≤ w12.heap.size ∧ w12.heap[w5.heap.size]? = some (.cells #[.int .i64 u, .bool b, .int .i64 i, .float .f64 f, .string tx, .slice ab' nb cb', .int .u64 rf, .slice al nl cl, .slice af nf cf, .string c, .int .i64 vr] 29 (0, 0))) := by
    obtain ⟨z0, z1, z2, z3, z4, z5⟩ := HSZ.out
    have hz9 := HB59.out.size
    refine ⟨t.V_same (B := Fr w2 w3) (fun k hk => ?_) (fun k hk => ?_) v2 HV2.out, t.In_same (B := Fr w4 w5) (fun k hk => ?_) (fun k hk => ?_) _ HIN.out, by have := HK.out.2; omega, ?_⟩
    · have h1 := hk.1; have h2 := hk.2
      rw [HK.out.1 k h1 (by omega), HB59.out.block k (by omega), HB5.out.block k (by omega), HB4.out.block k h2]
    · have h2 := hk.2; show k < _; omega
    · have h1 := hk.1; have h2 := hk.2
      rw [HK.out.1 k (by omega) (by omega), HB59.out.block k h2]
    · exact hk.2
    · rw [HK.out.1 _ (by omega) (lt_row HROW9.out)]; exact HROW9.out
  have HFin : Hid (Below w.heap.size w w12) := by
    obtain ⟨z0, z1, z2, z3, z4, z5⟩ := HSZ.out
    have h9 : Below w.heap.size w w9 := below_to HB1.out HB19.out
    have h10 : Below w.heap.size w w10 := Far.below (Far.dg (Far.of (Below.refl _ w9)) HDG.out (fun _ h => h)) h9 (fun k hk => by have := hk.1; omega)
    exact (h10.trans HG11.out.1).trans (HB12.out.mono (by have := h10.size; have := HG11.out.1.size; omega))
  obtain ⟨e0, e1, e2, e3, e4, e5, e6, e7, e8, e9, e10⟩ := own11 HV12.out.2.2.2
  go_wp2_with fail
  refine (HIs.out _ _ HV12.out.1 HV12.out.2.1 HV12.out.2.2.1).mono ?_
  rintro e w13 ⟨rfl, hb⟩
  have HB13 : Hid (Below w12.heap.size w12 w13) := hb
  clear hb e0 e1 e2 e3 e4 e5 e6 e7 e8 e9 e10
  go_wp2_with fail
  go_ret
  exact ⟨rfl, below_to HFin.out HB13.out⟩
theorem WireDecodes_any (l : ByteArray) (ab : Option Addr) (cb : Nat) (w : World) (hl : l.size ≤ 140737488351232) (hab : BytesAt w (Lo w.heap.size) ab l) (hcb : l.size ≤ cb) :
    Calls Try.prog 7 #[.slice ab l.size cb] w fun e w' => e = .returned (.bool true) ∧ Below w.heap.size w w' := by
  cases hr : Sp.rdV (Sp.bts l) 64 0 0 with
  | ok tp n => exact WireDecodes_ok l ab cb w hl hab hcb tp.1 tp.2 n hr
  | bad q er => exact WireDecodes_bad l ab cb w hl hab hcb q er hr
end Go.Proofs.Ytkomcebknllaiaa
