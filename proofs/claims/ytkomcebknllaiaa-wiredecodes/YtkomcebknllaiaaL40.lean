/- The reader's value where something is wrong. -/
import Derived.Test.YtkomcebknllaiaaL39
import Derived.Test.YtkomcebknllaiaaL33
import Derived.Test.YtkomcebknllaiaaL31
import Derived.Test.YtkomcebknllaiaaL35
import Derived.Test.YtkomcebknllaiaaL37
namespace Go.Proofs.Ytkomcebknllaiaa
open Go.RowKit

set_option maxRecDepth 100000 in
set_option maxHeartbeats 1000000 in
theorem bval_end (d : Int) (b : Nat) (a : Option Addr) (xs : List Int) (cap at' p : Nat) (w : World) (h : Rdr w b a xs cap at' p) (hx : xs[at']? = none) : Calls Try.prog 98 #[.pointer (some ⟨b, 0, none⟩), .int .i64 d] w fun x w' => x = Flt xs.length 4 ∧ But b w w' := by
  have HK : Hid (Calls Try.prog 117 #[.pointer (some ⟨b, 0, none⟩), .int .i64 d] w fun x w' => x = Flt xs.length 4 ∧ But b w w') := kind_bad1 b a xs cap at' p w h d hx
  obtain ⟨c0, c1, c2, f1, f2, rd, cp, ln, le, np⟩ := h
  clear rd hx
  go_enter Try.func98, Try.ntmps98
  go_wp2_with fail
  refine HK.out.mono ?_
  rintro e w1 ⟨rfl, hb1⟩
  exact ⟨rfl, rfl, hb1⟩
set_option maxRecDepth 100000 in
set_option maxHeartbeats 1000000 in
theorem bval_more (d : Int) (b : Nat) (a : Option Addr) (xs : List Int) (cap at' p : Nat) (w : World) (h : Rdr w b a xs cap at' p) (k : Int) (hx : xs[at']? = some k) (hp : 16384 ≤ p ∨ 64 < d) : Calls Try.prog 98 #[.pointer (some ⟨b, 0, none⟩), .int .i64 d] w fun x w' => x = Flt at' 2 ∧ But b w w' := by
  have HK : Hid (Calls Try.prog 117 #[.pointer (some ⟨b, 0, none⟩), .int .i64 d] w fun x w' => x = Flt at' 2 ∧ But b w w') := kind_bad2 b a xs cap at' p w h d k hx hp
  obtain ⟨c0, c1, c2, f1, f2, rd, cp, ln, le, np⟩ := h
  clear rd hx hp
  go_enter Try.func98, Try.ntmps98
  go_wp2_with fail
  refine HK.out.mono ?_
  rintro e w1 ⟨rfl, hb1⟩
  exact ⟨rfl, rfl, hb1⟩

theorem value_bad (xs : List Int) (hby : By xs) : ∀ f, f ≤ 64 → VB xs f
  | 0, _ => fun b a cap at' p q er w d hd h hr => by
    rw [Sp.rdV] at hr
    split at hr
    · rename_i hl
      injection hr with e1 e2; subst e1; subst e2
      exact bval_end d b a xs cap at' p w h (List.getElem?_eq_none_iff.2 hl)
    · rename_i hl
      injection hr with e1 e2; subst e1; subst e2
      exact bval_more d b a xs cap _ p w h _ (List.getElem?_eq_getElem (by omega)) (.inr (by omega))
  | f + 1, hf => fun b a cap at' p q er w d hd h hr => by
    have HC := value_ok xs hby f (by omega)
    have HV := value_bad xs hby f (by omega)
    rw [Sp.rdV] at hr
    cases hx : xs[at']? with
    | none =>
      rw [hx] at hr
      injection hr with e1 e2; subst e1; subst e2
      exact bval_end d b a xs cap at' p w h hx
    | some k =>
      rw [hx] at hr
      simp only at hr
      by_cases hp : 16384 ≤ p
      · rw [if_pos hp] at hr
        injection hr with e1 e2; subst e1; subst e2
        exact bval_more d b a xs cap _ p w h k hx (.inl hp)
      · rw [if_neg hp] at hr
        have hp : p < 16384 := by omega
        have hd4 : d ≤ 64 := by omega
        have hdf : d + 1 = 65 - (f : Int) := by omega
        unfold Sp.rdB at hr
        split at hr
        · simp at hr
        rename_i k1
        split at hr
        · rename_i hk; subst hk
          cases hc : xs[at' + 1]? with
          | none =>
            rw [hc] at hr
            injection hr with e1 e2; subst e1; subst e2
            exact bval_2a d b a xs cap at' p w h hp hd4 hx hc
          | some c =>
            rw [hc] at hr
            simp only at hr
            split at hr
            · rename_i hc1
              injection hr with e1 e2; subst e1; subst e2
              exact bval_2b d b a xs cap at' p w h hp hd4 hx c hc hc1
            · simp at hr
        rename_i k2
        split at hr
        · rename_i hk; subst hk
          cases hn : Sp.rn xs (at' + 1) 10 0 0 with
          | bad q1 e1 =>
            rw [hn] at hr
            injection hr with e1 e2; subst e1; subst e2
            exact bval_3 d b a xs cap at' p w h hp hd4 hx hby _ _ hn
          | ok n a' => rw [hn] at hr; simp at hr
        rename_i k3
        split at hr
        · rename_i hk; subst hk
          unfold Sp.tk at hr
          by_cases hl : at' + 1 + 8 ≤ xs.length
          · rw [if_pos hl] at hr; simp at hr
          · rw [if_neg hl] at hr
            injection hr with e1 e2; subst e1; subst e2
            exact bval_4 d b a xs cap at' p w h hp hd4 hx hl
        rename_i k4
        split at hr
        · rename_i hk
          cases hn : Sp.cnt xs (at' + 1) at' 65536 with
          | bad q1 e1 =>
            rw [hn] at hr
            injection hr with e1 e2; subst e1; subst e2
            rcases hk with rfl | rfl
            · exact bval_5a d b a xs cap at' p w h hp hd4 hx hby _ _ hn
            · exact bval_6a d b a xs cap at' p w h hp hd4 hx hby _ _ hn
          | ok n a' =>
            obtain ⟨hrn, hn4⟩ := cnt_ok hn
            rw [hn] at hr
            simp only at hr
            unfold Sp.tk at hr
            by_cases hl : a' + n ≤ xs.length
            · rw [if_pos hl] at hr; simp at hr
            · rw [if_neg hl] at hr
              injection hr with e1 e2; subst e1; subst e2
              rcases hk with rfl | rfl
              · exact bval_5b d b a xs cap at' p w h hp hd4 hx hby n a' hrn hn4 hl
              · exact bval_6b d b a xs cap at' p w h hp hd4 hx hby n a' hrn hn4 hl
        rename_i k56
        split at hr
        · rename_i hk; subst hk
          cases hn : Sp.rn xs (at' + 1) 10 0 0 with
          | bad q1 e1 =>
            rw [hn] at hr
            injection hr with e1 e2; subst e1; subst e2
            exact bval_7 d b a xs cap at' p w h hp hd4 hx hby _ _ hn
          | ok n a' => rw [hn] at hr; simp at hr
        rename_i k7
        split at hr
        · rename_i hk; subst hk
          cases hn : Sp.cnt xs (at' + 1) at' 4096 with
          | bad q1 e1 =>
            rw [hn] at hr
            injection hr with e1 e2; subst e1; subst e2
            exact bval_8a d b a xs cap at' p w h hp hd4 hx hby _ _ hn
          | ok n a' =>
            obtain ⟨hrn, hn4⟩ := cnt_ok hn
            rw [hn] at hr
            simp only at hr
            cases hL : Sp.rdL (Sp.rdV xs f) n a' (p + 1) with
            | bad q1 e1 =>
              rw [hL] at hr
              injection hr with e1 e2; subst e1; subst e2
              exact bval_8b d b a xs cap at' p w h hp hd4 hx hby f HC HV hdf (by omega) _ _ n a' hrn hn4 hL
            | ok lp a3 => rw [hL] at hr; simp at hr
        rename_i k8
        split at hr
        · rename_i hk; subst hk
          cases hL : Sp.rdD xs at' (Sp.rdV xs f) (at' + 1) (p + 1) with
          | bad q1 e1 =>
            rw [hL] at hr
            injection hr with e1 e2; subst e1; subst e2
            exact bval_9 d b a xs cap at' p w h hp hd4 hx hby f HC HV hdf (by omega) _ _ hL
          | ok lp a3 => rw [hL] at hr; simp at hr
        rename_i k9
        split at hr
        · rename_i hk; subst hk
          cases hN : Sp.rdN xs (at' + 1) at' with
          | bad q1 e1 =>
            rw [hN] at hr
            injection hr with e1 e2; subst e1; subst e2
            exact bval_10a d b a xs cap at' p w h hp hd4 hx hby _ _ hN
          | ok c a' =>
            obtain ⟨nn, an, hrn, hn32, hle, rfl, rfl, hnm⟩ := rdN_ok hN
            rw [hN] at hr
            simp only at hr
            cases hv : Sp.rn xs (an + nn) 10 0 0 with
            | bad q1 e1 =>
              rw [hv] at hr
              injection hr with e1 e2; subst e1; subst e2
              exact bval_10b d b a xs cap at' p w h hp hd4 hx hby nn an hrn hn32 hle hnm _ _ hv
            | ok v a4 =>
              rw [hv] at hr
              simp only at hr
              split at hr
              · rename_i hv1
                injection hr with e1 e2; subst e1; subst e2
                exact bval_10c d b a xs cap _ p w h hp hd4 hx hby nn an hrn hn32 hle hnm v a4 hv hv1
              · rename_i hv1
                cases hL : Sp.rdD xs at' (Sp.rdV xs f) a4 (p + 1) with
                | bad q1 e1 =>
                  rw [hL] at hr
                  injection hr with e1 e2; subst e1; subst e2
                  exact bval_10d d b a xs cap at' p w h hp hd4 hx hby nn an hrn hn32 hle hnm v a4 hv (by omega) f HC HV hdf (by omega) _ _ hL
                | ok lp a3 => rw [hL] at hr; simp at hr
        · rename_i k10
          injection hr with e1 e2; subst e1; subst e2
          exact bval_0 d b a xs cap _ p w h hp hd4 k hx k1 k2 k3 k4 (by omega) (by omega) k7 k8 k9 k10
end Go.Proofs.Ytkomcebknllaiaa

/- wire.look, Decode and Skip at bytes that begin with no value. -/
namespace Go.Proofs.Ytkomcebknllaiaa
open Go.RowKit

set_option maxRecDepth 100000 in
set_option maxHeartbeats 1000000 in
theorem look_bad (xs : List Int) (hby : By xs) (q : Nat) (er : Int) (hr : Sp.rdV xs 64 0 0 = .bad q er) (a : Option Addr) (cap : Nat) (w : World) (hrd : RdB w (Lo w.heap.size) a xs) (hcp : xs.length ≤ cap) (hln : xs.length ≤ 281474976710656) :
    Calls Try.prog 53 #[.slice a xs.length cap] w fun e w' => e = .returned (.tuple #[.int .i64 (q : Int), .int .i64 er]) ∧ Below w.heap.size w w' := by
  have hmf : ∀ (fn : Fn) (first cap : Array Value) (w : World), (Instr.makeFunc fn first cap).run Try.prog w = .ok (.func fn first cap) w := fun _ _ _ _ => rfl
  have HX : Hid (By xs ∧ Sp.rdV xs 64 0 0 = .bad q er ∧ RdB w (Lo w.heap.size) a xs ∧ xs.length ≤ cap ∧ xs.length ≤ 281474976710656) := ⟨hby, hr, hrd, hcp, hln⟩
  clear hby hr hrd hcp hln
  go_enter_defers Try.func53, Try.ntmps53
  go_wp2_with fail
  show Calls Try.prog _ _ (lookW w a xs.length cap) _
  obtain ⟨hR, hbW, hzW, hW0, hW1⟩ := lookW_rdr w a xs cap HX.out.2.2.1 HX.out.2.2.2.1 HX.out.2.2.2.2
  refine (value_bad xs HX.out.1 64 (Nat.le_refl _) (w.heap.size + 1 + 1) a cap 0 0 q er _ 1 rfl hR HX.out.2.1).mono ?_
  rintro e w1 ⟨rfl, hb1⟩
  have hB0 := hb1.block w.heap.size (by omega) (by omega)
  have hB1 := hb1.block (w.heap.size + 1) (by omega) (by omega)
  rw [hW0] at hB0
  rw [hW1] at hB1
  have e0 : w1.cell? ⟨w.heap.size, 0, none⟩ = some (.int .i64 0) := by rw [cell_of_row _ _ 0 _ _ _ hB0]; rfl
  have e1 : w1.cell? ⟨w.heap.size + 1, 0, none⟩ = some (.int .i64 0) := by rw [cell_of_row _ _ 0 _ _ _ hB1]; rfl
  have z0 : w1.frozen? ⟨w.heap.size, 0, none⟩ = false := frozen_of_row _ _ 0 _ _ hB0
  have z1 : w1.frozen? ⟨w.heap.size + 1, 0, none⟩ = false := frozen_of_row _ _ 0 _ _ hB1
  have HB : Hid (Below w.heap.size w w1) := hbW.trans (hb1.below (by omega))
  clear hb1 hR hbW hzW hW0 hW1 hB0 hB1
  refine leaves_cons (f := 97) (args := #[.pointer (some ⟨w.heap.size, 0, none⟩), .pointer (some ⟨w.heap.size + 1, 0, none⟩)]) (by simp) (by simp [go_sem]) ?_
  refine (catch_fault w.heap.size (w.heap.size + 1) 0 0 q er [] w1 e0 e1 z0 z1 (by omega)).mono ?_
  rintro e u' w2 ⟨rfl, rfl, d0, d1, hbb⟩
  simp [Leaves, settle, results, Try.results53, go_sem, d0, d1]
  exact HB.out.trans (hbb _ (Nat.le_refl _) (Nat.le_succ _))

set_option maxRecDepth 100000 in
set_option maxHeartbeats 1000000 in
theorem Skip_bad (xs : List Int) (hby : By xs) (q : Nat) (er : Int) (hr : Sp.rdV xs 64 0 0 = .bad q er) (her : er ≠ 0) (a : Option Addr) (cap : Nat) (w : World) (hrd : RdB w (Lo w.heap.size) a xs) (hcp : xs.length ≤ cap) (hln : xs.length ≤ 281474976710656) :
    Calls Try.prog 30 #[.slice a xs.length cap] w fun e w' => e = .returned (.tuple #[.int .i64 0, .int .i64 er]) ∧ Below w.heap.size w w' := by
  have HL : Hid (Calls Try.prog 53 #[.slice a xs.length cap] w fun e w' => e = .returned (.tuple #[.int .i64 (q : Int), .int .i64 er]) ∧ Below w.heap.size w w') := look_bad xs hby q er hr a cap w hrd hcp hln
  have he : (er != 0) = true := by simp [her]
  clear hr hby hrd her
  go_enter Try.func30, Try.ntmps30
  go_wp2_with fail
  refine HL.out.mono ?_
  rintro e w1 ⟨rfl, hb1⟩
  go_wp2_with fail
  go_ret2
  exact ⟨rfl, hb1⟩

set_option maxRecDepth 100000 in
set_option maxHeartbeats 1000000 in
theorem Decode_bad (xs : List Int) (hby : By xs) (q : Nat) (er : Int) (hr : Sp.rdV xs 64 0 0 = .bad q er) (her : er ≠ 0) (a : Option Addr) (cap : Nat) (w : World) (hrd : RdB w (Lo w.heap.size) a xs) (hcp : xs.length ≤ cap) (hln : xs.length ≤ 281474976710656) :
    Calls Try.prog 29 #[.slice a xs.length cap] w fun e w' => e = .returned (.tuple #[.nilIface, .int .i64 (q : Int), .int .i64 er]) ∧ Below w.heap.size w w' := by
  have HL : Hid (Calls Try.prog 53 #[.slice a xs.length cap] w fun e w' => e = .returned (.tuple #[.int .i64 (q : Int), .int .i64 er]) ∧ Below w.heap.size w w') := look_bad xs hby q er hr a cap w hrd hcp hln
  have he : (er != 0) = true := by simp [her]
  clear hr hby hrd her
  go_enter Try.func29, Try.ntmps29
  go_wp2_with fail
  refine HL.out.mono ?_
  rintro e w1 ⟨rfl, hb1⟩
  go_wp2_with fail
  go_ret3
  exact ⟨rfl, hb1⟩
end Go.Proofs.Ytkomcebknllaiaa

/- What WireDecodes wants of the rows and of Decode. -/
namespace Go.Proofs.Ytkomcebknllaiaa
open Go.RowKit

theorem outs_pre {w : World} {base g cap : Nat} {xs ys : List Int} (h : Outs w base (some ⟨g, 0, none⟩) cap (xs ++ ys)) : Outs w base (some ⟨g, 0, none⟩) cap xs := by
  refine ⟨⟨by simp [u8s], .inr ?_⟩, h.2⟩
  rcases h.1.2 with ⟨e, _⟩ | ⟨g0, cap0, cur, e, hb, hc, h1, h2, h3, h4⟩
  · simp at e
  · simp only [Value.slice.injEq, Option.some.injEq, Addr.mk.injEq, and_true, true_and] at e
    obtain ⟨rfl, rfl⟩ := e
    refine ⟨g, cap, cur, rfl, hb, hc, by rw [List.length_append] at h1; omega, h2, h3, ?_⟩
    have h5 := congrArg (List.take (xs.length * 1)) h4
    rw [List.take_take, List.length_append, Nat.min_eq_left (by omega), u8s_app] at h5
    rw [h5, List.take_append_of_le_length (by simp [u8s]), List.take_of_length_le (by simp [u8s])]
theorem bytes_rdb {w : World} {S : Nat → Prop} {ab : Option Addr} {l : ByteArray} (h : BytesAt w S ab l) : RdB w S ab (Sp.bts l) := fun j u hu => by
  have hj : j < l.size := by have := (List.getElem?_eq_some_iff.1 hu).1; rw [Sp.bts_len] at this; exact this
  obtain ⟨g, o, e, hg, hc⟩ := h j hj
  refine ⟨g, o, e, hg, ?_⟩
  have : u = Sp.byte l j := by
    simp only [Sp.bts, List.getElem?_map] at hu
    rw [List.getElem?_range hj] at hu
    simpa using hu.symm
  rw [this]; exact hc
theorem dec_ok (l : ByteArray) (t : Tm) (p2 n : Nat) (hr : Sp.rdV (Sp.bts l) 64 0 0 = .ok (t, p2) n) (hl : l.size ≤ 140737488351232) (W : World) (base g cap : Nat) (ho : Outs W base (some ⟨g, 0, none⟩) cap (Sp.bts l)) :
    Calls Try.prog 29 #[.slice (some ⟨g, 0, none⟩) l.size cap] W fun e w' => ∃ v, e = .returned (.tuple #[v, .int .i64 (n : Int), .int .i64 0]) ∧ Below W.heap.size W w' ∧ t.V w' (Fr W w') v := by
  obtain ⟨h1, h2, h3, h4, h5, h6⟩ := rd_snd (bts_by l) hr
  obtain ⟨q, hq⟩ := rd_enc t [] h1 h2
  rw [List.append_nil, h3, ← h4, ← h6] at hq
  obtain ⟨hrd, hcp⟩ := outs_rd ho
  have := Decode_ok (Sp.bts l) (bts_by l) t p2 q n hr hq h5 g 0 cap W hrd hcp (by rw [Sp.bts_len]; omega)
  rw [Sp.bts_len] at this
  exact this
theorem dec_bad (l : ByteArray) (q : Nat) (er : Int) (hr : Sp.rdV (Sp.bts l) 64 0 0 = .bad q er) (her : er ≠ 0) (hl : l.size ≤ 140737488351232) (W : World) (base g cap : Nat) (ho : Outs W base (some ⟨g, 0, none⟩) cap (Sp.bts l)) :
    Calls Try.prog 29 #[.slice (some ⟨g, 0, none⟩) l.size cap] W fun e w' => e = .returned (.tuple #[.nilIface, .int .i64 (q : Int), .int .i64 er]) ∧ Below W.heap.size W w' := by
  obtain ⟨hrd, hcp⟩ := outs_rd ho
  have := Decode_bad (Sp.bts l) (bts_by l) q er hr her _ cap W hrd hcp (by rw [Sp.bts_len]; omega)
  rw [Sp.bts_len] at this
  exact this
theorem skip_ok (l : ByteArray) (t : Tm) (p2 n : Nat) (hr : Sp.rdV (Sp.bts l) 64 0 0 = .ok (t, p2) n) (hl : l.size ≤ 140737488351232) (W : World) (base g cap : Nat) (ho : Outs W base (some ⟨g, 0, none⟩) cap (Sp.bts l)) :
    Calls Try.prog 30 #[.slice (some ⟨g, 0, none⟩) l.size cap] W fun e w' => e = .returned (.tuple #[.int .i64 (n : Int), .int .i64 0]) ∧ Below W.heap.size W w' := by
  obtain ⟨hrd, hcp⟩ := outs_rd ho
  have := Skip_ok (Sp.bts l) (bts_by l) t p2 n hr _ cap W hrd hcp (by rw [Sp.bts_len]; omega)
  rw [Sp.bts_len] at this
  exact this
theorem skip_bad (l : ByteArray) (q : Nat) (er : Int) (hr : Sp.rdV (Sp.bts l) 64 0 0 = .bad q er) (her : er ≠ 0) (hl : l.size ≤ 140737488351232) (W : World) (base g cap : Nat) (ho : Outs W base (some ⟨g, 0, none⟩) cap (Sp.bts l)) :
    Calls Try.prog 30 #[.slice (some ⟨g, 0, none⟩) l.size cap] W fun e w' => e = .returned (.tuple #[.int .i64 0, .int .i64 er]) ∧ Below W.heap.size W w' := by
  obtain ⟨hrd, hcp⟩ := outs_rd ho
  have := Skip_bad (Sp.bts l) (bts_by l) q er hr her _ cap W hrd hcp (by rw [Sp.bts_len]; omega)
  rw [Sp.bts_len] at this
  exact this
theorem dec_true (W : World) (base g cap : Nat) (ho : Outs W base (some ⟨g, 0, none⟩) cap [2, 1]) :
    Calls Try.prog 29 #[.slice (some ⟨g, 0, none⟩) 2 cap] W fun e w' => e = .returned (.tuple #[.iface 4 (.bool true), .int .i64 2, .int .i64 0]) ∧ Below W.heap.size W w' := by
  obtain ⟨hrd, hcp⟩ := outs_rd ho
  have hr : Sp.rdV [2, 1] 64 0 0 = .ok (lfT 2 true 0 0 ByteArray.empty ByteArray.empty 0, 1) 2 := by rfl
  refine (Decode_ok [2, 1] (fun x hx => by simp at hx; omega) _ 1 1 2 hr hr (by decide) g 0 cap W hrd hcp (by decide)).mono ?_
  rintro e w' ⟨v, rfl, hb, hv⟩
  have : v = .iface 4 (.bool true) := by simpa [lfT, Tm.V] using hv
  subst this
  exact ⟨rfl, hb⟩
end Go.Proofs.Ytkomcebknllaiaa

