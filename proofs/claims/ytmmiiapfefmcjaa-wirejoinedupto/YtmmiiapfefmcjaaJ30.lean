/- The reader's value: a list; and all kinds, where nothing is wrong. -/
import Derived.Test.YtmmiiapfefmcjaaJ29
import Derived.Defers
import Derived.Recover
import Derived.Deep.RegionHeld3
namespace Go.Proofs.Ytmmiiapfefmcjaa
open Go.RowKit

section
variable (d : Int) (b : Nat) (a : Option Addr) (xs : List Int) (cap at' p : Nat) (w : World) (h : Rdr w b a xs cap at' p) (hp : p < 16384) (hd : d ≤ 64)
include h hp hd
set_option maxRecDepth 100000 in
set_option maxHeartbeats 2000000 in
theorem dval_8 (hx : xs[at']? = some 8) (hby : By xs) (f : Nat) (HC : VC xs f) (hdf : d + 1 = 65 - (f : Int)) (hf : f ≤ 64) (L : TmL) (p2 a2 n a1 : Nat) (hn : Sp.rn xs (at' + 1) 10 0 0 = .ok n a1) (hn4 : n ≤ 4096) (hr : Sp.rdL (Sp.rdV xs f) n a1 (p + 1) = .ok (L, p2) a2) : Calls Try.prog 83 #[.pointer (some ⟨b, 0, none⟩), .int .i64 d] w fun e w' => e = .returned (.tuple #[]) ∧ Rdr w' b a xs cap a2 p2 ∧ But b w w' := by
  have HX : Hid (By xs ∧ VC xs f ∧ Sp.rn xs (at' + 1) 10 0 0 = .ok n a1 ∧ n ≤ 4096) := ⟨hby, HC, hn, hn4⟩
  have HR : Hid (Sp.rdL (Sp.rdV xs f) n a1 (p + 1) = .ok (L, p2) a2) := hr
  have hwd : IntKind.i64.wrap (d + 1) = d + 1 := Go.wrap_small _ (by omega) (by omega)
  have HK : Hid (Calls Try.prog 110 #[.pointer (some ⟨b, 0, none⟩), .int .i64 d] w fun e w' => e = .returned (.int .u8 8) ∧ Rdr w' b a xs cap (at' + 1) (p + 1) ∧ But b w w') := kind_ok 8 d b a xs cap at' p w h hx hp hd
  obtain ⟨c0, c1, c2, f1, f2, rd, cp, ln, le, np⟩ := h
  clear rd hx hby HC hr hn
  go_enter Try.func83, Try.ntmps83
  go_wp2_with fail
  refine HK.out.mono ?_
  rintro e w1 ⟨rfl, hr1, hb1⟩
  have HR1 : Hid (Rdr w1 b a xs cap (at' + 1) (p + 1) ∧ But b w w1) := ⟨hr1, hb1⟩
  clear hr1 hb1 HK
  go_wp2_with fail
  refine (count_ok n a1 at' 4096 b a xs cap (at' + 1) (p + 1) w1 HR1.out.1 HX.out.1 HX.out.2.2.1 HX.out.2.2.2 (by decide)).mono ?_
  rintro e w2 ⟨rfl, hr2, hb2⟩
  have HR2 : Hid (Rdr w2 b a xs cap a1 (p + 1) ∧ But b w w2) := ⟨hr2, HR1.out.2.trans hb2⟩
  clear hr2 hb2
  go_wp2_with fail
  go_loopw [43] (fun x wr => ∃ (k j pp aa : Nat) (l : TmL), x = .int .i64 (k : Int) ∧ k + j = n ∧ Hid (Sp.rdL (Sp.rdV xs f) j aa pp = .ok (l, p2) a2 ∧ Rdr wr b a xs cap aa pp ∧ But b w wr)) (fun x _ => n - (intOf x).toNat)
  case atStart => exact ⟨0, n, p + 1, a1, L, rfl, by omega, HR.out, HR2.out⟩
  case round =>
    obtain ⟨k, j, pp, aa, l, rfl, hkj, HI⟩ := hrel
    clear HR HR1 HR2
    cases j with
    | zero =>
      have h1 : ¬ ((k : Int) < (n : Int)) := by omega
      obtain ⟨hrf, hrd, hbl⟩ := HI.out
      rw [Sp.rdL] at hrf
      injection hrf with e1 e2
      injection e1 with e3 e4
      subst e4
      subst e2
      have HF : Hid (Rdr wr b a xs cap aa pp ∧ But b w wr) := ⟨hrd, hbl⟩
      clear hrd hbl HI
      go_wp2_with fail
      go_end0
      exact ⟨rfl, HF.out⟩
    | succ j =>
      have h1 : (k : Int) < (n : Int) := by omega
      obtain ⟨hrf, hrd, hbl⟩ := HI.out
      rw [Sp.rdL] at hrf
      cases hv : Sp.rdV xs f aa pp with
      | bad q e => rw [hv] at hrf; simp at hrf
      | ok tp av =>
        obtain ⟨t, p1⟩ := tp
        rw [hv] at hrf
        simp only at hrf
        cases hq : Sp.rdL (Sp.rdV xs f) j av p1 with
        | bad q e => rw [hq] at hrf; simp at hrf
        | ok lp a3 =>
          obtain ⟨l3, p3⟩ := lp
          rw [hq] at hrf
          simp only at hrf
          injection hrf with e1 e2
          injection e1 with e3 e4
          subst e4
          subst e2
          have HVV : Hid (Sp.rdV xs f aa pp = .ok (t, p1) av) := hv
          have HQ : Hid (Sp.rdL (Sp.rdV xs f) j av p1 = .ok (l3, p3) a3) := hq
          have HBL : Hid (Rdr wr b a xs cap aa pp ∧ But b w wr) := ⟨hrd, hbl⟩
          clear hrd hbl HI hv hq
          go_wp2_with fail
          refine (HX.out.2.1 b a cap aa pp t p1 av wr _ (by omega) HBL.out.1 HVV.out).mono ?_
          rintro e w4 ⟨rfl, hr4, hb4⟩
          have HR4 : Hid (Rdr w4 b a xs cap av p1 ∧ But b wr w4) := ⟨hr4, hb4⟩
          clear hr4 hb4
          go_wp2_with fail
          go_roundw
          case rel => exact ⟨k + 1, j, p1, av, l3, by go_num, by omega, HQ.out, HR4.out.1, HBL.out.2.trans HR4.out.2⟩
          case measure => simp [intOf]; omega
end

theorem value_ok (xs : List Int) (hby : By xs) : ∀ f, f ≤ 64 → VC xs f
  | 0, _ => fun b a cap at' p t p2 a2 w d hd h hr => by
    rw [Sp.rdV] at hr
    split at hr <;> simp at hr
  | f + 1, hf => fun b a cap at' p t p2 a2 w d hd h hr => by
    have HC := value_ok xs hby f (by omega)
    rw [Sp.rdV] at hr
    cases hx : xs[at']? with
    | none => rw [hx] at hr; simp at hr
    | some k =>
      rw [hx] at hr
      simp only at hr
      by_cases hp : 16384 ≤ p
      · rw [if_pos hp] at hr; simp at hr
      · rw [if_neg hp] at hr
        have hp : p < 16384 := by omega
        have hd4 : d ≤ 64 := by omega
        have hdf : d + 1 = 65 - (f : Int) := by omega
        unfold Sp.rdB at hr
        split at hr
        · rename_i hk; subst hk
          injection hr with e1 e2; injection e1 with e3 e4; subst e2; subst e4
          exact dval_1 d b a xs cap at' p w h hp hd4 hx
        split at hr
        · rename_i hk; subst hk
          cases hc : xs[at' + 1]? with
          | none => rw [hc] at hr; simp at hr
          | some c =>
            rw [hc] at hr
            simp only at hr
            split at hr
            · simp at hr
            · rename_i hc1
              injection hr with e1 e2; injection e1 with e3 e4; subst e2; subst e4
              exact dval_2 d b a xs cap at' p w h hp hd4 hx c hc (by omega)
        split at hr
        · rename_i hk; subst hk
          cases hn : Sp.rn xs (at' + 1) 10 0 0 with
          | bad q e => rw [hn] at hr; simp at hr
          | ok n a' =>
            rw [hn] at hr
            injection hr with e1 e2; injection e1 with e3 e4; subst e2; subst e4
            exact dval_3 d b a xs cap at' p w h hp hd4 hx hby n _ hn
        split at hr
        · rename_i hk; subst hk
          unfold Sp.tk at hr
          by_cases hl : at' + 1 + 8 ≤ xs.length
          · rw [if_pos hl] at hr
            injection hr with e1 e2; injection e1 with e3 e4; subst e2; subst e4
            exact dval_4 d b a xs cap at' p w h hp hd4 hx hl
          · rw [if_neg hl] at hr; simp at hr
        split at hr
        · rename_i hk
          cases hn : Sp.cnt xs (at' + 1) at' 65536 with
          | bad q e => rw [hn] at hr; simp at hr
          | ok n a' =>
            obtain ⟨hrn, hn4⟩ := cnt_ok hn
            rw [hn] at hr
            simp only at hr
            unfold Sp.tk at hr
            by_cases hl : a' + n ≤ xs.length
            · rw [if_pos hl] at hr
              injection hr with e1 e2; injection e1 with e3 e4; subst e2; subst e4
              rcases hk with rfl | rfl
              · exact dval_5 d b a xs cap at' p w h hp hd4 hx hby n a' hrn hn4 hl
              · exact dval_6 d b a xs cap at' p w h hp hd4 hx hby n a' hrn hn4 hl
            · rw [if_neg hl] at hr; simp at hr
        split at hr
        · rename_i hk; subst hk
          cases hn : Sp.rn xs (at' + 1) 10 0 0 with
          | bad q e => rw [hn] at hr; simp at hr
          | ok n a' =>
            rw [hn] at hr
            injection hr with e1 e2; injection e1 with e3 e4; subst e2; subst e4
            exact dval_7 d b a xs cap at' p w h hp hd4 hx hby n _ hn
        split at hr
        · rename_i hk; subst hk
          cases hn : Sp.cnt xs (at' + 1) at' 4096 with
          | bad q e => rw [hn] at hr; simp at hr
          | ok n a' =>
            obtain ⟨hrn, hn4⟩ := cnt_ok hn
            rw [hn] at hr
            simp only at hr
            cases hL : Sp.rdL (Sp.rdV xs f) n a' (p + 1) with
            | bad q e => rw [hL] at hr; simp at hr
            | ok lp a3 =>
              obtain ⟨l, p3⟩ := lp
              rw [hL] at hr
              injection hr with e1 e2; injection e1 with e3 e4; subst e2; subst e4
              exact dval_8 d b a xs cap at' p w h hp hd4 hx hby f HC hdf (by omega) l _ _ n a' hrn hn4 hL
        split at hr
        · rename_i hk; subst hk
          cases hL : Sp.rdD xs at' (Sp.rdV xs f) (at' + 1) (p + 1) with
          | bad q e => rw [hL] at hr; simp at hr
          | ok lp a3 =>
            obtain ⟨l, p3⟩ := lp
            rw [hL] at hr
            injection hr with e1 e2; injection e1 with e3 e4; subst e2; subst e4
            exact dval_9 d b a xs cap at' p w h hp hd4 hx hby f HC hdf (by omega) l _ _ hL
        split at hr
        · rename_i hk; subst hk
          cases hN : Sp.rdN xs (at' + 1) at' with
          | bad q e => rw [hN] at hr; simp at hr
          | ok c a' =>
            obtain ⟨nn, an, hrn, hn32, hle, rfl, rfl, hnm⟩ := rdN_ok hN
            rw [hN] at hr
            simp only at hr
            cases hv : Sp.rn xs (an + nn) 10 0 0 with
            | bad q e => rw [hv] at hr; simp at hr
            | ok v a4 =>
              rw [hv] at hr
              simp only at hr
              split at hr
              · simp at hr
              · rename_i hv1
                cases hL : Sp.rdD xs at' (Sp.rdV xs f) a4 (p + 1) with
                | bad q e => rw [hL] at hr; simp at hr
                | ok lp a3 =>
                  obtain ⟨l, p3⟩ := lp
                  rw [hL] at hr
                  injection hr with e1 e2; injection e1 with e3 e4; subst e2; subst e4
                  exact dval_10 d b a xs cap at' p w h hp hd4 hx hby f HC hdf (by omega) l _ _ nn an v a4 hrn hn32 hle hnm hv (by omega) hL
        · simp at hr
end Go.Proofs.Ytmmiiapfefmcjaa

/- wire.look's deferred closure: a reader that gave up is caught. -/
namespace Go.Proofs.Ytmmiiapfefmcjaa
open Go.RowKit

theorem cell_off {w : World} {g o b i : Nat} (h : b ≠ g) (v : Value) : (w.setCell ⟨g, o, none⟩ v).cell? ⟨b, i, none⟩ = w.cell? ⟨b, i, none⟩ := World.cell?_setCell_other _ _ _ _ (by intro e; injection e with e1 _; exact h e1.symm)

set_option maxRecDepth 100000 in
set_option maxHeartbeats 1000000 in
theorem catch_idle (pa pw : Addr) (w : World) :
    CallsD Try.prog 82 #[.pointer (some pa), .pointer (some pw)] .returning w fun e u' w' => e = .returned (.tuple #[]) ∧ u' = .returning ∧ w' = w := by
  refine callsD_of_wpS Try.func82 rfl fun c₀ cs hu => ?_
  apply wpS_seq
  apply wpS_region
  simp [wpOpsS, go_sem, recoverD, hu, Try.ntmps82, Exit.thenS]
  refine wpS_of_wp ?_
  go_wp2_with fail
  cases c₀
  simp_all [bodyPostS, results, Try.results82]

set_option maxRecDepth 100000 in
set_option maxHeartbeats 1000000 in
theorem catch_fault (ga gw : Nat) (x y q e0 : Int) (older : List PanicEntry) (w : World) (hga : w.cell? ⟨ga, 0, none⟩ = some (.int .i64 x)) (hgw : w.cell? ⟨gw, 0, none⟩ = some (.int .i64 y)) (hfa : w.frozen? ⟨ga, 0, none⟩ = false) (hfw : w.frozen? ⟨gw, 0, none⟩ = false) (hne : ga ≠ gw) :
    CallsD Try.prog 82 #[.pointer (some ⟨ga, 0, none⟩), .pointer (some ⟨gw, 0, none⟩)] (.panicking ({ v := .iface 135 (.agg #[.int .i64 q, .int .i64 e0]), recovered := false } :: older)) w fun e u' w' => e = .returned (.tuple #[]) ∧ u' = .panicking ({ v := .iface 135 (.agg #[.int .i64 q, .int .i64 e0]), recovered := true } :: older) ∧ w'.cell? ⟨ga, 0, none⟩ = some (.int .i64 q) ∧ w'.cell? ⟨gw, 0, none⟩ = some (.int .i64 e0) ∧ (∀ B, B ≤ ga → B ≤ gw → Below B w w') := by
  refine callsD_of_wpS Try.func82 rfl fun c₀ cs hu => ?_
  apply wpS_seq
  apply wpS_region
  simp [wpOpsS, go_sem, recoverD, hu, Try.ntmps82, Exit.thenS]
  refine wpS_of_wp ?_
  simp [Array.replicate, List.replicate]
  have hta : ∀ W, Sem.run Try.prog (Instr.typeAssert (Value.iface 135 (Value.agg #[Value.int IntKind.i64 q, Value.int IntKind.i64 e0])) 20 135 true) W = .ok (.tuple #[.agg #[.int .i64 q, .int .i64 e0], .bool true]) W := fun W => by kernel_rfl
  have hla : ga < w.heap.size := World.block_lt_of_cell? _ _ hga
  have hlw : gw < w.heap.size := World.block_lt_of_cell? _ _ hgw
  go_wp2_with fail
  have HB0 : Hid (Below w.heap.size w (w.alloc (Obj.cells #[Value.int IntKind.i64 q, Value.int IntKind.i64 e0] 135))) := (Below.refl _ _).alloc (Nat.le_refl _) _
  have d0 : (w.alloc (Obj.cells #[Value.int IntKind.i64 q, Value.int IntKind.i64 e0] 135)).cell? ⟨w.heap.size, 0, none⟩ = some (.int .i64 q) := by simp
  have d1 : (w.alloc (Obj.cells #[Value.int IntKind.i64 q, Value.int IntKind.i64 e0] 135)).cell? ⟨w.heap.size, 1, none⟩ = some (.int .i64 e0) := by simp
  generalize w.alloc (Obj.cells #[Value.int IntKind.i64 q, Value.int IntKind.i64 e0] 135) = W0 at HB0 d0 d1 ⊢
  have da : W0.cell? ⟨ga, 0, none⟩ = some (.int .i64 x) := by rw [HB0.out.cell (p := ⟨ga, 0, none⟩) hla]; exact hga
  have dw : W0.cell? ⟨gw, 0, none⟩ = some (.int .i64 y) := by rw [HB0.out.cell (p := ⟨gw, 0, none⟩) hlw]; exact hgw
  have fa : W0.frozen? ⟨ga, 0, none⟩ = false := by rw [World.frozen?_of_block (w := w) (HB0.out.block ga hla)]; exact hfa
  have fw : W0.frozen? ⟨gw, 0, none⟩ = false := by rw [World.frozen?_of_block (w := w) (HB0.out.block gw hlw)]; exact hfw
  have hna : w.heap.size ≠ ga := by omega
  have hnw : w.heap.size ≠ gw := by omega
  have HX : Hid (∀ W : World, W.heap[w.heap.size]? = W0.heap[w.heap.size]? → W.cell? ⟨w.heap.size, 0, none⟩ = some (.int .i64 q) ∧ W.cell? ⟨w.heap.size, 1, none⟩ = some (.int .i64 e0)) := fun W hW => ⟨by rw [World.cell?_of_block (w := W0) (a := ⟨w.heap.size, 0, none⟩) hW]; exact d0, by rw [World.cell?_of_block (w := W0) (a := ⟨w.heap.size, 1, none⟩) hW]; exact d1⟩
  have HA : Hid (∀ v, (W0.setCell ⟨ga, 0, none⟩ v).heap[w.heap.size]? = W0.heap[w.heap.size]?) := fun v => Below.heap_setCell W0 ⟨ga, 0, none⟩ v _ hna
  have HW : Hid (∀ (W : World) v, (W.setCell ⟨gw, 0, none⟩ v).heap[w.heap.size]? = W.heap[w.heap.size]?) := fun W v => Below.heap_setCell W ⟨gw, 0, none⟩ v _ hnw
  go_region_held3 (fun W => W.cell? ⟨w.heap.size, 0, none⟩ = some (.int .i64 q) ∧ W.cell? ⟨w.heap.size, 1, none⟩ = some (.int .i64 e0))
    (first | exact HX.out _ rfl | exact HX.out _ (HA.out _) | exact HX.out _ ((HW.out _ _).trans (HA.out _)))
    (fail)
  have R : Hid ((((W0.setCell ⟨ga, 0, none⟩ (.int .i64 q)).setCell ⟨gw, 0, none⟩ (.int .i64 e0)).drew).cell? ⟨ga, 0, none⟩ = some (.int .i64 q) ∧ (((W0.setCell ⟨ga, 0, none⟩ (.int .i64 q)).setCell ⟨gw, 0, none⟩ (.int .i64 e0)).drew).cell? ⟨gw, 0, none⟩ = some (.int .i64 e0) ∧ ∀ B, B ≤ ga → B ≤ gw → Below B w (((W0.setCell ⟨ga, 0, none⟩ (.int .i64 q)).setCell ⟨gw, 0, none⟩ (.int .i64 e0)).drew)) := by
    refine ⟨?_, ?_, fun B h1 h2 => ((((HB0.out.mono (by omega)).setCell (p := ⟨ga, 0, none⟩) h1 _).setCell (p := ⟨gw, 0, none⟩) h2 _)).drew⟩
    · show ((W0.setCell ⟨ga, 0, none⟩ (.int .i64 q)).setCell ⟨gw, 0, none⟩ (.int .i64 e0)).cell? ⟨ga, 0, none⟩ = _
      rw [cell_off hne]; exact sc_eq da
    · show ((W0.setCell ⟨ga, 0, none⟩ (.int .i64 q)).setCell ⟨gw, 0, none⟩ (.int .i64 e0)).cell? ⟨gw, 0, none⟩ = _
      exact sc_eq (by rw [cell_off hne.symm]; exact dw)
  generalize ((W0.setCell ⟨ga, 0, none⟩ (.int .i64 q)).setCell ⟨gw, 0, none⟩ (.int .i64 e0)).drew = W1 at R ⊢
  simp +zetaDelta [Exit.inBlock, bodyPostS, results, Try.results82]
  exact R.out
end Go.Proofs.Ytmmiiapfefmcjaa

/- wire.look at bytes that begin with a value. -/
namespace Go.Proofs.Ytmmiiapfefmcjaa
open Go.RowKit

theorem newRdr (w0 : World) (a : Option Addr) (xs : List Int) (cap : Nat) (h : RdB w0 (Lo w0.heap.size) a xs) (hcp : xs.length ≤ cap) (hln : xs.length ≤ 281474976710656) : Rdr (w0.alloc (.cells #[.slice a xs.length cap, .int .i64 0, .int .i64 0] 91)) w0.heap.size a xs cap 0 0 := by
  have hn := heap_alloc_new w0 (.cells #[.slice a xs.length cap, .int .i64 0, .int .i64 0] 91)
  refine ⟨?_, ?_, ?_, frozen_of_row _ _ 1 _ _ hn, frozen_of_row _ _ 2 _ _ hn, h.same (fun k hk => Below.heap_alloc _ _ _ hk) (fun _ h => h), hcp, hln, Nat.zero_le _, Nat.zero_le _⟩
  · simp
  · simp
  · simp
/-- the two variables that look's results lie in, and the reader, all new -/
def lookW (w : World) (a : Option Addr) (n cap : Nat) : World := ((w.alloc (.cells #[.int .i64 0] 3)).alloc (.cells #[.int .i64 0] 30)).alloc (.cells #[.slice a n cap, .int .i64 0, .int .i64 0] 91)
theorem lookW_rdr (w : World) (a : Option Addr) (xs : List Int) (cap : Nat) (h : RdB w (Lo w.heap.size) a xs) (hcp : xs.length ≤ cap) (hln : xs.length ≤ 281474976710656) : Rdr (lookW w a xs.length cap) (w.heap.size + 1 + 1) a xs cap 0 0 ∧ Below w.heap.size w (lookW w a xs.length cap) ∧ (lookW w a xs.length cap).heap.size = w.heap.size + 1 + 1 + 1 ∧ (lookW w a xs.length cap).heap[w.heap.size]? = some (.cells #[.int .i64 0] 3 (0, 0)) ∧ (lookW w a xs.length cap).heap[w.heap.size + 1]? = some (.cells #[.int .i64 0] 30 (0, 0)) := by
  have hb : Below w.heap.size w ((w.alloc (.cells #[.int .i64 0] 3)).alloc (.cells #[.int .i64 0] 30)) := ((Below.refl _ _).alloc (Nat.le_refl _) _).alloc (by simp) _
  have hz : ((w.alloc (.cells #[.int .i64 0] 3)).alloc (.cells #[.int .i64 0] 30)).heap.size = w.heap.size + 1 + 1 := by simp
  have h1 := newRdr ((w.alloc (.cells #[.int .i64 0] 3)).alloc (.cells #[.int .i64 0] 30)) a xs cap (h.same (Same.of_below hb (Nat.le_refl _)) (Lo.le hb.size)) hcp hln
  rw [hz] at h1
  refine ⟨h1, hb.alloc (by simp; omega) _, by simp [lookW], ?_, ?_⟩
  · unfold lookW
    rw [Below.heap_alloc _ _ _ (by simp; omega), Below.heap_alloc _ _ _ (by simp)]
    exact heap_alloc_new w _
  · unfold lookW
    rw [Below.heap_alloc _ _ _ (by simp)]
    have := heap_alloc_new (w.alloc (.cells #[.int .i64 0] 3)) (.cells #[.int .i64 0] 30)
    simpa using this

set_option maxRecDepth 100000 in
set_option maxHeartbeats 1000000 in
theorem look_ok (xs : List Int) (hby : By xs) (t : Tm) (p2 a2 : Nat) (hr : Sp.rdV xs 64 0 0 = .ok (t, p2) a2) (a : Option Addr) (cap : Nat) (w : World) (hrd : RdB w (Lo w.heap.size) a xs) (hcp : xs.length ≤ cap) (hln : xs.length ≤ 281474976710656) :
    Calls Try.prog 47 #[.slice a xs.length cap] w fun e w' => e = .returned (.tuple #[.int .i64 (a2 : Int), .int .i64 0]) ∧ Below w.heap.size w w' := by
  have hmf : ∀ (fn : Fn) (first cap : Array Value) (w : World), (Instr.makeFunc fn first cap).run Try.prog w = .ok (.func fn first cap) w := fun _ _ _ _ => rfl
  have HX : Hid (By xs ∧ Sp.rdV xs 64 0 0 = .ok (t, p2) a2 ∧ RdB w (Lo w.heap.size) a xs ∧ xs.length ≤ cap ∧ xs.length ≤ 281474976710656) := ⟨hby, hr, hrd, hcp, hln⟩
  clear hby hr hrd hcp hln
  go_enter_defers Try.func47, Try.ntmps47
  go_wp2_with fail
  show Calls Try.prog _ _ (lookW w a xs.length cap) _
  obtain ⟨hR, hbW, hzW, hW0, hW1⟩ := lookW_rdr w a xs cap HX.out.2.2.1 HX.out.2.2.2.1 HX.out.2.2.2.2
  refine (value_ok xs HX.out.1 64 (Nat.le_refl _) (w.heap.size + 1 + 1) a cap 0 0 t p2 a2 _ 1 rfl hR HX.out.2.1).mono ?_
  rintro e w1 ⟨rfl, hr1, hb1⟩
  have hB0 := hb1.block w.heap.size (by omega) (by omega)
  have hB1 := hb1.block (w.heap.size + 1) (by omega) (by omega)
  rw [hW0] at hB0
  rw [hW1] at hB1
  have e0 : w1.cell? ⟨w.heap.size, 0, none⟩ = some (.int .i64 0) := by rw [cell_of_row _ _ 0 _ _ _ hB0]; rfl
  have e1 : w1.cell? ⟨w.heap.size + 1, 0, none⟩ = some (.int .i64 0) := by rw [cell_of_row _ _ 0 _ _ _ hB1]; rfl
  have z0 : w1.frozen? ⟨w.heap.size, 0, none⟩ = false := frozen_of_row _ _ 0 _ _ hB0
  have z1 : w1.frozen? ⟨w.heap.size + 1, 0, none⟩ = false := frozen_of_row _ _ 0 _ _ hB1
  have c1 := hr1.c1
  have HB : Hid (Below w.heap.size w w1) := hbW.trans (hb1.below (by omega))
  clear hr1 hb1 hR hbW hzW hW0 hW1 hB0 hB1
  go_wp2_with fail
  have HE : Hid (((w1.setCell ⟨w.heap.size, 0, none⟩ (.int .i64 (a2 : Int))).setCell ⟨w.heap.size + 1, 0, none⟩ (.int .i64 0)).cell? ⟨w.heap.size, 0, none⟩ = some (.int .i64 (a2 : Int)) ∧ ((w1.setCell ⟨w.heap.size, 0, none⟩ (.int .i64 (a2 : Int))).setCell ⟨w.heap.size + 1, 0, none⟩ (.int .i64 0)).cell? ⟨w.heap.size + 1, 0, none⟩ = some (.int .i64 0) ∧ Below w.heap.size w ((w1.setCell ⟨w.heap.size, 0, none⟩ (.int .i64 (a2 : Int))).setCell ⟨w.heap.size + 1, 0, none⟩ (.int .i64 0))) := by
    refine ⟨?_, ?_, ((HB.out.setCell (p := ⟨w.heap.size, 0, none⟩) (Nat.le_refl _) _).setCell (p := ⟨w.heap.size + 1, 0, none⟩) (Nat.le_succ _) _)⟩
    · rw [cell_off (by omega)]; exact sc_eq e0
    · exact sc_eq (by rw [cell_off (by omega)]; exact e1)
  generalize (w1.setCell ⟨w.heap.size, 0, none⟩ (.int .i64 (a2 : Int))).setCell ⟨w.heap.size + 1, 0, none⟩ (.int .i64 0) = W2 at HE ⊢
  refine leaves_cons (f := 82) (args := #[.pointer (some ⟨w.heap.size, 0, none⟩), .pointer (some ⟨w.heap.size + 1, 0, none⟩)]) (by simp) (by simp [go_sem]) ?_
  refine (catch_idle _ _ _).mono ?_
  rintro e u' w'' ⟨rfl, rfl, rfl⟩
  simp [Leaves, settle, results, Try.results47, go_sem, HE.out.1, HE.out.2.1]
  exact HE.out.2.2
end Go.Proofs.Ytmmiiapfefmcjaa

