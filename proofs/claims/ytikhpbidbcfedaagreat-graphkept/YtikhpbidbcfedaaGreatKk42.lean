/- tenonlaw14.without: nodes and edges but for one node. -/
import Derived.Test.YtikhpbidbcfedaaGreatKk27
import Derived.Test.YtikhpbidbcfedaaGreatKk40
import Derived.Test.YtikhpbidbcfedaaGreatKk41
import Derived.Test.YtikhpbidbcfedaaGreatKk28
namespace Go.Proofs.YtikhpbidbcfedaaGreat
open Go.RowKit Go.ChangeMaps

def WtE (w : World) (nodes : List Int) (E : List (Int × Int)) (x : Int) (e : Ending) (w' : World) : Prop := ∃ ga ca ge ce, e = .returned (.tuple #[.slice (adr ga) (Sp.wN nodes x).length ca, .slice (adr ge) (Sp.wE E x).length ce]) ∧ NdR w' ga ca (Sp.wN nodes x) ∧ NdE w' ge ce (Sp.wE E x) ∧ Below w.heap.size w w'
theorem wN_take {l : List Int} {i : Nat} {y x : Int} (h : l[i]? = some y) : Sp.wN (l.take (i + 1)) x = if y = x then Sp.wN (l.take i) x else Sp.wN (l.take i) x ++ [y] := by
  rw [List.take_add_one, h, Sp.wN, List.filter_append]
  by_cases hy : y = x <;> simp [hy, Sp.wN]
theorem wE_take {l : List (Int × Int)} {i : Nat} {u v x : Int} (h : l[i]? = some (u, v)) : Sp.wE (l.take (i + 1)) x = if u ≠ x ∧ v ≠ x then Sp.wE (l.take i) x ++ [(u, v)] else Sp.wE (l.take i) x := by
  rw [List.take_add_one, h, Sp.wE, List.filter_append]
  by_cases hy : u = x <;> by_cases hz : v = x <;> simp [hy, hz, Sp.wE]
theorem EgI.put {w wr w4 : World} {l : List (Int × Int)} {ge : Option Nat} {ce g' c' : Nat} {x y : Int} (h : EgI w l ge ce wr) (ho : OwnK w4 38 2 g' (l.length + 1) c' (ev (l ++ [(x, y)]))) (hg : (wr.alloc (.cells #[.int .u64 x, .int .u64 y] 38)).grownBy w4 ge) (hor : ge = some g' ∨ wr.heap.size < g') : EgI w (l ++ [(x, y)]) (some g') c' w4 := by
  have hb := h.bel.alloc h.bel.size (.cells #[.int .u64 x, .int .u64 y] 38)
  refine ⟨⟨(fun e => by cases e), fun g hgg => ?_⟩, fun g hgg => ?_, hb.grown hg hb.size (fun k hk => h.nw k hk)⟩
  · injection hgg with hgg; subst hgg
    simpa using ho
  · injection hgg with hgg; subst hgg
    rcases hor with h1 | h1
    · exact h.nw g' h1
    · have := h.bel.size; omega
set_option maxRecDepth 100000 in
set_option maxHeartbeats 8000000 in
theorem without_any (a : Option Addr) (cap : Nat) (nodes : List Int) (a2 : Option Addr) (cap2 : Nat) (E : List (Int × Int)) (x : Int) (w : World) (h1 : RfV w a nodes) (h2 : EgV w a2 E) (hl1 : nodes.length ≤ 4096) (hl2 : E.length ≤ 16384) :
    Calls Tryz.prog 22 #[.slice a nodes.length cap, .slice a2 E.length cap2, .int .u64 x] w (WtE w nodes E x) := by
  have HN : Hid (RfV w a nodes ∧ EgV w a2 E) := ⟨h1, h2⟩
  have H0 : Hid (RfI w (Sp.wN (nodes.take 0) x) none 0 w) := ⟨⟨fun _ => ⟨rfl, rfl⟩, fun g hg => by cases hg⟩, (fun g hg => by cases hg), Below.refl _ _⟩
  clear h1 h2
  go_enter Tryz.func22, Tryz.ntmps22
  go_wp2_with fail
  go_loopw [8, 10] (fun v8 v10 wr => ∃ (i m : Nat) (gs : Option Nat) (c : Nat), v10 = .int .i64 i ∧ i ≤ nodes.length ∧ v8 = .slice (adr gs) m c ∧ Hid (m = (Sp.wN (nodes.take i) x).length) ∧ Hid (RfI w (Sp.wN (nodes.take i) x) gs c wr)) (fun _ v10 _ => nodes.length - (intOf v10).toNat)
  case atStart => exact ⟨0, 0, none, 0, rfl, Nat.zero_le _, rfl, rfl, H0.out⟩
  case round =>
    as_aux_lemma =>
    clear H0
    obtain ⟨i, m, gs, c, rfl, hi, rfl, HM, HS⟩ := hrel
    by_cases hlt : i < nodes.length
    · have hltz : (i : Int) < (nodes.length : Int) := by omega
      obtain ⟨y, hx⟩ : ∃ n, nodes[i]? = some n := ⟨_, List.getElem?_eq_getElem hlt⟩
      obtain ⟨b, o, rfl, hcx⟩ := (HN.out.1.keep HS.out.bel) i y hx
      have ht := wN_take (x := x) hx
      by_cases hyx : y = x
      · rw [if_pos hyx] at ht
        have HT : Hid (Sp.wN (nodes.take (i + 1)) x = Sp.wN (nodes.take i) x) := ht
        subst hyx
        clear ht hx
        go_wp2_with fail
        go_roundw
        case rel => exact ⟨i + 1, m, gs, c, by go_num, by omega, rfl, by show m = _; rw [HT.out]; exact HM.out, by show RfI _ _ _ _ _; rw [HT.out]; exact HS.out⟩
        case measure => simp [intOf]; omega
      · rw [if_neg hyx] at ht
        have HT : Hid (Sp.wN (nodes.take (i + 1)) x = Sp.wN (nodes.take i) x ++ [y]) := ht
        have hml : m ≤ 4096 := by
          have := HM.out
          have h2 : (Sp.wN (nodes.take i) x).length ≤ (nodes.take i).length := List.length_filter_le _ _
          rw [List.length_take] at h2; omega
        obtain ⟨g', c', w4, hap, ho4, hgr4, hor4⟩ := appR gs c (Sp.wN (nodes.take i) x) wr HS.out.row y (by rw [← HM.out]; omega) 22
        have HF2 : Hid (RfI w (Sp.wN (nodes.take i) x ++ [y]) (some g') c' w4) := HS.out.put ho4 hgr4 hor4
        have hmL := HM.out
        rw [← hmL] at hap
        have HM2 : Hid (m + 1 = (Sp.wN (nodes.take (i + 1)) x).length) := by show _ = _; rw [HT.out, List.length_append, ← hmL]; rfl
        clear ht hx ho4 hgr4 hor4 hmL
        go_wp2_with (at_builtin; refine wpList_ranS _ rfl _ _ 22 22 rfl _ _ _ _ rfl rfl hap ?_)
        go_roundw
        case rel => exact ⟨i + 1, m + 1, some g', c', by go_num, by omega, rfl, HM2.out, by show RfI _ _ _ _ _; rw [HT.out]; exact HF2.out⟩
        case measure => simp [intOf]; omega
    · obtain rfl : i = nodes.length := by omega
      have htk : nodes.take nodes.length = nodes := List.take_of_length_le (Nat.le_refl _)
      rw [htk] at HM HS
      clear htk
      obtain ⟨V, rfl⟩ : ∃ V, V = wr := ⟨_, rfl⟩
      have H1 : Hid (EgI V (Sp.wE (E.take 0) x) none 0 V) := ⟨⟨fun _ => ⟨rfl, rfl⟩, fun g hg => by cases hg⟩, (fun g hg => by cases hg), Below.refl _ _⟩
      go_wp2_with fail
      go_loopw [9, 11] (fun v9 v11 w2 => ∃ (i k : Nat) (gs : Option Nat) (c : Nat), v11 = .int .i64 i ∧ i ≤ E.length ∧ v9 = .slice (adr gs) k c ∧ Hid (k = (Sp.wE (E.take i) x).length) ∧ Hid (EgI V (Sp.wE (E.take i) x) gs c w2)) (fun _ v11 _ => E.length - (intOf v11).toNat)
      case atStart => exact ⟨0, 0, none, 0, rfl, Nat.zero_le _, rfl, rfl, H1.out⟩
      case round =>
        as_aux_lemma =>
        clear H1
        obtain ⟨i, k, ge, ce, rfl, hi, rfl, HK, HE⟩ := hrel
        by_cases hlt : i < E.length
        · have hltz : (i : Int) < (E.length : Int) := by omega
          obtain ⟨⟨u, v⟩, hx⟩ : ∃ n, E[i]? = some n := ⟨_, List.getElem?_eq_getElem hlt⟩
          obtain ⟨b, o, rfl, hc1, hc2⟩ := ((HN.out.2.keep HS.out.bel).keep HE.out.bel) i (u, v) hx
          have hcx : wr.cell? ⟨b, o + i * 2, none⟩ = some (.int .u64 u) := hc1
          have hcy : wr.cell? ⟨b, o + i * 2 + 1, none⟩ = some (.int .u64 v) := hc2
          have ht := wE_take (x := x) hx
          by_cases hux : u = x
          · rw [if_neg (fun h => h.1 hux)] at ht
            have HT : Hid (Sp.wE (E.take (i + 1)) x = Sp.wE (E.take i) x) := ht
            subst hux
            clear ht hx hc1 hc2
            go_wp2_with fail
            exact ⟨⟨i + 1, k, ge, ce, by go_num, by omega, rfl, by show k = _; rw [HT.out]; exact HK.out, by show EgI _ _ _ _ _; rw [HT.out]; exact HE.out⟩, by simp [intOf]; omega⟩
          · by_cases hvx : v = x
            · rw [if_neg (fun h => h.2 hvx)] at ht
              have HT : Hid (Sp.wE (E.take (i + 1)) x = Sp.wE (E.take i) x) := ht
              subst hvx
              clear ht hx hc1 hc2
              go_wp2_with fail
              go_roundw
              case rel => exact ⟨i + 1, k, ge, ce, by go_num, by omega, rfl, by show k = _; rw [HT.out]; exact HK.out, by show EgI _ _ _ _ _; rw [HT.out]; exact HE.out⟩
              case measure => simp [intOf]; omega
            · rw [if_pos ⟨hux, hvx⟩] at ht
              have hux2 : (u != x) = true := by simpa using hux
              have hvx2 : (v != x) = true := by simpa using hvx
              have HT : Hid (Sp.wE (E.take (i + 1)) x = Sp.wE (E.take i) x ++ [(u, v)]) := ht
              have hml : k ≤ 16384 := by
                have := HK.out
                have h2 : (Sp.wE (E.take i) x).length ≤ (E.take i).length := List.length_filter_le _ _
                rw [List.length_take] at h2; omega
              obtain ⟨g', c', w4, hap, ho4, hgr4, hor4⟩ := appE ge ce (Sp.wE (E.take i) x) wr HE.out.nd u v (by rw [← HK.out]; omega) 23
              have HF2 : Hid (EgI V (Sp.wE (E.take i) x ++ [(u, v)]) (some g') c' w4) := HE.out.put ho4 hgr4 hor4
              have hmL := HK.out
              rw [← hmL] at hap
              have HM2 : Hid (k + 1 = (Sp.wE (E.take (i + 1)) x).length) := by show _ = _; rw [HT.out, List.length_append, ← hmL]; rfl
              clear ht hx hc1 hc2 ho4 hgr4 hor4 hmL
              go_wp2_with (at_builtin; refine wpList_ranS _ rfl _ _ 23 23 rfl _ _ _ _ rfl rfl hap ?_)
              go_roundw
              case rel => exact ⟨i + 1, k + 1, some g', c', by go_num, by omega, rfl, HM2.out, by show EgI _ _ _ _ _; rw [HT.out]; exact HF2.out⟩
              case measure => simp [intOf]; omega
        · obtain rfl : i = E.length := by omega
          have htk : E.take E.length = E := List.take_of_length_le (Nat.le_refl _)
          rw [htk] at HK HE
          clear htk
          have hk2 := HK.out
          subst hk2
          have hm2 := HM.out
          subst hm2
          go_wp2_with fail
          exact bodyPost_ret (v := .tuple #[.slice (adr gs) (Sp.wN nodes x).length c, .slice (adr ge) (Sp.wE E x).length ce]) (by simp [results, Tryz.results22, go_sem] <;> rfl) rfl ⟨gs, c, ge, ce, rfl, HS.out.row.keep (fun g hg => HE.out.bel.block g (HS.out.row.2 g hg).lt), HE.out.nd, HS.out.bel.trans (HE.out.bel.mono HS.out.bel.size)⟩
end Go.Proofs.YtikhpbidbcfedaaGreat

/- Plain mathematics: a shortest way, its ends, and what is reached. -/
namespace Go.Proofs.YtikhpbidbcfedaaGreat
open Go.RowKit Go.ChangeMaps

section
variable {N : List Int} {nx : Nat → List Nat} (hN : N.Pairwise (· < ·)) (hb : ∀ i, ∀ x ∈ nx i, x < N.length) (hlt : ∀ i, (nx i).Pairwise (· < ·))
include hN hb hlt
omit hN hb hlt in
theorem WayF.fn {L a b : Nat} {p : List Nat} (h : WayF nx L [a] b p) : p.getD 0 0 = a ∧ p.getD (p.length - 1) 0 = b ∧ ∀ i, i < p.length - 1 → p.getD (i + 1) 0 ∈ nx (p.getD i 0) := by
  have hp := h.pos
  refine ⟨?_, by rw [List.getD_eq_getElem?_getD, h.la]; rfl, fun i hi => ?_⟩
  · have e : p[0]? = some (p[0]'hp) := List.getElem?_eq_getElem hp
    have := h.hd _ e
    rw [List.getD_eq_getElem?_getD, e]
    simpa using this
  · have e1 : p[i]? = some (p[i]'(by omega)) := List.getElem?_eq_getElem (by omega)
    have e2 : p[i + 1]? = some (p[i + 1]'(by omega)) := List.getElem?_eq_getElem (by omega)
    rw [List.getD_eq_getElem?_getD, List.getD_eq_getElem?_getD, e1, e2]
    exact h.ed i _ _ e1 e2
end
theorem upn_le2 (L : Nat) (l : List Nat) : (Sp.upn L l).length ≤ L := by
  have := List.length_filter_le (fun i => decide (i ∈ l)) (List.range L); simpa [Sp.upn] using this
theorem reach_le2 {N : List Int} {nx : Nat → List Nat} {l : List Int} (hn : N.length ≤ 4096) : ((Sp.reach N nx l).getD []).length ≤ 8192 := by
  unfold Sp.reach
  cases Sp.pls N l with
  | none => simp
  | some ps => simp only [Option.map_some, Option.getD_some, rfs_len2]; have := upn_le2 N.length (Bf.all nx (-1) N.length ps).ord; omega
end Go.Proofs.YtikhpbidbcfedaaGreat

