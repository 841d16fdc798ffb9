/- graph.connect: the walk. -/
import Derived.Test.YtikhpbidbcfedaaGreatKp10
import Derived.Deep.AppendLies
import Derived.Test.YtikhpbidbcfedaaGreatKp9
namespace Go.Proofs.YtikhpbidbcfedaaGreat
open Go.RowKit Go.ChangeMaps

set_option maxRecDepth 100000 in
set_option maxHeartbeats 8000000 in
theorem connect_any (gb mb xb n : Nat) (v0 : Value) (G : List (Int × Int)) (es : Array MapEntry) (ck : Nat) (N : List Int) (a : Option Addr) (cap : Nat) (E : List (Int × Int)) (B : Nat) (w : World) (h : CnG w gb mb xb n v0 G es ck N) (hE : EdgesAt w B a E) (hB : B ≤ w.heap.size) (hxB : B ≤ xb)
    (hx : NxR w w.heap.size xb n (fun _ => none) (fun _ => 0) (fun _ => [])) (hEl : E.length ≤ 16384) (hn : n ≤ 4096) :
    Calls Tryz.prog 27 #[.pointer (some ⟨gb, 0, none⟩), .slice a E.length cap] w fun e w' => e = .returned (.bool (decide (∀ e ∈ E, e.1 ∈ N ∧ e.2 ∈ N))) ∧ Srt w (some xb) w' ∧ ((∀ e ∈ E, e.1 ∈ N ∧ e.2 ∈ N) → ∃ bl cp, NxR w' w.heap.size xb n bl cp (fun t => (Sp.nx N E t).map (fun j : Nat => (j : Int)))) := by
  have HG : Hid (CnG w gb mb xb n v0 G es ck N) := h
  have HE : Hid (EdgesAt w B a E) := hE
  have HX : Hid (NxR w w.heap.size xb n (fun _ => none) (fun _ => 0) (fun _ => [])) := hx
  clear h hE hx
  go_enter Tryz.func27, Tryz.ntmps27
  go_wp2
  go_loopw [15] (fun v15 wr => ∃ (i : Nat) (bl : Nat → Option Nat) (cp : Nat → Nat), v15 = .int .i64 i ∧ i ≤ E.length ∧ Hid (Srt w (some xb) wr ∧ NxR wr w.heap.size xb n bl cp (Sp.rw N (E.take i)) ∧ ∀ e ∈ E.take i, e.1 ∈ N ∧ e.2 ∈ N)) (fun v15 _ => E.length - (intOf v15).toNat)
  case atStart => exact ⟨0, _, _, rfl, Nat.zero_le _, Srt.refl _ _, (show NxR w w.heap.size xb n (fun _ => none) (fun _ => 0) (Sp.rw N (E.take 0)) from HX.out), by simp⟩
  case round =>
    obtain ⟨i, bl, cp, rfl, hi, HR⟩ := hrel
    by_cases hlt : i < E.length
    · obtain ⟨e, he⟩ : ∃ e, E[i]? = some e := ⟨_, List.getElem?_eq_getElem hlt⟩
      obtain ⟨b, o, rfl, hb, hc1, hc2⟩ := (HE.out.keep (fun k hk => HR.out.1.2.2.2.2 k (by omega) (fun e => by injection e with e; omega))).row i e he
      obtain ⟨⟨f0, f1⟩, p0, p1⟩ := HE.out.bd e (List.mem_of_getElem? he)
      obtain ⟨ef, et⟩ := e
      obtain ⟨W1, hW1⟩ : ∃ W1, wr.alloc (.cells #[.int .u64 ef, .int .u64 et] 38) = W1 := ⟨_, rfl⟩
      have HS1 : Hid (Srt w (some xb) W1) := by rw [← hW1]; exact HR.out.1.alloc _
      have HG1 : Hid (CnG W1 gb mb xb n v0 G es ck N) := HG.out.keep HS1.out
      have HN1 : Hid (NxR W1 w.heap.size xb n bl cp (Sp.rw N (E.take i))) := by
        have hlt' := HR.out.2.1.lt
        rw [← hW1]; exact HR.out.2.1.keep (Below.heap_alloc _ _ _ hlt'.1) (fun t g ht hg => Below.heap_alloc _ _ _ (hlt'.2 t g ht hg))
      have hbx1 : W1.cell? ⟨wr.heap.size, 0, none⟩ = some (.int .u64 ef) := by rw [← hW1, World.cell?_alloc_at _ _ _ _ rfl]; rfl
      have hbx2 : W1.cell? ⟨wr.heap.size, 1, none⟩ = some (.int .u64 et) := by rw [← hW1, World.cell?_alloc_at _ _ _ _ rfl]; rfl
      obtain ⟨hg1, hg2⟩ := HG1.out.cell
      simp only at f0 f1 p0 p1 hc1 hc2
      rcases HG1.out.look f0 f1 with ⟨L1, hno⟩ | ⟨f, L1, hf⟩
      · rcases HG1.out.look p0 p1 with ⟨L2, hno2⟩ | ⟨p, L2, hp⟩
        · skip
          have l1 : ∀ q, (Instr.lookup 69 (.map (some mb)) (.int .u64 ef) true).run Tryz.prog (W1.drewN q) = .ok (.tuple #[.int .i64 0, .bool false]) (W1.drewN q) := fun q => L1 _ rfl
          go_wp2_with fail
          go_big_quiet (fail)
          revert nq; intro nq1
          have hg1' : (W1.drewN nq1).cell? ⟨gb, 1, none⟩ = some (.map (some mb)) := hg1
          have hbx2' : (W1.drewN nq1).cell? ⟨wr.heap.size, 1, none⟩ = some (.int .u64 et) := hbx2
          have l2' : ∀ q, (Instr.lookup 69 (.map (some mb)) (.int .u64 et) true).run Tryz.prog ((W1.drewN nq1).drewN q) = .ok (.tuple #[.int .i64 0, .bool false]) ((W1.drewN nq1).drewN q) := fun q => L2 _ rfl
          have HS2 : Hid (Srt w (some xb) (W1.drewN nq1)) := HS1.out.drewN _
          clear l1 L1 L2 hbx1 hbx2 hg1 hg2 HS1 HN1 HG1 hW1
          go_wp2_with fail
          generalize W1.drewN nq1 = W2 at hg1' hbx2' l2' HS2 ⊢
          go_big_quiet (fail)
          go_wp2
          go_ret
          have hfa : ¬ ∀ e ∈ E, e.1 ∈ N ∧ e.2 ∈ N := fun h => hno (h _ (List.mem_of_getElem? he)).1
          exact ⟨by rw [decide_eq_false hfa]; rfl, HS2.out.drewN _, fun h => absurd h hfa⟩
        · skip
          have l1 : ∀ q, (Instr.lookup 69 (.map (some mb)) (.int .u64 ef) true).run Tryz.prog (W1.drewN q) = .ok (.tuple #[.int .i64 0, .bool false]) (W1.drewN q) := fun q => L1 _ rfl
          go_wp2_with fail
          go_big_quiet (fail)
          revert nq; intro nq1
          have hg1' : (W1.drewN nq1).cell? ⟨gb, 1, none⟩ = some (.map (some mb)) := hg1
          have hbx2' : (W1.drewN nq1).cell? ⟨wr.heap.size, 1, none⟩ = some (.int .u64 et) := hbx2
          have l2' : ∀ q, (Instr.lookup 69 (.map (some mb)) (.int .u64 et) true).run Tryz.prog ((W1.drewN nq1).drewN q) = .ok (.tuple #[.int .i64 p, .bool true]) ((W1.drewN nq1).drewN q) := fun q => L2 _ rfl
          have HS2 : Hid (Srt w (some xb) (W1.drewN nq1)) := HS1.out.drewN _
          clear l1 L1 L2 hbx1 hbx2 hg1 hg2 HS1 HN1 HG1 hW1
          go_wp2_with fail
          generalize W1.drewN nq1 = W2 at hg1' hbx2' l2' HS2 ⊢
          go_big_quiet (fail)
          go_wp2
          go_ret
          have hfa : ¬ ∀ e ∈ E, e.1 ∈ N ∧ e.2 ∈ N := fun h => hno (h _ (List.mem_of_getElem? he)).1
          exact ⟨by rw [decide_eq_false hfa]; rfl, HS2.out.drewN _, fun h => absurd h hfa⟩
      · rcases HG1.out.look p0 p1 with ⟨L2, hno⟩ | ⟨p, L2, hp⟩
        · skip
          have l1 : ∀ q, (Instr.lookup 69 (.map (some mb)) (.int .u64 ef) true).run Tryz.prog (W1.drewN q) = .ok (.tuple #[.int .i64 f, .bool true]) (W1.drewN q) := fun q => L1 _ rfl
          go_wp2_with fail
          go_big_quiet (fail)
          revert nq; intro nq1
          have hg1' : (W1.drewN nq1).cell? ⟨gb, 1, none⟩ = some (.map (some mb)) := hg1
          have hbx2' : (W1.drewN nq1).cell? ⟨wr.heap.size, 1, none⟩ = some (.int .u64 et) := hbx2
          have l2' : ∀ q, (Instr.lookup 69 (.map (some mb)) (.int .u64 et) true).run Tryz.prog ((W1.drewN nq1).drewN q) = .ok (.tuple #[.int .i64 0, .bool false]) ((W1.drewN nq1).drewN q) := fun q => L2 _ rfl
          have HS2 : Hid (Srt w (some xb) (W1.drewN nq1)) := HS1.out.drewN _
          clear l1 L1 L2 hbx1 hbx2 hg1 hg2 HS1 HN1 HG1 hW1
          go_wp2_with fail
          generalize W1.drewN nq1 = W2 at hg1' hbx2' l2' HS2 ⊢
          go_big_quiet (fail)
          go_wp2
          go_ret
          have hfa : ¬ ∀ e ∈ E, e.1 ∈ N ∧ e.2 ∈ N := fun h => hno (h _ (List.mem_of_getElem? he)).2
          exact ⟨by rw [decide_eq_false hfa]; rfl, HS2.out.drewN _, fun h => absurd h hfa⟩
        · have l1 : ∀ q, (Instr.lookup 69 (.map (some mb)) (.int .u64 ef) true).run Tryz.prog (W1.drewN q) = .ok (.tuple #[.int .i64 f, .bool true]) (W1.drewN q) := fun q => L1 _ rfl
          have l2 : ∀ q, (Instr.lookup 69 (.map (some mb)) (.int .u64 et) true).run Tryz.prog (W1.drewN q) = .ok (.tuple #[.int .i64 p, .bool true]) (W1.drewN q) := fun q => L2 _ rfl
          go_wp2_with fail
          go_big_quiet (fail)
          revert nq; intro nq1
          have hg1' : (W1.drewN nq1).cell? ⟨gb, 1, none⟩ = some (.map (some mb)) := hg1
          have hg2' : (W1.drewN nq1).cell? ⟨gb, 2, none⟩ = some (.slice (some ⟨xb, 0, none⟩) n n) := hg2
          have hbx2' : (W1.drewN nq1).cell? ⟨wr.heap.size, 1, none⟩ = some (.int .u64 et) := hbx2
          have l2' : ∀ q, (Instr.lookup 69 (.map (some mb)) (.int .u64 et) true).run Tryz.prog ((W1.drewN nq1).drewN q) = .ok (.tuple #[.int .i64 p, .bool true]) ((W1.drewN nq1).drewN q) := fun q => L2 _ rfl
          have HS2 : Hid (Srt w (some xb) (W1.drewN nq1)) := HS1.out.drewN _
          have HN2 : Hid (NxR (W1.drewN nq1) w.heap.size xb n bl cp (Sp.rw N (E.take i))) := HN1.out.keep rfl (fun _ _ _ _ => rfl)
          clear l1 l2 L1 L2 hbx1 hbx2 hg1 hg2 HS1 HN1 HG1 hW1
          go_wp2_with fail
          generalize W1.drewN nq1 = W2 at hg1' hg2' hbx2' l2' HS2 HN2 ⊢
          go_big_quiet (fail)
          have hg3 : (W2.drewN nq).cell? ⟨gb, 2, none⟩ = some (.slice (some ⟨xb, 0, none⟩) n n) := hg2'
          have HS3 : Hid (Srt w (some xb) (W2.drewN nq)) := HS2.out.drewN _
          have HN3 : Hid (NxR (W2.drewN nq) w.heap.size xb n bl cp (Sp.rw N (E.take i))) := HN2.out.keep rfl (fun _ _ _ _ => rfl)
          clear hg1' hg2' hbx2' l2' HS2 HN2
          generalize W2.drewN nq = W3 at hg3 HS3 HN3 ⊢
          have hfn : f < n := by rw [← HG.out.len]; exact (List.getElem?_eq_some_iff.1 hf).1
          obtain ⟨hxc, hxf⟩ := HN3.out.cell hfn
          have hxb := HN3.out.lt.1
          have hll : (Sp.rw N (E.take i) f).length * 8 ≤ 140737488355328 := by have := rw_len N (E.take i) f; rw [List.length_take] at this; omega
          obtain ⟨g', c', w4, hap, ho4, hgr4, hor4⟩ := appI (bl f) (cp f) (Sp.rw N (E.take i) f) W3.drew ((HN3.out.row f hfn).keep (fun _ _ => rfl)) (p : Int) hll 60
          have hap' : (Builtin.append_ #[60, 60] 60 #[.slice (adr (bl f)) (Sp.rw N (E.take i) f).length (cp f), .slice (some ⟨W3.heap.size, 0, none⟩) 1 1]).run Tryz.prog (W3.alloc (.cells #[.int .i64 (p : Int)] 3)).drew = .ok (.slice (some ⟨g', 0, none⟩) ((Sp.rw N (E.take i) f).length + 1) c') w4 := hap
          have hx4 : w4.heap[xb]? = W3.heap[xb]? := (hgr4.block xb (by rw [al_size]; exact Nat.lt_succ_of_lt hxb) (fun e => by have h1 := HN3.out.lo f xb hfn e.symm; have h2 := HX.out.lt.1; omega)).trans (Below.heap_alloc W3.drew _ xb hxb)
          have hx4c : w4.cell? ⟨xb, f, none⟩ = some (.slice (adr (bl f)) (Sp.rw N (E.take i) f).length (cp f)) := by rw [World.cell?_of_block (w := W3) hx4]; exact hxc
          have hx4f : w4.frozen? ⟨xb, f, none⟩ = false := by rw [World.frozen?_of_block (w := W3) hx4]; exact hxf
          have HF : Hid (Srt w (some xb) (w4.setCell ⟨xb, f, none⟩ (.slice (some ⟨g', 0, none⟩) ((Sp.rw N (E.take i) f).length + 1) c')) ∧ ∃ bl' cp', NxR (w4.setCell ⟨xb, f, none⟩ (.slice (some ⟨g', 0, none⟩) ((Sp.rw N (E.take i) f).length + 1) c')) w.heap.size xb n bl' cp' (Sp.rw N (E.take (i + 1)))) := by
            have hlo := HS3.out.2.2.2.1
            have e1 : E.take (i + 1) = E.take i ++ [(ef, et)] := by rw [List.take_add_one, he]; rfl
            have hp2 := HN3.out.put (w1 := w4) (g' := g') (c' := c') (l' := Sp.rw N (E.take i) f ++ [(p : Int)]) hfn HX.out.lt.1 hx4 (fun k h1 h2 => (hgr4.block k (by rw [al_size]; exact Nat.lt_succ_of_lt h1) (fun e => h2 e.symm)).trans (Below.heap_alloc W3.drew _ k h1)) (by simpa using ho4) (hor4.imp id (fun e => Nat.le_of_lt e)) hlo
            simp only [List.length_append, List.length_cons, List.length_nil, Nat.zero_add] at hp2
            obtain ⟨q1, q2, q3, q4⟩ := hp2
            have hR : ∀ t, t < n → Sp.rw N (E.take (i + 1)) t = if t = f then Sp.rw N (E.take i) f ++ [(p : Int)] else Sp.rw N (E.take i) t := fun t ht => by rw [e1]; exact rw_snoc HG.out.nd _ hf hp (by rw [HG.out.len]; exact ht)
            obtain ⟨cur, k1, k2, k3⟩ := q1
            exact ⟨(Srt.grown (HS3.out.drew.alloc _) hgr4 (fun k hk => .inr (HN3.out.lo f k hfn hk))).set xb (.inl rfl) _, _, _, ⟨⟨cur, k1, k2, fun t ht => by rw [hR t ht]; exact k3 t ht⟩, fun t ht => by rw [hR t ht]; exact q2 t ht, q3, q4⟩⟩
          have hgl : gb < W3.heap.size := Nat.lt_of_lt_of_le (Array.getElem?_eq_some_iff.1 HG.out.cells).1 HS3.out.2.2.2.1
          have hg3a : ∀ o, (W3.alloc o).cell? ⟨gb, 2, none⟩ = some (.slice (some ⟨xb, 0, none⟩) n n) := fun o => by rw [World.cell?_of_block (w := W3) (Below.heap_alloc W3 o gb hgl)]; exact hg3
          have hxca : ∀ o, (W3.alloc o).cell? ⟨xb, f, none⟩ = some (.slice (adr (bl f)) (Sp.rw N (E.take i) f).length (cp f)) := fun o => by rw [World.cell?_of_block (w := W3) (Below.heap_alloc W3 o xb hxb)]; exact hxc
          have hg4 : w4.cell? ⟨gb, 2, none⟩ = some (.slice (some ⟨xb, 0, none⟩) n n) := by
            have e4 : w4.heap[gb]? = W3.heap[gb]? := (hgr4.block gb (by rw [al_size]; exact Nat.lt_succ_of_lt hgl) (fun e => by have h1 := HN3.out.lo f gb hfn e.symm; have h2 := (Array.getElem?_eq_some_iff.1 HG.out.cells).1; omega)).trans (Below.heap_alloc W3.drew _ gb hgl)
            rw [World.cell?_of_block (w := W3) e4]; exact hg3
          clear hap ho4 hgr4 hor4 hx4 hgl
          go_wp2_with fail
          go_region_law ((refine step_ran (by rfl) _ _ 60 60 (by rfl) _ _ _ (by rfl) (by rfl) hap' ?_))
          all_goals
            go_wp2
            go_roundw
            case rel =>
              obtain ⟨h1, bl', cp', h2⟩ := HF.out
              refine ⟨i + 1, bl', cp', by go_num, by omega, h1, h2, fun e' he' => ?_⟩
              rw [List.take_add_one, he, List.mem_append] at he'
              rcases he' with he' | he'
              · exact HR.out.2.2 e' he'
              · simp at he'; subst he'; exact ⟨List.mem_of_getElem? hf, List.mem_of_getElem? hp⟩
            case measure => simp [intOf]; omega
    · obtain rfl : i = E.length := by omega
      have hall : ∀ e ∈ E, e.1 ∈ N ∧ e.2 ∈ N := by have := HR.out.2.2; rwa [List.take_of_length_le (Nat.le_refl _)] at this
      have HA : Hid (∀ e ∈ E, e.1 ∈ N ∧ e.2 ∈ N) := hall
      have HN : Hid (Srt w (some xb) wr ∧ NxR wr w.heap.size xb n bl cp (Sp.rw N E)) := ⟨HR.out.1, by have := HR.out.2.1; rwa [List.take_of_length_le (Nat.le_refl _)] at this⟩
      clear HR hall
      have hgl : gb < w.heap.size := (Array.getElem?_eq_some_iff.1 HG.out.cells).1
      have HGc : Hid (∀ W, Srt w (some xb) W → W.cell? ⟨gb, 2, none⟩ = some (.slice (some ⟨xb, 0, none⟩) n n)) := fun W hW => (HG.out.keep hW).cell.2
      have hg0 := HGc.out wr HN.out.1
      have hxl : xb < w.heap.size := HX.out.lt.1
      go_wp2_with fail
      clear hg0
      go_loopw [67] (fun v67 wr2 => ∃ (t : Nat) (bl : Nat → Option Nat) (cp : Nat → Nat), v67 = .int .i64 t ∧ t ≤ n ∧ Hid (Srt w (some xb) wr2 ∧ NxR wr2 w.heap.size xb n bl cp (fun s => if s < t then (Sp.nx N E s).map (fun j : Nat => (j : Int)) else Sp.rw N E s))) (fun v67 _ => n - (intOf v67).toNat)
      case atStart => exact ⟨0, bl, cp, rfl, Nat.zero_le _, HN.out.1, by simpa using HN.out.2⟩
      case round =>
        clear HN
        obtain ⟨t, bl, cp, rfl, ht, HR⟩ := hrel
        by_cases hlt : t < n
        · obtain ⟨hc, hcf⟩ := HR.out.2.cell hlt
          have hnd := HR.out.2.row t hlt
          simp only [Nat.lt_irrefl, if_false] at hc hnd
          have hll := rw_len N E t
          have hS := sortI (bl t) (cp t) (Sp.rw N E t) wr hnd (by omega)
          go_wp2_with (go_at_call 49; refine hS.mono ?_; rintro e w5 ⟨rfl, hn5, hs5⟩)
          have hlo5 : ∀ k, bl t = some k → w.heap.size ≤ k := fun k hk => HR.out.2.lo t k hlt hk
          have hsz5 := HR.out.1.2.2.2.1
          have S5 : Srt w (some xb) w5 := ⟨hs5.1.trans HR.out.1.1, hs5.2.1.trans HR.out.1.2.1, hs5.2.2.1.trans HR.out.1.2.2.1, Nat.le_trans hsz5 hs5.2.2.2.1, fun j h1 h2 => (hs5.2.2.2.2 j (by omega) (fun e => by have := hlo5 j e; omega)).trans (HR.out.1.2.2.2.2 j h1 h2)⟩
          have hg5 := HGc.out w5 S5
          have hC0 := compI (bl t) (cp t) (Sp.srt (Sp.rw N E t)) w5.drew (hn5.keep (fun _ _ => rfl)) (by rw [srt_len]; omega)
          rw [srt_len, comp_nx HG.out.nd HA.out (by rw [HG.out.len]; exact hlt)] at hC0
          have HC : Hid (Calls Tryz.prog 50 #[.slice (adr (bl t)) (Sp.rw N E t).length (cp t)] w5.drew fun e w6 => e = .returned (.slice (adr (bl t)) ((Sp.nx N E t).map (fun j : Nat => (j : Int))).length (cp t)) ∧ (w6.cell? ⟨gb, 2, none⟩ = some (.slice (some ⟨xb, 0, none⟩) n n) ∧ w6.cell? ⟨xb, t, none⟩ = some (.slice (adr (bl t)) (Sp.rw N E t).length (cp t)) ∧ w6.frozen? ⟨xb, t, none⟩ = false) ∧
              Hid (Srt w (some xb) (w6.setCell ⟨xb, t, none⟩ (.slice (adr (bl t)) ((Sp.nx N E t).map (fun j : Nat => (j : Int))).length (cp t))) ∧ NxR (w6.setCell ⟨xb, t, none⟩ (.slice (adr (bl t)) ((Sp.nx N E t).map (fun j : Nat => (j : Int))).length (cp t))) w.heap.size xb n bl cp (fun s => if s < t + 1 then (Sp.nx N E s).map (fun j : Nat => (j : Int)) else Sp.rw N E s))) := by
            refine hC0.mono ?_
            rintro e w6 ⟨rfl, hn6, hs6⟩
            have T6 : Srt wr (bl t) w6 := hs5.trans hs6
            have S6 : Srt w (some xb) w6 := ⟨T6.1.trans HR.out.1.1, T6.2.1.trans HR.out.1.2.1, T6.2.2.1.trans HR.out.1.2.2.1, Nat.le_trans hsz5 T6.2.2.2.1, fun j h1 h2 => (T6.2.2.2.2 j (by omega) (fun e => by have := hlo5 j e; omega)).trans (HR.out.1.2.2.2.2 j h1 h2)⟩
            have hx6 : w6.heap[xb]? = wr.heap[xb]? := T6.2.2.2.2 xb (by omega) (fun e => by have := hlo5 xb e; omega)
            have hN6 := HR.out.2.again (w1 := w6) (f := t) hlt hx6 (fun k h1 h2 => T6.2.2.2.2 k h1 h2) hn6 hxl
            refine ⟨rfl, ⟨HGc.out w6 S6, by rw [World.cell?_of_block (w := wr) hx6]; exact hc, by rw [World.frozen?_of_block (w := wr) hx6]; exact hcf⟩, S6.set xb (.inl rfl) _, ?_⟩
            have hfe : ∀ s, (if s = t then (Sp.nx N E t).map (fun j : Nat => (j : Int)) else if s < t then (Sp.nx N E s).map (fun j : Nat => (j : Int)) else Sp.rw N E s) = if s < t + 1 then (Sp.nx N E s).map (fun j : Nat => (j : Int)) else Sp.rw N E s := fun s => by
              by_cases e : s = t
              · subst e; rw [if_pos rfl, if_pos (by omega)]
              · rw [if_neg e]
                by_cases e' : s < t
                · rw [if_pos e', if_pos (by omega)]
                · rw [if_neg e', if_neg (by omega)]
            simp only [hfe] at hN6
            exact hN6
          clear hC0 hS hn5 hs5 S5
          go_wp2_with fail
          go_region_with (go_at_call 50; refine HC.out.mono ?_; rintro e w6 ⟨rfl, ⟨q1, q2, q3⟩, H6⟩)
          all_goals
            go_wp2
            go_roundw
            case rel => exact ⟨t + 1, bl, cp, by go_num, by omega, by have h6 := H6.out; rw [List.length_map] at h6; exact h6⟩
            case measure => simp [intOf]; omega
        · obtain rfl : t = n := by omega
          go_wp2
          go_ret
          refine ⟨by rw [decide_eq_true HA.out]; rfl, HR.out.1, fun _ => ⟨bl, cp, ?_⟩⟩
          obtain ⟨⟨cur, k1, k2, k3⟩, q2, q3, q4⟩ := HR.out.2
          exact ⟨⟨cur, k1, k2, fun s hs => by have := k3 s hs; simp only [if_pos hs] at this; exact this⟩, fun s hs => by have := q2 s hs; simp only [if_pos hs] at this; exact this, q3, q4⟩
end Go.Proofs.YtikhpbidbcfedaaGreat

/- graph.Make: the graph of any nodes and edges, or why there is none. -/
namespace Go.Proofs.YtikhpbidbcfedaaGreat
open Go.RowKit Go.ChangeMaps

structure GrP (w : World) (D : Nat → Prop) (gb : Nat) (N : List Int) (nx : Nat → List Nat) (gs : Option Nat) (c mb xb : Nat) (G : List (Int × Int)) (es : Array MapEntry) (ck : Nat) (bl : Nat → Option Nat) (cp : Nat → Nat) (lo : Nat) : Prop where
  cn : CnG w gb mb xb N.length (.slice (adr gs) N.length c) G es ck N
  nds : Nds w gs c N
  nxt : NxR w lo xb N.length bl cp (fun t => (nx t).map (fun j : Nat => (j : Int)))
  ins : D gb ∧ D mb ∧ D xb ∧ (∀ g, gs = some g → D g) ∧ ∀ t g, t < N.length → bl t = some g → D g
theorem GrP.keep {w w' : World} {D : Nat → Prop} {gb : Nat} {N : List Int} {nx : Nat → List Nat} {gs : Option Nat} {c mb xb : Nat} {G : List (Int × Int)} {es : Array MapEntry} {ck : Nat} {bl : Nat → Option Nat} {cp : Nat → Nat} {lo : Nat} (h : GrP w D gb N nx gs c mb xb G es ck bl cp lo) (hs : ∀ k, D k → w'.heap[k]? = w.heap[k]?) : GrP w' D gb N nx gs c mb xb G es ck bl cp lo :=
  ⟨⟨(hs gb h.ins.1).trans h.cn.cells, h.cn.mp.keep (hs mb h.ins.2.1), h.cn.fro, h.cn.to, h.cn.ne, h.cn.len, h.cn.nd⟩, h.nds.keep (fun g hg => hs g (h.ins.2.2.2.1 g hg)), h.nxt.keep (hs xb h.ins.2.2.1) (fun t g ht hg => hs g (h.ins.2.2.2.2 t g ht hg)), h.ins⟩
def GrE (w : World) (D : Nat → Prop) (gb : Nat) (N : List Int) (nx : Nat → List Nat) : Prop := ∃ gs c mb xb G es ck bl cp lo, GrP w D gb N nx gs c mb xb G es ck bl cp lo
theorem GrE.keep {w w' : World} {D : Nat → Prop} {gb : Nat} {N : List Int} {nx : Nat → List Nat} (h : GrE w D gb N nx) (hs : ∀ k, D k → w'.heap[k]? = w.heap[k]?) : GrE w' D gb N nx := by
  obtain ⟨gs, c, mb, xb, G, es, ck, bl, cp, lo, h⟩ := h
  exact ⟨gs, c, mb, xb, G, es, ck, bl, cp, lo, h.keep hs⟩
def MkE (w : World) (nodes : List Int) (E : List (Int × Int)) (p : Option Addr) (w' : World) : Prop :=
  Below w.heap.size w w' ∧ (Sp.mkE nodes E = 0 → ∃ gb, p = some ⟨gb, 0, none⟩ ∧ GrE w' (fun k => w.heap.size ≤ k ∧ k < w'.heap.size) gb (Sp.srt nodes) (Sp.nx (Sp.srt nodes) E)) ∧ (Sp.mkE nodes E ≠ 0 → p = none)

set_option maxRecDepth 100000 in
set_option maxHeartbeats 8000000 in
theorem Make_any (a : Option Addr) (cap : Nat) (nodes : List Int) (a2 : Option Addr) (cap2 : Nat) (E : List (Int × Int)) (B : Nat) (w : World) (h : RefsAt w B a nodes) (h2 : EdgesAt w B a2 E) (hB : B ≤ w.heap.size) (hl : nodes.length * 8 ≤ 140737488355328) (hl2 : E.length * 16 ≤ 140737488355328) :
    Calls Tryz.prog 9 #[.slice a nodes.length cap, .slice a2 E.length cap2] w fun e w' => ∃ p, e = .returned (.tuple #[.pointer p, .int .i64 (Sp.mkE nodes E)]) ∧ MkE w nodes E p w' := by
  by_cases hL : 4096 < nodes.length ∨ 16384 < E.length
  · have hk : Sp.mkE nodes E = 2 := by unfold Sp.mkE; rw [if_pos hL]
    rw [hk]
    have HK : Hid (MkE w nodes E none w) := ⟨Below.refl _ _, (fun h => by rw [hk] at h; cases h), fun _ => rfl⟩
    clear hk
    by_cases h1 : 4096 < nodes.length
    · have h1z : (4096 : Int) < (nodes.length : Int) := by omega
      go_enter Tryz.func9, Tryz.ntmps9
      go_wp2
      go_ret2
      exact ⟨none, rfl, HK.out⟩
    · have h1z : ¬ (4096 : Int) < (nodes.length : Int) := by omega
      have h2z : (16384 : Int) < (E.length : Int) := by omega
      go_enter Tryz.func9, Tryz.ntmps9
      go_wp2
      go_ret2
      exact ⟨none, rfl, HK.out⟩
  · have h1z : ¬ (4096 : Int) < (nodes.length : Int) := by omega
    have h2z : ¬ (16384 : Int) < (E.length : Int) := by omega
    have hB1 := bare_any a cap nodes B w h hB (by omega)
    by_cases hN : (0 : Int) ∉ nodes ∧ nodes.Nodup
    · rw [decide_eq_true hN] at hB1
      have hnd : (Sp.srt nodes).Nodup := (srt_perm nodes).nodup_iff.2 hN.2
      have HE : Hid (EdgesAt w B a2 E) := h2
      have HK0 : Hid (Sp.mkE nodes E = if ∃ e ∈ E, e.1 ∉ nodes ∨ e.2 ∉ nodes then 140 else 0) := by
        show _ = _
        unfold Sp.mkE
        rw [if_neg hL, if_neg (by rintro (h | h); exact hN.1 h; exact h hN.2)]
      clear h h2
      go_enter Tryz.func9, Tryz.ntmps9
      go_wp2_with (first
        | (go_at_call 26; refine hB1.mono ?_; rintro e w1 ⟨gb, gs, c, mb, xb, G, rfl, hbar⟩; have HBr : Hid (Bar w w1 gb gs c mb xb nodes.length G (Sp.srt nodes)) := hbar; clear hbar)
        | (go_at_call 27; obtain ⟨es, ck, hmp⟩ := HBr.out.map; refine (connect_any gb mb xb nodes.length (.slice (adr gs) nodes.length c) G es ck (Sp.srt nodes) a2 cap2 E B w1 ⟨HBr.out.cells, hmp, HBr.out.fro, HBr.out.to, ⟨HBr.out.ne.2.1, HBr.out.ne.2.2.1⟩, srt_len nodes, hnd⟩ (HE.out.keep (fun k hk => HBr.out.bel.block k (by omega))) (Nat.le_trans hB HBr.out.bel.size) (Nat.le_trans hB HBr.out.lo.2.2.1) ⟨HBr.out.nxt, (fun t ht => ⟨fun _ => ⟨rfl, rfl⟩, fun g hg => by cases hg⟩), (fun t g ht hg => by cases hg), (fun t t' g _ _ hg => by cases hg)⟩ (by omega) (by omega)).mono ?_; rintro e w2 ⟨rfl, hs2, hn2⟩; have HS2 : Hid (Srt w1 (some xb) w2) := hs2; have HMP : Hid (MpI w1 mb G es ck) := hmp; clear hs2 hmp))
      · have hno : ¬ ∀ e ∈ E, e.1 ∈ Sp.srt nodes ∧ e.2 ∈ Sp.srt nodes := by
          have h : (!decide (∀ e ∈ E, e.1 ∈ Sp.srt nodes ∧ e.2 ∈ Sp.srt nodes)) = true := by assumption
          simpa using h
        have hk : Sp.mkE nodes E = 140 := by
          rw [HK0.out, if_pos (by
            apply Classical.byContradiction
            intro hc
            refine hno fun e he => ?_
            rw [srt_mem, srt_mem]
            exact ⟨Classical.byContradiction fun h => hc ⟨e, he, .inl h⟩, Classical.byContradiction fun h => hc ⟨e, he, .inr h⟩⟩)]
        go_ret2
        refine ⟨none, by rw [hk]; rfl, ?_, (fun h => by rw [hk] at h; cases h), fun _ => rfl⟩
        have hb := HBr.out.bel
        have hs := HS2.out
        exact ⟨hs.1.trans hb.os, hs.2.1.trans hb.tape, hs.2.2.1.trans hb.output, Nat.le_trans hb.size hs.2.2.2.1, fun k hk => (hs.2.2.2.2 k (Nat.lt_of_lt_of_le hk hb.size) (fun e => by injection e with e; have := HBr.out.lo.2.2.1; omega)).trans (hb.block k hk)⟩
      · have hall : ∀ e ∈ E, e.1 ∈ Sp.srt nodes ∧ e.2 ∈ Sp.srt nodes := by
          have h : (!decide (∀ e ∈ E, e.1 ∈ Sp.srt nodes ∧ e.2 ∈ Sp.srt nodes)) = false := by assumption
          simpa using h
        have hk : Sp.mkE nodes E = 0 := by
          rw [HK0.out, if_neg (by
            rintro ⟨e, he, h⟩
            have := hall e he
            rw [srt_mem, srt_mem] at this
            rcases h with h | h
            · exact h this.1
            · exact h this.2)]
        obtain ⟨bl, cp, hnx⟩ := hn2 hall
        go_ret2
        have hb := HBr.out.bel
        have hs := HS2.out
        have hsz := hs.2.2.2.1
        have hsl : (Sp.srt nodes).length = nodes.length := srt_len nodes
        have hcn : CnG w2 gb mb xb nodes.length (.slice (adr gs) nodes.length c) G es ck (Sp.srt nodes) := CnG.keep ⟨HBr.out.cells, HMP.out, HBr.out.fro, HBr.out.to, ⟨HBr.out.ne.2.1, HBr.out.ne.2.2.1⟩, srt_len nodes, hnd⟩ hs
        have hnds : Nds w2 gs c (Sp.srt nodes) := HBr.out.nds.keep (fun g hg => hs.2.2.2.2 g (HBr.out.nds.2 g hg).lt (fun e => (HBr.out.ne.2.2.2 g hg).2.2 (Option.some.inj e).symm))
        have hlt := hnx.lt
        refine ⟨some ⟨gb, 0, none⟩, by rw [hk]; rfl, ?_, (fun _ => ⟨gb, rfl, gs, c, mb, xb, G, es, ck, bl, cp, w1.heap.size, ?_⟩), fun h => absurd hk h⟩
        · exact ⟨hs.1.trans hb.os, hs.2.1.trans hb.tape, hs.2.2.1.trans hb.output, Nat.le_trans hb.size hs.2.2.2.1, fun k hk => (hs.2.2.2.2 k (Nat.lt_of_lt_of_le hk hb.size) (fun e => by injection e with e; have := HBr.out.lo.2.2.1; omega)).trans (hb.block k hk)⟩
        · refine ⟨by rw [hsl]; exact hcn, hnds, by rw [hsl]; exact hnx, ⟨HBr.out.lo.1, (Array.getElem?_eq_some_iff.1 hcn.cells).1⟩, ⟨HBr.out.lo.2.1, (Array.getElem?_eq_some_iff.1 hcn.mp.blk).1⟩, ⟨HBr.out.lo.2.2.1, hlt.1⟩, fun g hg => ⟨HBr.out.lo.2.2.2 g hg, (hnds.2 g hg).lt⟩, fun t g ht hg => ⟨Nat.le_trans hb.size (hnx.lo t g (by rw [← hsl]; exact ht) hg), hlt.2 t g (by rw [← hsl]; exact ht) hg⟩⟩
    · rw [decide_eq_false hN] at hB1
      have hk : Sp.mkE nodes E = 1 := by
        unfold Sp.mkE
        rw [if_neg hL, if_pos (by
          apply Classical.byContradiction
          intro hc
          exact hN ⟨fun h => hc (.inl h), Classical.byContradiction fun h => hc (.inr h)⟩)]
      rw [hk]
      go_enter Tryz.func9, Tryz.ntmps9
      go_wp2_with (go_at_call 26; refine hB1.mono ?_; rintro e w1 ⟨gb, gs, c, mb, xb, G, rfl, hbar⟩; have HBr : Hid (Below w.heap.size w w1) := hbar.bel; clear hbar)
      go_ret2
      exact ⟨none, rfl, HBr.out, (fun h => by rw [hk] at h; cases h), fun _ => rfl⟩
end Go.Proofs.YtikhpbidbcfedaaGreat

