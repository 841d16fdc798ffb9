/- slices.IndexFunc and slices.DeleteFunc with the function that tells whether a node is reached. -/
import Derived.Test.YtikhpbidbcfedaaGreatKp16
import Derived.Lib.SliceRun
namespace Go.Proofs.YtikhpbidbcfedaaGreat
open Go.RowKit Go.ChangeMaps

def Sp.hasF (gi L : Nat) (gs : Option Nat) (m c : Nat) : Value := .func (.func 31) #[.agg #[.slice (some ⟨gi, 0, none⟩) L L, .slice (adr gs) m c]] #[]
theorem has_bf (gi L : Nat) (s : Bf) (gs : Option Nat) (m c n : Nat) (w : World) (ho : OwnR w 3 gi L L (iv (Sp.byl L s))) (hn : n < L) :
    Calls Tryz.prog 31 #[.agg #[.slice (some ⟨gi, 0, none⟩) L L, .slice (adr gs) m c], .int .i64 (n : Int)] w fun e w' => e = .returned (.bool (decide (n ∈ s.ord))) ∧ Below w.heap.size w w' := by
  have hc : w.cell? ⟨gi, n, none⟩ = some (.int .i64 (if n ∈ s.ord then (s.bq n : Int) else -1)) := ho.cell (by simp [iv, byl_at s hn])
  have := has_any gi L L (.slice (adr gs) m c) n _ w hc hn
  have e : ((if n ∈ s.ord then (s.bq n : Int) else -1) != -1) = decide (n ∈ s.ord) := by
    by_cases h : n ∈ s.ord
    · rw [if_pos h, decide_eq_true h]; simp
    · rw [if_neg h, decide_eq_false h]; simp
  rwa [e] at this
def Sp.fst (s : Bf) : List Nat → Nat → Int
  | [], _ => -1
  | x :: l, i => if x ∈ s.ord then (i : Int) else Sp.fst s l (i + 1)
theorem fst_app {s : Bf} : ∀ {l m : List Nat} {i : Nat}, (∀ x ∈ l, x ∉ s.ord) → Sp.fst s (l ++ m) i = Sp.fst s m (i + l.length)
  | [], m, i, _ => rfl
  | x :: l, m, i, h => by
    rw [List.cons_append, Sp.fst, if_neg (h x (by simp)), fst_app (fun y hy => h y (by simp [hy]))]
    congr 1; simp; omega

set_option maxRecDepth 100000 in
set_option maxHeartbeats 4000000 in
theorem indexF_any (gi L : Nat) (s : Bf) (gs : Option Nat) (m c : Nat) (g2 : Option Nat) (c2 : Nat) (l : List Nat) (w : World) (ho : OwnR w 3 gi L L (iv (Sp.byl L s))) (hn : NdI w g2 c2 (l.map fun j : Nat => (j : Int))) (hl : ∀ x ∈ l, x < L) (hll : l.length ≤ 4096) :
    Calls Tryz.prog 64 #[.slice (adr g2) l.length c2, Sp.hasF gi L gs m c] w fun e w' => e = .returned (.int .i64 (Sp.fst s l 0)) ∧ Below w.heap.size w w' := by
  have HH : Hid (∀ (n : Nat) (W : World), Below w.heap.size w W → n < L → Calls Tryz.prog 31 #[.agg #[.slice (some ⟨gi, 0, none⟩) L L, .slice (adr gs) m c], .int .i64 (n : Int)] W fun e w' => e = .returned (.bool (decide (n ∈ s.ord))) ∧ Below W.heap.size W w') := fun n W hW h => has_bf gi L s gs m c n W (ho.keep (hW.block gi ho.lt)) h
  have HN : Hid (InI w (adr g2) l) := hn.inI
  have HL : Hid (∀ x ∈ l, x < L) := hl
  clear ho hn hl
  unfold Sp.hasF
  go_enter Tryz.func64, Tryz.ntmps64
  go_wp2_with fail
  go_loopw [8] (fun v8 wr => ∃ i : Nat, v8 = .int .i64 (i : Int) ∧ i ≤ l.length ∧ Hid (∀ x ∈ l.take i, x ∉ s.ord) ∧ Hid (Below w.heap.size w wr)) (fun v8 _ => l.length - (intOf v8).toNat)
  case atStart => exact ⟨0, rfl, Nat.zero_le _, (fun x hx => by simp at hx), Below.refl _ _⟩
  case round =>
    obtain ⟨i, rfl, hi, HA, HB⟩ := hrel
    by_cases hlt : i < l.length
    · have hltz : (i : Int) < (l.length : Int) := by omega
      obtain ⟨n, hx⟩ : ∃ n, l[i]? = some n := ⟨_, List.getElem?_eq_getElem hlt⟩
      obtain ⟨b, o, had, hcx⟩ := (HN.out.keep HB.out).at_ hx
      have hnL : n < L := HL.out n (List.mem_of_getElem? hx)
      have HC : Hid (Calls Tryz.prog 31 #[.agg #[.slice (some ⟨gi, 0, none⟩) L L, .slice (adr gs) m c], .int .i64 (n : Int)] wr fun e w' => e = .returned (.bool (decide (n ∈ s.ord))) ∧ Below wr.heap.size wr w') := HH.out n wr HB.out hnL
      have hsp : l = l.take i ++ n :: l.drop (i + 1) := by
        conv => lhs; rw [← List.take_append_drop i l]
        congr 1
        obtain ⟨h1, h2⟩ := List.getElem?_eq_some_iff.1 hx
        rw [← h2]; exact List.drop_eq_getElem_cons h1
      by_cases hin : n ∈ s.ord
      · have HF : Hid (Sp.fst s l 0 = (i : Int)) := by
          show _ = _
          rw [hsp, fst_app HA.out, Sp.fst, if_pos hin]; simp; omega
        rw [decide_eq_true hin] at HC
        clear hsp hx
        go_wp2_with fail
        refine HC.out.mono ?_
        rintro e w' ⟨rfl, hb⟩
        have HB2 : Hid (Below w.heap.size w w') := belT HB.out hb
        clear hb
        go_wp2_with fail
        go_ret
        exact ⟨by rw [HF.out]; rfl, HB2.out⟩
      · have HA2 : Hid (∀ x ∈ l.take (i + 1), x ∉ s.ord) := by
          intro x hxm
          rw [List.take_add_one, hx] at hxm
          rcases List.mem_append.1 hxm with h | h
          · exact HA.out x h
          · simp at h; subst h; exact hin
        rw [decide_eq_false hin] at HC
        clear hsp hx
        go_wp2_with fail
        refine HC.out.mono ?_
        rintro e w' ⟨rfl, hb⟩
        have HB2 : Hid (Below w.heap.size w w') := belT HB.out hb
        clear hb
        go_wp2_with fail
        try rw [← had]
        go_roundw
        case rel => exact ⟨i + 1, by go_num, by omega, HA2.out, HB2.out⟩
        case measure => simp [intOf]; omega
    · obtain rfl : i = l.length := by omega
      have HF : Hid (Sp.fst s l 0 = -1) := by
        show _ = _
        have := fst_app (m := []) (i := 0) HA.out
        rw [List.take_of_length_le (Nat.le_refl _), List.append_nil] at this
        rw [this]; rfl
      go_wp2_with fail
      go_ret
      exact ⟨by rw [HF.out]; rfl, HB.out⟩

theorem setCells_keep (g : Nat) : ∀ (vs : List Value) (o : Nat) (w : World), (∀ k, k ≠ g → (w.setCells g o vs).heap[k]? = w.heap[k]?) ∧ (w.setCells g o vs).heap.size = w.heap.size ∧ (w.setCells g o vs).os = w.os ∧ (w.setCells g o vs).tape = w.tape ∧ (w.setCells g o vs).output = w.output
  | [], o, w => ⟨fun _ _ => rfl, rfl, rfl, rfl, rfl⟩
  | v :: r, o, w => by
    have h := setCells_keep g r (o + 1) (w.setCell ⟨g, o, none⟩ v)
    exact ⟨fun k hk => (h.1 k hk).trans (Below.heap_setCell w _ _ k hk), h.2.1.trans (by simp [World.setCell]), h.2.2.1.trans rfl, h.2.2.2.1.trans rfl, h.2.2.2.2.trans rfl⟩
theorem OwnR.cut {w : World} {e : TypeId} {g n c i : Nat} {xs : List Value} (h : OwnR w e g n c xs) (hi : i ≤ n) : OwnR w e g i c (xs.take i) := by
  obtain ⟨cur, h1, h2, h3, h4, h5⟩ := h.blk
  refine ⟨by rw [List.length_take, h.len]; omega, cur, h1, by omega, h3, h4, ?_⟩
  rw [h5, List.take_take, Nat.min_eq_left hi]
theorem OwnR.behind {e : TypeId} {g n c : Nat} {xs : List Value} : ∀ (vs : List Value) (o : Nat) (w : World), OwnR w e g n c xs → n ≤ o → OwnR (w.setCells g o vs) e g n c xs
  | [], o, w, h, _ => h
  | v :: r, o, w, h, ho => by
    have h1 := h.set o v
    rw [List.set_eq_of_length_le (by rw [h.len]; omega)] at h1
    exact OwnR.behind r (o + 1) _ h1 (by omega)
theorem fst_is {s : Bf} : ∀ (l : List Nat) (i : Nat), (Sp.fst s l i = -1 ∧ ∀ x ∈ l, x ∉ s.ord) ∨ ∃ k x, k < l.length ∧ Sp.fst s l i = ((i + k : Nat) : Int) ∧ l[k]? = some x ∧ x ∈ s.ord ∧ ∀ y ∈ l.take k, y ∉ s.ord
  | [], i => .inl ⟨rfl, by simp⟩
  | x :: l, i => by
    rw [Sp.fst]
    by_cases h : x ∈ s.ord
    · rw [if_pos h]; exact .inr ⟨0, x, by simp, rfl, rfl, h, by simp⟩
    · rw [if_neg h]
      rcases fst_is l (i + 1) with ⟨h1, h2⟩ | ⟨k, y, h1, h2, h3, h4, h5⟩
      · exact .inl ⟨h1, fun y hy => by rcases List.mem_cons.1 hy with e | hy; rw [e]; exact h; exact h2 y hy⟩
      · refine .inr ⟨k + 1, y, by simpa using h1, by rw [h2]; congr 1; omega, by simpa using h3, h4, fun z hz => ?_⟩
        rw [List.take_succ_cons] at hz
        rcases List.mem_cons.1 hz with e | hz
        · rw [e]; exact h
        · exact h5 z hz
def Sp.wo (s : Bf) (l : List Nat) : List Nat := l.filter fun x => decide (x ∉ s.ord)
theorem wo_snoc {s : Bf} {l : List Nat} {j x : Nat} (h : l[j]? = some x) : Sp.wo s (l.take (j + 1)) = if x ∈ s.ord then Sp.wo s (l.take j) else Sp.wo s (l.take j) ++ [x] := by
  rw [List.take_add_one, h, Sp.wo, List.filter_append]
  by_cases hx : x ∈ s.ord
  · rw [if_pos hx]; simp [Sp.wo, hx]
  · rw [if_neg hx]; simp [Sp.wo, hx]
def DelE (w : World) (g2 : Option Nat) (c2 : Nat) (l : List Nat) (e : Ending) (w' : World) : Prop := e = .returned (.slice (adr g2) l.length c2) ∧ (g2 = none → l = [] ∧ c2 = 0) ∧ (∀ g, g2 = some g → OwnR w' 3 g l.length c2 (iv (l.map fun j : Nat => (j : Int)))) ∧ Srt w g2 w'
structure DlI (w : World) (g c2 : Nat) (s : Bf) (l : List Nat) (i j : Nat) (wr : World) : Prop where
  row : ∃ xs : List Int, xs.length = l.length ∧ OwnR wr 3 g l.length c2 (iv xs) ∧ xs.take i = (Sp.wo s (l.take j)).map (fun k : Nat => (k : Int)) ∧ ∀ t x, j ≤ t → l[t]? = some x → xs[t]? = some (x : Int)
  len : i = (Sp.wo s (l.take j)).length
  srt : Srt w (some g) wr

set_option maxRecDepth 100000 in
set_option maxHeartbeats 4000000 in
theorem deleteF_any (gi L : Nat) (s : Bf) (gs : Option Nat) (m c : Nat) (g2 : Option Nat) (c2 : Nat) (l : List Nat) (w : World) (ho : OwnR w 3 gi L L (iv (Sp.byl L s))) (hn : NdI w g2 c2 (l.map fun j : Nat => (j : Int))) (hl : ∀ x ∈ l, x < L) (hll : l.length ≤ 4096) (hne : g2 ≠ some gi) :
    Calls Tryz.prog 40 #[.slice (adr g2) l.length c2, Sp.hasF gi L gs m c] w (DelE w g2 c2 (Sp.wo s l)) := by
  have HI : Hid (Calls Tryz.prog 64 #[.slice (adr g2) l.length c2, Sp.hasF gi L gs m c] w fun e w' => e = .returned (.int .i64 (Sp.fst s l 0)) ∧ Below w.heap.size w w') := indexF_any gi L s gs m c g2 c2 l w ho hn hl hll
  have HH : Hid (∀ (n : Nat) (W : World), W.heap[gi]? = w.heap[gi]? → n < L → Calls Tryz.prog 31 #[.agg #[.slice (some ⟨gi, 0, none⟩) L L, .slice (adr gs) m c], .int .i64 (n : Int)] W fun e w' => e = .returned (.bool (decide (n ∈ s.ord))) ∧ Below W.heap.size W w') := fun n W hW h => has_bf gi L s gs m c n W (ho.keep hW) h
  have HN : Hid (NdI w g2 c2 (l.map fun j : Nat => (j : Int)) ∧ gi < w.heap.size ∧ g2 ≠ some gi) := ⟨hn, ho.lt, hne⟩
  have HL : Hid (∀ x ∈ l, x < L) := hl
  clear ho hn hl hne
  unfold Sp.hasF at HI ⊢
  rcases fst_is (s := s) l 0 with ⟨hf, hno⟩ | ⟨k, x0, hk, hf, hx0, hin0, hno⟩
  · rw [hf] at HI
    have HW : Hid (Sp.wo s l = l) := by
      show _ = _
      unfold Sp.wo; rw [List.filter_eq_self]; intro x hx; simp [hno x hx]
    clear hf hno
    go_enter Tryz.func40, Tryz.ntmps40
    go_wp2_with fail
    refine HI.out.mono ?_
    rintro e w1 ⟨rfl, hb⟩
    have HB : Hid (Below w.heap.size w w1) := hb
    clear hb
    go_wp2_with fail
    go_ret
    rw [HW.out]
    exact ⟨rfl, fun e => by have := HN.out.1.1 e; exact ⟨List.map_eq_nil_iff.1 this.1, this.2⟩, fun g hg => by have := (HN.out.1.2 g hg).keep (HB.out.block g (HN.out.1.2 g hg).lt); simpa using this, HB.out.os, HB.out.tape, HB.out.output, HB.out.size, fun k hk _ => HB.out.block k hk⟩
  · rw [hf] at HI
    obtain ⟨g, rfl⟩ : ∃ g, g2 = some g := by
      cases g2 with
      | some g => exact ⟨g, rfl⟩
      | none => have := (HN.out.1.1 rfl).1; rw [List.map_eq_nil_iff] at this; rw [this] at hk; simp at hk
    have had : adr (some g) = some ⟨g, 0, none⟩ := rfl
    rw [had] at HI ⊢
    have hkz : ((0 + k : Nat) : Int) = (k : Int) := by simp
    rw [hkz] at HI
    have hkn : ¬ ((k : Int) = -1) := by omega
    have hkb : ((k : Int) == -1) = false := by simp
    have HW0 : Hid (Sp.wo s (l.take k) = l.take k ∧ Sp.wo s (l.take (k + 1)) = l.take k) := by
      have h1 : Sp.wo s (l.take k) = l.take k := by unfold Sp.wo; rw [List.filter_eq_self]; intro x hx; simp [hno x hx]
      exact ⟨h1, by rw [wo_snoc hx0, if_pos hin0, h1]⟩
    have HLT : Hid (∀ j, k < j → j ≤ l.length → (Sp.wo s (l.take j)).length < j) := fun j hj hjl => by
      obtain ⟨d, rfl⟩ : ∃ d, j = k + 1 + d := ⟨j - (k + 1), by omega⟩
      induction d with
      | zero => rw [Nat.add_zero, HW0.out.2, List.length_take]; omega
      | succ d ih =>
        have h2 := ih (by omega) (by omega)
        obtain ⟨y, hy⟩ : ∃ y, l[k + 1 + d]? = some y := ⟨_, List.getElem?_eq_getElem (by omega)⟩
        rw [show k + 1 + (d + 1) = k + 1 + d + 1 by omega, wo_snoc hy]
        split
        · omega
        · rw [List.length_append]; simp; omega
    clear hf hkz hno hx0 hin0
    go_enter Tryz.func40, Tryz.ntmps40
    go_wp2_with fail
    refine HI.out.mono ?_
    rintro e w1 ⟨rfl, hb⟩
    have HD0 : Hid (DlI w g c2 s l k (k + 1) w1) := by
      have ho := (HN.out.1.2 g rfl).keep (hb.block g (HN.out.1.2 g rfl).lt)
      rw [List.length_map] at ho
      refine ⟨⟨_, by rw [List.length_map], ho, ?_, fun t x _ hx => by rw [List.getElem?_map, hx]; rfl⟩, by rw [HW0.out.2, List.length_take]; omega, hb.os, hb.tape, hb.output, hb.size, fun k hk _ => hb.block k hk⟩
      rw [HW0.out.2, List.map_take]
    clear hb HI
    go_wp2_with fail
    go_loopw [5, 6] (fun v5 v6 wr => ∃ i j : Nat, v5 = .int .i64 (i : Int) ∧ v6 = .int .i64 (j : Int) ∧ k < j ∧ j ≤ l.length ∧ i < j ∧ Hid (DlI w g c2 s l i j wr)) (fun _ v6 _ => l.length - (intOf v6).toNat)
    case atStart => exact ⟨k, k + 1, rfl, by go_num, by omega, by omega, by omega, HD0.out⟩
    case round =>
      clear HD0
      obtain ⟨i, j, rfl, rfl, hkj, hj, hij, HD⟩ := hrel
      have hgi : wr.heap[gi]? = w.heap[gi]? := HD.out.srt.2.2.2.2 gi HN.out.2.1 HN.out.2.2
      by_cases hlt : j < l.length
      · have hltz : (j : Int) < (l.length : Int) := by omega
        have hiz : (i : Int) < (l.length : Int) := by omega
        obtain ⟨n, hx⟩ : ∃ n, l[j]? = some n := ⟨_, List.getElem?_eq_getElem hlt⟩
        have hnL : n < L := HL.out n (List.mem_of_getElem? hx)
        have hcx : wr.cell? ⟨g, j, none⟩ = some (.int .i64 (n : Int)) := by
          obtain ⟨xs, h1, h2, h3, h4⟩ := HD.out.row
          exact h2.cell (by simp [iv, h4 j n (Nat.le_refl _) hx])
        have HC : Hid (Calls Tryz.prog 31 #[.agg #[.slice (some ⟨gi, 0, none⟩) L L, .slice (adr gs) m c], .int .i64 (n : Int)] wr fun e w' => e = .returned (.bool (decide (n ∈ s.ord))) ∧ Below wr.heap.size wr w') := HH.out n wr hgi hnL
        have HWS : Hid (Sp.wo s (l.take (j + 1)) = if n ∈ s.ord then Sp.wo s (l.take j) else Sp.wo s (l.take j) ++ [n]) := wo_snoc hx
        have HX : Hid (∀ t x, j + 1 ≤ t → l[t]? = some x → j ≤ t) := fun t x h _ => by omega
        by_cases hin : n ∈ s.ord
        · rw [decide_eq_true hin] at HC
          rw [if_pos hin] at HWS
          clear hx
          go_wp2_with fail
          refine HC.out.mono ?_
          rintro e w2 ⟨rfl, hb⟩
          have HD2 : Hid (DlI w g c2 s l i (j + 1) w2) := by
            obtain ⟨xs, h1, h2, h3, h4⟩ := HD.out.row
            refine ⟨⟨xs, h1, h2.keep (hb.block g h2.lt), by rw [HWS.out]; exact h3, fun t x ht hx => h4 t x (by omega) hx⟩, by rw [HWS.out]; exact HD.out.len, ?_⟩
            exact HD.out.srt.trans ⟨hb.os, hb.tape, hb.output, hb.size, fun k hk _ => hb.block k hk⟩
          clear hb
          go_wp2_with fail
          go_roundw
          case rel => exact ⟨i, j + 1, rfl, by go_num, by omega, by omega, by omega, HD2.out⟩
          case measure => simp [intOf]; omega
        · rw [decide_eq_false hin] at HC
          rw [if_neg hin] at HWS
          clear hx
          go_wp2_with fail
          refine HC.out.mono ?_
          rintro e w2 ⟨rfl, hb⟩
          have hci : w2.cell? ⟨g, i, none⟩ ≠ none ∧ w2.frozen? ⟨g, i, none⟩ = false := by
            obtain ⟨xs, h1, h2, h3, h4⟩ := HD.out.row
            have h5 := h2.keep (hb.block g h2.lt)
            have h6 := h5.cell (t := i) (x := .int .i64 (xs[i]'(by omega))) (by simp [iv, h1, show i < l.length by omega])
            exact ⟨by rw [h6]; simp, h5.free _⟩
          obtain ⟨hc1, hfi⟩ := hci
          obtain ⟨u, hcu⟩ : ∃ u, w2.cell? ⟨g, i, none⟩ = some u := by
            cases h : w2.cell? ⟨g, i, none⟩ with
            | none => exact absurd h hc1
            | some u => exact ⟨u, rfl⟩
          have HD2 : Hid (DlI w g c2 s l (i + 1) (j + 1) (w2.setCell ⟨g, i, none⟩ (.int .i64 (n : Int)))) := by
            obtain ⟨xs, h1, h2, h3, h4⟩ := HD.out.row
            have h5 := (h2.keep (hb.block g h2.lt)).set i (.int .i64 (n : Int))
            refine ⟨⟨xs.set i (n : Int), by rw [List.length_set]; exact h1, ?_, ?_, fun t x ht hx => ?_⟩, by rw [HWS.out, List.length_append, ← HD.out.len]; rfl, ?_⟩
            · rw [show iv (xs.set i (n : Int)) = (iv xs).set i (.int .i64 (n : Int)) from List.map_set]; exact h5
            · rw [HWS.out, List.map_append, ← h3, List.take_add_one, List.getElem?_set, if_pos rfl, if_pos (by omega)]
              rw [List.take_set_of_le (Nat.le_refl _)]; rfl
            · rw [List.getElem?_set, if_neg (by omega)]; exact h4 t x (by omega) hx
            · exact (HD.out.srt.trans ⟨hb.os, hb.tape, hb.output, hb.size, fun k hk _ => hb.block k hk⟩).set g (.inl rfl) _
          clear hb hc1
          go_wp2_with fail
          go_roundw
          case rel => exact ⟨i + 1, j + 1, by go_num, by go_num, by omega, by omega, by omega, HD2.out⟩
          case measure => simp [intOf]; omega
      · obtain rfl : j = l.length := by omega
        have hiz : (i : Int) ≤ (l.length : Int) := by omega
        have hcap : l.length ≤ c2 := by
          obtain ⟨xs, h1, h2, h3, h4⟩ := HD.out.row
          obtain ⟨_, _, h, _⟩ := h2.blk
          exact h
        have hcapz : (l.length : Int) ≤ (c2 : Int) := by omega
        have hicz : (i : Int) ≤ (c2 : Int) := by omega
        have hne1 : ¬ c2 = i := by omega
        have hcl : ∀ ty, (Builtin.clear_ #[60] ty #[.slice (some ⟨g, i, none⟩) (l.length - i) (c2 - i)]).run Tryz.prog wr = .ok (.tuple #[]) (wr.setCells g i (List.replicate (l.length - i) (.int .i64 0))) := fun ty => by
          obtain ⟨xs, h1, h2, h3, h4⟩ := HD.out.row
          exact Lib.run_clear_slice (P := Tryz.prog) wr 60 3 ty (.int .i64 0) Tryz.underlying60 Tryz.zeroValue3 rfl rfl g i (l.length - i) (c2 - i) (by omega) (fun t ht => by rw [h2.cell (t := i + t) (x := .int .i64 (xs[i + t]'(by omega))) (by simp [iv, h1, show i + t < l.length by omega])]; rfl) (fun t ht => h2.free _)
        have HF : Hid (DelE w (some g) c2 (Sp.wo s l) (.returned (.slice (some ⟨g, 0, none⟩) i c2)) (wr.setCells g i (List.replicate (l.length - i) (.int .i64 0)))) := by
          obtain ⟨xs, h1, h2, h3, h4⟩ := HD.out.row
          have htk : l.take l.length = l := List.take_of_length_le (Nat.le_refl _)
          have hil := HD.out.len
          rw [htk] at h3 hil
          have h5 := OwnR.behind (List.replicate (l.length - i) (.int .i64 0)) i wr (h2.cut (i := i) (by omega)) (Nat.le_refl _)
          have hk := setCells_keep g (List.replicate (l.length - i) (.int .i64 0)) i wr
          refine ⟨by rw [hil]; rfl, (fun e => by cases e), fun g' hg => ?_, ?_⟩
          · injection hg with hg; subst hg
            rw [← hil, ← h3]
            rw [show iv (xs.take i) = (iv xs).take i from List.map_take]; exact h5
          · exact HD.out.srt.trans ⟨hk.2.2.1, hk.2.2.2.1, hk.2.2.2.2, by rw [hk.2.1]; exact Nat.le_refl _, fun j _ h => hk.1 j (fun e => h (by rw [e]))⟩
        clear hgi
        go_wp2_with fail
        go_ret
        exact HF.out
end Go.Proofs.YtikhpbidbcfedaaGreat

