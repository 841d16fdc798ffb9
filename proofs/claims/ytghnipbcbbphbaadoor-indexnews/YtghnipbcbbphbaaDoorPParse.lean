/- path.Parse: the way of a text. -/
import Derived.Test.YtghnipbcbbphbaaDoorPNm
namespace Go.Proofs.YtghnipbcbbphbaaDoor
open Go.RowKit

/-- how the reading of a way ends -/
def PWay.is (base : Nat) (w' : World) : PWay → Ending → Prop
  | .err n e, r => r = .returned (.tuple #[.slice none 0 0, .int .i64 (n : Int), .int .i64 e]) ∧ 1 ≤ e ∧ n ≤ 140737488355328
  | .ok l, r => ∃ a cap, r = .returned (.tuple #[.slice a l.length cap, .int .i64 0, .int .i64 0]) ∧ w'.ownsRow base 39 3 (.slice a l.length cap) l.length (Sp.wcells l) ∧ (∀ x ∈ l, x.name.size ≤ maxLen) ∧ l.length ≤ 64
/-- the way of a text, as it is read -/
def Sp.way (s : ByteArray) : PWay := Sp.rdWay s (s.size + 1) 0 []

/-- what has been read so far -/
structure WI (s : ByteArray) (k : Nat) (acc : List Stp) : Prop where
  rest : ∃ f, s.size - k < f ∧ Sp.rdWay s f k acc = Sp.way s
  rule : ∀ x ∈ acc, x.rule = 0
  len : acc.length ≤ k
theorem WI.start (s : ByteArray) : WI s 0 [] := ⟨⟨s.size + 1, by omega, rfl⟩, fun x hx => (by cases hx), Nat.le_refl _⟩
theorem WI.fin {s : ByteArray} {k : Nat} {acc : List Stp} (h : WI s k acc) (hk : ¬ k < s.size) : Sp.way s = .ok acc := by
  obtain ⟨f, hf, e⟩ := h.rest
  rw [← e]
  cases f with
  | zero => omega
  | succ f => rw [Sp.rdWay, if_neg hk]
theorem WI.err {s : ByteArray} {k n : Nat} {e : Int} {acc : List Stp} (h : WI s k acc) (hk : k < s.size) (hr : Sp.rdStep s k acc.length = .err n e) : Sp.way s = .err n e := by
  obtain ⟨f, hf, e⟩ := h.rest
  rw [← e]
  cases f with
  | zero => omega
  | succ f => rw [Sp.rdWay, if_pos hk, hr]
theorem WI.next {s : ByteArray} {k n : Nat} {x : Stp} {acc : List Stp} (h : WI s k acc) (hk : k < s.size) (hr : Sp.rdStep s k acc.length = .ok x n) : WI s n (acc ++ [x]) := by
  obtain ⟨f, hf, e⟩ := h.rest
  obtain ⟨b1, b2, b3, b4⟩ := (Sp.rdStep_bd hk).2 x n hr
  cases f with
  | zero => omega
  | succ f =>
    rw [Sp.rdWay, if_pos hk, hr] at e
    refine ⟨⟨f, by omega, e⟩, fun y hy => ?_, by have := h.len; rw [List.length_append]; simp; omega⟩
    rcases List.mem_append.1 hy with hy | hy
    · exact h.rule y hy
    · simp at hy; subst hy; exact b3
theorem own_on {w w' : World} {B : Nat} {e : TypeId} {size n : Nat} {v : Value} {xs : List Value} (h : w.ownsRow B e size v n xs) (hw : Below w.heap.size w w') : w'.ownsRow B e size v n xs := by
  refine h.kept (row := none) ⟨hw.os, hw.tape, hw.output, hw.size, fun k hk _ => hw.block k hk⟩ ?_
  cases hv : v.ownBlock with
  | none => exact .inl rfl
  | some k => exact .inr (by simp)
theorem own_ge {w : World} {B : Nat} {e : TypeId} {size n : Nat} {v : Value} {xs : List Value} {k : Nat} (h : w.ownsRow B e size v n xs) (hk : v.ownBlock = some k) : B ≤ k := by
  rcases h.2 with ⟨e, _⟩ | ⟨g, c, cur, e, hg, _⟩
  · rw [e] at hk; simp [Value.ownBlock] at hk
  · rw [e] at hk; simp [Value.ownBlock] at hk; omega
theorem news_at (W : World) (x : Stp) (T : TypeId) {n : Nat} (hn : n = W.heap.size) : ∀ j u, x.cells[j]? = some u → (W.alloc (.cells #[.string x.name, .bool x.at', .int .i64 x.idx] T)).cell? ((⟨n, 0, none⟩ : Addr).add j) = some u := by
  subst hn
  intro j u hu
  rw [addr_add]
  match j, hu with
  | 0, hu => simp [Stp.cells] at hu; subst hu; simp
  | 1, hu => simp [Stp.cells] at hu; subst hu; simp
  | 2, hu => simp [Stp.cells] at hu; subst hu; simp
  | j + 3, hu => simp [Stp.cells] at hu
theorem cells_one (x : Stp) : ∀ u ∈ x.cells, u.oneCell' = true := by
  intro u hu
  simp [Stp.cells] at hu
  rcases hu with rfl | rfl | rfl <;> rfl
theorem rule_name {x : Stp} (h : x.rule = 0) : x.name.size ≤ 32 := by
  cases ha : x.at' with
  | true => have := (Stp.rule_at h ha).1; omega
  | false => exact (Sp.isNm_size (Stp.rule_nm h ha).1).2

set_option maxRecDepth 100000 in
set_option maxHeartbeats 4000000 in
theorem Parse_any (s : ByteArray) (w : World) (hs : s.size ≤ 140737488355328) (henv : Env w) :
    Calls Tryd.prog 9 #[.string s] w fun e w' => (Sp.way s).is w.heap.size w' e ∧ Below w.heap.size w w' := by
  obtain ⟨i0, hi, hz0, hz1, hz2⟩ := info_parts Tryd.infoW
  have HENV : Hid (Env w) := henv
  clear henv
  go_enter Tryd.func9, Tryd.ntmps9
  go_wp2_with fail
  go_loopw [5, 6] (fun u i wr => ∃ (k : Nat) (acc : List Stp) (a : Option Addr) (m cap : Nat), u = .slice a m cap ∧ i = .int .i64 (k : Int) ∧ k ≤ s.size ∧ m ≤ 64 ∧ Hid (m = acc.length) ∧ Hid (wr.ownsRow w.heap.size 39 3 (.slice a m cap) m (Sp.wcells acc)) ∧ Hid (WI s k acc) ∧ Hid (Below w.heap.size w wr)) (fun _ i _ => s.size - (intOf i).toNat)
  case atStart =>
    refine ⟨0, [], _, 0, 0, rfl, rfl, by omega, by omega, rfl, ?_, WI.start s, (Below.refl _ _).alloc (Nat.le_refl _) _⟩
    exact ⟨rfl, .inr ⟨w.heap.size, 0, #[], rfl, Nat.le_refl _, heap_alloc_new w _, Nat.le_refl _, by simp [maxLen], rfl, rfl⟩⟩
  case round =>
    obtain ⟨k, acc, a, m, cap, rfl, rfl, hk, hm, HM, HO, HI, HB⟩ := hrel
    by_cases hlt : k < s.size
    · have HC : Hid (Calls Tryd.prog 14 #[.string s, .int .i64 (k : Int), .int .i64 (m : Int)] wr fun e w' => e = .returned (Sp.rdStep s k m).val ∧ Below wr.heap.size wr w') := readStep_any s k m wr hs hlt hm (HENV.out.on HB.out)
      cases hr : Sp.rdStep s k m with
      | err n e =>
        rw [hr] at HC
        have HR : Hid (Sp.way s = .err n e) := HI.out.err hlt (by rw [← HM.out]; exact hr)
        have HE : Hid (n ≤ s.size ∧ 1 ≤ e ∧ e ≤ 8) := (Sp.rdStep_bd hlt).1 n e hr
        have he : (e != 0) = true := by have := HE.out; simp; omega
        clear hr
        unfold PRes.val at HC
        go_wp2_with fail
        refine HC.out.mono ?_
        rintro e' w1 ⟨rfl, hb1⟩
        have HB1 : Hid (Below w.heap.size w w1) := below_to HB.out hb1
        clear hb1
        go_wp2_with fail
        refine bodyPost_ret (v := .tuple #[.slice none 0 0, .int .i64 (n : Int), .int .i64 e]) (by simp [results, Tryd.results9, go_sem]) rfl ⟨?_, ?_⟩
        · rw [HR.out]
          exact ⟨rfl, HE.out.2.1, by have := HE.out.1; omega⟩
        · exact below_to HB1.out ((Below.refl _ _).alloc (Nat.le_refl _) _)
      | ok x n =>
        rw [hr] at HC
        have HN : Hid (WI s n (acc ++ [x])) := HI.out.next hlt (by rw [← HM.out]; exact hr)
        have HE : Hid (k < n ∧ n ≤ s.size ∧ x.rule = 0 ∧ m < 64) := (Sp.rdStep_bd hlt).2 x n hr
        obtain ⟨hkn, hns, _, hm64⟩ := HE.out
        clear hr
        unfold PRes.val at HC
        go_wp2_with fail
        refine HC.out.mono ?_
        rintro e' w1 ⟨rfl, hb1⟩
        have HB1 : Hid (Below w.heap.size w w1) := below_to HB.out hb1
        have HO1 : Hid (w1.ownsRow w.heap.size 39 3 (.slice a m cap) m (Sp.wcells acc)) := own_on HO.out hb1
        have HA : Hid (((w1.alloc (.cells #[.string x.name, .bool x.at', .int .i64 x.idx] 39)).alloc (.cells #[.string x.name, .bool x.at', .int .i64 x.idx] 39)).ownsRow w.heap.size 39 3 (.slice a m cap) m (Sp.wcells acc) ∧ Below w.heap.size w ((w1.alloc (.cells #[.string x.name, .bool x.at', .int .i64 x.idx] 39)).alloc (.cells #[.string x.name, .bool x.at', .int .i64 x.idx] 39))) := ⟨(HO1.out.alloc _).alloc _, below_to (below_to HB1.out ((Below.refl _ _).alloc (Nat.le_refl _) _)) ((Below.refl _ _).alloc (Nat.le_refl _) _)⟩
        have HNW : Hid (∀ j u, x.cells[j]? = some u → ((w1.alloc (.cells #[.string x.name, .bool x.at', .int .i64 x.idx] 39)).alloc (.cells #[.string x.name, .bool x.at', .int .i64 x.idx] 39)).cell? ((⟨w1.heap.size + 1, 0, none⟩ : Addr).add j) = some u) := news_at _ x _ (by simp)
        have HZ1 : Hid (w.heap.size ≤ w1.heap.size) := HB1.out.size
        clear hb1
        go_wp2_with (at_builtin; refine wpList_app _ rfl _ _ 35 rfl w.heap.size 39 i0 (.agg #[.string ByteArray.empty, .bool false, .int .i64 0]) 3 32 Tryd.undW hi hz0 hz1 hz2 rfl (by decide) _ m (Sp.wcells acc) rfl HA.out.1 ⟨w1.heap.size + 1, 0, none⟩ 1 1 x.cells rfl rfl HNW.out (cells_one x) (by decide) (by unfold maxLen; omega) (by omega) (by have := HZ1.out; simp; omega) ?_; intro g' cap' w3 hown' hgrow hor)
        have HO3 : Hid (w3.ownsRow w.heap.size 39 3 (.slice (some ⟨g', 0, none⟩) (m + 1) cap') (m + 1) (Sp.wcells (acc ++ [x]))) := by
          show World.ownsRow _ _ _ _ _ _ _
          rw [wcells_app]
          simpa [Sp.wcells] using hown'
        have HB3 : Hid (Below w.heap.size w w3) := HA.out.2.grown hgrow (by have := HZ1.out; simp; omega) (fun q hq => own_ge HA.out.1 hq)
        clear hown' hgrow hor
        go_wp2_with fail
        go_roundw
        case rel => exact ⟨n, acc ++ [x], _, m + 1, cap', rfl, rfl, hns, by omega, (by rw [List.length_append, ← HM.out]; rfl), HO3, HN, HB3⟩
        case measure => simp [intOf]; omega
    · have HR : Hid (Sp.way s = .ok acc) := HI.out.fin hlt
      go_wp2_with fail
      refine bodyPost_ret (v := .tuple #[.slice a m cap, .int .i64 0, .int .i64 0]) (by simp [results, Tryd.results9, go_sem]) rfl ⟨?_, HB.out⟩
      rw [HR.out]
      refine ⟨a, cap, by rw [← HM.out], by rw [← HM.out]; exact HO.out, fun x hx => by have := rule_name (HI.out.rule x hx); unfold maxLen; omega, by rw [← HM.out]; exact hm⟩
end Go.Proofs.YtghnipbcbbphbaaDoor
