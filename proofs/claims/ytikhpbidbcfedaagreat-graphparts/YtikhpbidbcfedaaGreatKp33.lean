/- graph.keeper's inner function: what is gone through from some nodes, beside the way. -/
import Derived.Test.YtikhpbidbcfedaaGreatKp32
import Derived.Deep.LoopGhost
namespace Go.Proofs.YtikhpbidbcfedaaGreat
open Go.RowKit Go.ChangeMaps

def Sp.onl (L : Nat) (on : Nat → Int) : List Int := (List.range L).map on
def Sp.snl (L : Nat) (S : List Nat) : List Int := (List.range L).map fun i => if i ∈ S then (i : Int) else -1
theorem onl_at {L i : Nat} (on : Nat → Int) (h : i < L) : (Sp.onl L on)[i]? = some (on i) := by simp [Sp.onl, h]
theorem snl_len (L : Nat) (S : List Nat) : (Sp.snl L S).length = L := by simp [Sp.snl]
theorem snl_at {L i : Nat} (S : List Nat) (h : i < L) : (Sp.snl L S)[i]? = some (if i ∈ S then (i : Int) else -1) := by simp [Sp.snl, h]
theorem snl_put {L n : Nat} {S : List Nat} : Sp.snl L (S ++ [n]) = (Sp.snl L S).set n (n : Int) := by
  apply List.ext_getElem?
  intro t
  rw [List.getElem?_set, snl_len]
  by_cases ht : t < L
  · rw [snl_at _ ht, snl_at _ ht]
    by_cases e : n = t
    · subst e; simp [ht]
    · simp [e, Ne.symm e]
  · rw [List.getElem?_eq_none (by rw [snl_len]; omega), List.getElem?_eq_none (by rw [snl_len]; omega)]
    by_cases e : n = t
    · subst e; simp [ht]
    · simp [e]
theorem cloneI (a : Option Addr) (c : Nat) (l : List Nat) (w : World) (h : InI w a l) (hl : l.length * 8 ≤ 140737488355328) :
    Calls Tryz.prog 66 #[.slice a l.length c] w fun e w' => ∃ gs c', e = .returned (.slice (adr gs) l.length c') ∧ NdI w' gs c' (l.map fun j : Nat => (j : Int)) ∧ (∀ g, gs = some g → w.heap.size ≤ g) ∧ Below w.heap.size w w' := by
  by_cases hz : l = []
  · subst hz
    cases a with
    | none =>
      refine (Tryz.slices_Clone_int_nil 0 c w).mono ?_
      rintro e w' ⟨rfl, rfl⟩
      exact ⟨none, 0, rfl, ⟨fun _ => ⟨rfl, rfl⟩, fun g hg => by cases hg⟩, (fun g hg => by cases hg), Below.refl _ _⟩
    | some a =>
      refine (Tryz.slices_Clone_int_zero a c w).mono ?_
      rintro e w' ⟨v, rfl, h1, _, h3⟩
      obtain ⟨gs, c', rfl, h4, h5⟩ := own_ndI (zs := []) h1
      exact ⟨gs, c', rfl, h4, h5, h3⟩
  · obtain ⟨x, hx⟩ := List.exists_mem_of_ne_nil l hz
    obtain ⟨j, hj, e⟩ := List.mem_iff_getElem.1 hx
    obtain ⟨b, o, rfl, _, _⟩ := h j (.int .i64 (x : Nat)) (by simp [iv, hj, e])
    have hc := Tryz.slices_Clone_int b o l.length c (l.map fun j : Nat => (j : Int)) w (by simp) hl (fun k hk => by
      have hk' : k < l.length := by simpa using hk
      obtain ⟨b', o', e1, _, h2⟩ := h k (.int .i64 ((l[k] : Nat) : Int)) (by simp [iv, hk'])
      simp at e1; obtain ⟨rfl, rfl⟩ := e1
      rw [h2]; simp [hk'])
    refine hc.mono ?_
    rintro e w' ⟨v, rfl, h1, _, h3⟩
    rw [List.take_of_length_le (by simp)] at h1
    have h1' : w'.ownsRow w.heap.size 3 1 v (l.map fun j : Nat => (j : Int)).length ((l.map fun j : Nat => (j : Int)).map (Value.int .i64)) := by rw [List.length_map]; exact h1
    obtain ⟨gs, c', rfl, h4, h5⟩ := own_ndI h1'
    exact ⟨gs, c', by rw [List.length_map], h4, h5, h3⟩

structure KpI (w : World) (L fb ob qb gx go gq gb : Nat) (on : Nat → Int) (S : List Nat) (far : Int) (wr : World) : Prop where
  bel : Below w.heap.size w wr
  fbx : wr.heap[fb]? = some (.cells #[.int .i64 far] 3 (0, 0))
  obx : wr.cell? ⟨ob, 0, none⟩ = some (.slice (some ⟨go, 0, none⟩) L L)
  qbx : wr.cell? ⟨qb, 0, none⟩ = some (.slice (some ⟨gq, 0, none⟩) L L)
  gbx : wr.cell? ⟨gx, 0, none⟩ = some (.pointer (some ⟨gb, 0, none⟩))
  onr : OwnR wr 3 go L L (iv (Sp.onl L on))
  qr : OwnR wr 3 gq L L (iv (Sp.snl L S))
  lo : w.heap.size ≤ fb ∧ w.heap.size ≤ gq
  nf : fb ≠ ob ∧ fb ≠ qb ∧ fb ≠ gx ∧ fb ≠ go ∧ fb ≠ gq
  nq : gq ≠ ob ∧ gq ≠ qb ∧ gq ≠ gx ∧ gq ≠ go
  ok : S.Nodup ∧ ∀ x ∈ S, x < L
section
variable {w wr w' : World} {L fb ob qb gx go gq gb : Nat} {on : Nat → Int} {S : List Nat} {far : Int}
theorem KpI.lt (h : KpI w L fb ob qb gx go gq gb on S far wr) : fb < wr.heap.size ∧ ob < wr.heap.size ∧ qb < wr.heap.size ∧ gx < wr.heap.size ∧ go < wr.heap.size ∧ gq < wr.heap.size :=
  ⟨(Array.getElem?_eq_some_iff.1 h.fbx).1, World.block_lt_of_cell? _ _ h.obx, World.block_lt_of_cell? _ _ h.qbx, World.block_lt_of_cell? _ _ h.gbx, h.onr.lt, h.qr.lt⟩
theorem KpI.same (h : KpI w L fb ob qb gx go gq gb on S far wr) (hb : Below w.heap.size w w') (hs : ∀ k, k = fb ∨ k = ob ∨ k = qb ∨ k = gx ∨ k = go ∨ k = gq → w'.heap[k]? = wr.heap[k]?) : KpI w L fb ob qb gx go gq gb on S far w' :=
  ⟨hb, (hs fb (by simp)).trans h.fbx, by rw [World.cell?_of_block (w := wr) (hs ob (by simp))]; exact h.obx, by rw [World.cell?_of_block (w := wr) (hs qb (by simp))]; exact h.qbx, by rw [World.cell?_of_block (w := wr) (hs gx (by simp))]; exact h.gbx, h.onr.keep (hs go (by simp)), h.qr.keep (hs gq (by simp)), h.lo, h.nf, h.nq, h.ok⟩
theorem KpI.keep (h : KpI w L fb ob qb gx go gq gb on S far wr) (hb : Below wr.heap.size wr w') : KpI w L fb ob qb gx go gq gb on S far w' := by
  obtain ⟨l1, l2, l3, l4, l5, l6⟩ := h.lt
  refine h.same (belT h.bel (hb.mono (Nat.le_refl _))) (fun k hk => hb.block k ?_)
  rcases hk with rfl | rfl | rfl | rfl | rfl | rfl <;> assumption
theorem KpI.set_far (h : KpI w L fb ob qb gx go gq gb on S far wr) (f : Int) : KpI w L fb ob qb gx go gq gb on S f (wr.setCell ⟨fb, 0, none⟩ (.int .i64 f)) := by
  have e : ∀ k, k ≠ fb → (wr.setCell ⟨fb, 0, none⟩ (.int .i64 f)).heap[k]? = wr.heap[k]? := fun k hk => Below.heap_setCell wr _ _ k hk
  obtain ⟨n1, n2, n3, n4, n5⟩ := h.nf
  refine ⟨⟨h.bel.os, h.bel.tape, h.bel.output, by simpa [World.setCell] using h.bel.size, fun k hk => (e k (by have := h.lo.1; omega)).trans (h.bel.block k hk)⟩, ?_, by rw [World.cell?_of_block (w := wr) (e ob (Ne.symm n1))]; exact h.obx, by rw [World.cell?_of_block (w := wr) (e qb (Ne.symm n2))]; exact h.qbx, by rw [World.cell?_of_block (w := wr) (e gx (Ne.symm n3))]; exact h.gbx, h.onr.keep (e go (Ne.symm n4)), h.qr.keep (e gq (Ne.symm n5)), h.lo, h.nf, h.nq, h.ok⟩
  rw [Sort.setCell_eq]; show (wr.heap.modify fb _)[fb]? = _
  rw [Array.getElem?_modify, if_pos rfl, h.fbx]; rfl
theorem KpI.see (h : KpI w L fb ob qb gx go gq gb on S far wr) {n : Nat} (hn : n < L) (hno : n ∉ S) : KpI w L fb ob qb gx go gq gb on (S ++ [n]) far (wr.setCell ⟨gq, n, none⟩ (.int .i64 (n : Int))) := by
  have e : ∀ k, k ≠ gq → (wr.setCell ⟨gq, n, none⟩ (.int .i64 (n : Int))).heap[k]? = wr.heap[k]? := fun k hk => Below.heap_setCell wr _ _ k hk
  obtain ⟨n1, n2, n3, n4, n5⟩ := h.nf
  obtain ⟨q1, q2, q3, q4⟩ := h.nq
  refine ⟨⟨h.bel.os, h.bel.tape, h.bel.output, by simpa [World.setCell] using h.bel.size, fun k hk => (e k (by have := h.lo.2; omega)).trans (h.bel.block k hk)⟩, (e fb n5).trans h.fbx, by rw [World.cell?_of_block (w := wr) (e ob (Ne.symm q1))]; exact h.obx, by rw [World.cell?_of_block (w := wr) (e qb (Ne.symm q2))]; exact h.qbx, by rw [World.cell?_of_block (w := wr) (e gx (Ne.symm q3))]; exact h.gbx, h.onr.keep (e go (Ne.symm q4)), ?_, h.lo, h.nf, h.nq, ?_⟩
  · rw [snl_put, show iv ((Sp.snl L S).set n (n : Int)) = (iv (Sp.snl L S)).set n (.int .i64 (n : Int)) from List.map_set]
    exact h.qr.set n _
  · refine ⟨?_, fun x hx => ?_⟩
    · rw [List.nodup_append]; exact ⟨h.ok.1, by simp, fun x hx y hy => by simp at hy; subst hy; exact fun e => hno (e ▸ hx)⟩
    · rcases List.mem_append.1 hx with hx | hx
      · exact h.ok.2 x hx
      · simp at hx; subst hx; exact hn
end
structure TdI (W0 : World) (l : List Nat) (gs : Option Nat) (c : Nat) (wr : World) : Prop where
  row : NdI wr gs c (l.map fun j : Nat => (j : Int))
  lo : ∀ g, gs = some g → W0.heap.size ≤ g

set_option maxRecDepth 100000 in
set_option maxHeartbeats 8000000 in
theorem keepIn_any (w : World) (N : List Int) (nx : Nat → List Nat) (gn : Option Nat) (cn lo xb : Nat) (bl : Nat → Option Nat) (cp : Nat → Nat) (L fb ob qb gx go gq gb : Nat) (W : List Nat) (on : Nat → Int) (ho : OnW W on) (srcs : Nat → Prop) (S : List Nat) (far : Int) (a : Option Addr) (cap : Nat) (nodes : List Nat) (W0 : World)
    (hG : GR w gb N nx gn cn lo xb bl cp) (hL : N.length = L) (hK : KpI w L fb ob qb gx go gq gb on S far W0) (hM : KM nx W on srcs S far (fun _ => False)) (hi : InI W0 a nodes) (hn : ∀ x ∈ nodes, x < L) (hL4 : L ≤ 4096) (hnl : nodes.length * 8 ≤ 140737488355328) (hb : ∀ i, ∀ x ∈ nx i, x < L) (hrl : ∀ p, (nx p).length ≤ 4096) :
    Calls Tryz.prog 65 #[.slice a nodes.length cap, .pointer (some ⟨fb, 0, none⟩), .pointer (some ⟨ob, 0, none⟩), .pointer (some ⟨qb, 0, none⟩), .pointer (some ⟨gx, 0, none⟩)] W0 fun e w' => ∃ S' far', e = .returned (.tuple #[]) ∧ KpI w L fb ob qb gx go gq gb on S' far' w' ∧ KM nx W on (fun x => srcs x ∨ x ∈ nodes) S' far' (fun _ => False) ∧ W0.heap.size ≤ w'.heap.size := by
  have HC : Hid (Calls Tryz.prog 66 #[.slice a nodes.length cap] W0 fun e w' => ∃ gs c', e = .returned (.slice (adr gs) nodes.length c') ∧ NdI w' gs c' (nodes.map fun j : Nat => (j : Int)) ∧ (∀ g, gs = some g → W0.heap.size ≤ g) ∧ Below W0.heap.size W0 w') := cloneI a cap nodes W0 hi hnl
  have HK : Hid (KpI w L fb ob qb gx go gq gb on S far W0) := hK
  have HM : Hid (KM nx W on (fun x => srcs x ∨ x ∈ nodes) S far (fun x => x ∈ nodes)) := hM.more nodes
  have HG : Hid (GR w gb N nx gn cn lo xb bl cp ∧ N.length = L ∧ OnW W on) := ⟨hG, hL, ho⟩
  have HB : Hid ((∀ x ∈ nodes, x < L) ∧ (∀ i, ∀ x ∈ nx i, x < L) ∧ ∀ p, (nx p).length ≤ 4096) := ⟨hn, hb, hrl⟩
  clear hK hM hG hL ho hn hb hrl hi
  go_enter Tryz.func65, Tryz.ntmps65
  go_wp2_with fail
  refine HC.out.mono ?_
  rintro e w1 ⟨gs, c', rfl, h1, h2, h3⟩
  have HT0 : Hid (TdI W0 nodes gs c' w1 ∧ KpI w L fb ob qb gx go gq gb on S far w1 ∧ Below W0.heap.size W0 w1) := ⟨⟨h1, h2⟩, HK.out.keep h3, h3⟩
  clear h1 h2 h3 HC
  go_wp2_with fail
  go_loopg [6] (nodes.length + (L - S.length) * 4097) (fun k v6 wr => ∃ (l : List Nat) (gs : Option Nat) (c : Nat) (S' : List Nat) (far' : Int), v6 = .slice (adr gs) l.length c ∧ Hid (TdI W0 l gs c wr ∧ KpI w L fb ob qb gx go gq gb on S' far' wr ∧ KM nx W on (fun x => srcs x ∨ x ∈ nodes) S' far' (fun x => x ∈ l) ∧ (∀ x ∈ l, x < L) ∧ W0.heap.size ≤ wr.heap.size ∧ l.length + (L - S'.length) * 4097 ≤ nodes.length + 4096 * 4097) ∧ l.length + (L - S'.length) * 4097 ≤ k)
  case atStart =>
    refine ⟨nodes, gs, c', S, far, rfl, ⟨HT0.out.1, HT0.out.2.1, HM.out, HB.out.1, HT0.out.2.2.size, ?_⟩, Nat.le_refl _⟩
    have : (L - S.length) * 4097 ≤ 4096 * 4097 := Nat.mul_le_mul_right _ (by omega)
    omega
  case round =>
    clear HT0 HM
    obtain ⟨l, gs, c, S', far', rfl, HR, hk⟩ := hrel
    rcases List.eq_nil_or_concat l with rfl | ⟨l0, n, rfl⟩
    · have hz0 : ([] : List Nat).length = 0 := rfl
      rw [hz0]
      go_wp2_with fail
      go_end0
      obtain ⟨_, h2, h3, _, h5, _⟩ := HR.out
      exact ⟨S', far', rfl, h2, h3.same (fun x => by simp) (fun _ => Iff.rfl), h5⟩
    · rw [List.concat_eq_append] at HR hk ⊢
      obtain ⟨g, rfl⟩ : ∃ g, gs = some g := by
        cases gs with
        | some g => exact ⟨g, rfl⟩
        | none => have := (HR.out.1.row.1 rfl).1; simp at this
      have had : adr (some g) = some ⟨g, 0, none⟩ := rfl
      have hlen : (l0 ++ [n]).length = l0.length + 1 := by simp
      have hrow := HR.out.1.row.2 g rfl
      rw [List.length_map, hlen] at hrow
      have hcx : wr.cell? ⟨g, l0.length, none⟩ = some (.int .i64 (n : Int)) := hrow.cell (by simp [iv])
      have hcap : l0.length + 1 ≤ c := by obtain ⟨_, _, h, _⟩ := hrow.blk; exact h
      have hnL : n < L := HR.out.2.2.2.1 n (by simp)
      have hnz : (n : Int) < (L : Int) := by omega
      have HCU : Hid (OwnR wr 3 g l0.length c (iv (l0.map fun j : Nat => (j : Int)))) := by
        show OwnR _ _ _ _ _ _
        have := hrow.cut (i := l0.length) (by omega)
        simpa [iv] using this
      have hm4 : l0.length + 1 ≤ 17592202825728 := by have := HR.out.2.2.2.2.2; rw [hlen] at this; omega
      rw [hlen] at hk ⊢
      have HLE : Hid (∀ x ∈ l0, x < L) := fun x hx => HR.out.2.2.2.1 x (by simp [hx])
      have HKK : Hid (l0.length + 1 + (L - S'.length) * 4097 ≤ nodes.length + 4096 * 4097) := by have := HR.out.2.2.2.2.2; rwa [hlen] at this
      obtain ⟨m, hml⟩ : ∃ m, l0.length = m := ⟨_, rfl⟩
      have HML : Hid (l0.length = m) := hml
      rw [hml] at hk hcx hcap HCU hm4 HKK ⊢
      clear hml
      have hmz : (m : Int) ≤ (c : Int) := by omega
      have hmz2 : ((m : Int) + 1) ≤ (c : Int) := by omega
      have hf0 : wr.cell? ⟨fb, 0, none⟩ = some (.int .i64 far') := by simp [World.cell?, HR.out.2.1.fbx]
      have hff : wr.frozen? ⟨fb, 0, none⟩ = false := by simp [World.frozen?, HR.out.2.1.fbx]
      have hob := HR.out.2.1.obx
      have hon : wr.cell? ⟨go, n, none⟩ = some (.int .i64 (on n)) := HR.out.2.1.onr.cell (by simp [iv, onl_at on hnL])
      clear hrow hlen
      go_wp2_with fail
      go_region
      obtain ⟨F2, hF2⟩ : ∃ F2, max far' (on n) = F2 := ⟨_, rfl⟩
      rw [hF2]
      obtain ⟨W2, hW2⟩ : ∃ W2, (wr.setCell ⟨fb, 0, none⟩ (.int .i64 F2)).drew = W2 := ⟨_, rfl⟩
      rw [hW2]
      have hsz2 : W2.heap.size = wr.heap.size := by rw [← hW2]; simp [World.setCell, World.drew]
      obtain ⟨t1, t2, t3, t4, t5, t6⟩ := HK.out.lt
      have hgW : W0.heap.size ≤ g := HR.out.1.lo g rfl
      have hgl : g < wr.heap.size := HCU.out.lt
      have HK2 : Hid (KpI w L fb ob qb gx go gq gb on S' F2 W2) := by
        have := (HR.out.2.1.set_far F2).keep (Below.refl _ _).drew
        rw [hW2] at this; exact this
      have HC2 : Hid (OwnR W2 3 g m c (iv (l0.map fun j : Nat => (j : Int)))) := HCU.out.keep (by rw [← hW2]; exact Below.heap_setCell wr _ _ g (show g ≠ fb by omega))
      have hob2 := HK2.out.obx
      have hon2 : W2.cell? ⟨go, n, none⟩ = some (.int .i64 (on n)) := HK2.out.onr.cell (by simp [iv, onl_at on hnL])
      have HKM := HR.out.2.2.1
      have hwsz : W0.heap.size ≤ W2.heap.size := by rw [hsz2]; exact HR.out.2.2.2.2.1
      have HSZ : Hid (W0.heap.size ≤ W2.heap.size ∧ W2.heap.size = wr.heap.size ∧ W0.heap.size ≤ g ∧ (fb < W0.heap.size ∧ ob < W0.heap.size ∧ qb < W0.heap.size ∧ gx < W0.heap.size ∧ go < W0.heap.size ∧ gq < W0.heap.size)) := ⟨hwsz, hsz2, hgW, t1, t2, t3, t4, t5, t6⟩
      clear hf0 hff hob hon hcx hsz2 hgl hgW t1 t2 t3 t4 t5 t6 hwsz
      by_cases hnw : n ∈ W
      · have hne : (on n == -1) = false := by have := ((HG.out.2.2.ge n).2).1 hnw; simpa using this
        have HF : Hid (KM nx W on (fun x => srcs x ∨ x ∈ nodes) S' F2 (fun x => x ∈ l0)) := by rw [← hF2]; exact HKM.skip HG.out.2.2 (.inl hnw)
        clear HKM hF2 hW2
        go_wp2_with fail
        go_roundg (m + (L - S'.length) * 4097)
        case measure => omega
        case rel => exact ⟨l0, some g, c, S', F2, by rw [HML.out]; rfl, ⟨⟨⟨(fun e => by cases e), fun g' hg => by injection hg with hg; subst hg; rw [List.length_map, HML.out]; exact HC2.out⟩, fun g' hg => by injection hg with hg; subst hg; exact HSZ.out.2.2.1⟩, HK2.out, HF.out, HLE.out, HSZ.out.1, by have := HKK.out; rw [HML.out]; omega⟩, by rw [HML.out]; exact Nat.le_refl _⟩
      · have hne : on n = -1 := HG.out.2.2.off n hnw
        have hneb : (on n == -1) = true := by rw [hne]; rfl
        have hqb2 := HK2.out.qbx
        have hsn : W2.cell? ⟨gq, n, none⟩ = some (.int .i64 (if n ∈ S' then (n : Int) else -1)) := HK2.out.qr.cell (by simp [iv, snl_at S' hnL])
        by_cases hns : n ∈ S'
        · rw [if_pos hns] at hsn
          have hsb : ((n : Int) == -1) = false := by simp
          have HF : Hid (KM nx W on (fun x => srcs x ∨ x ∈ nodes) S' F2 (fun x => x ∈ l0)) := by rw [← hF2]; exact HKM.skip HG.out.2.2 (.inr hns)
          clear HKM hF2 hW2
          go_wp2_with fail
          go_roundg (m + (L - S'.length) * 4097)
          case measure => omega
          case rel => exact ⟨l0, some g, c, S', F2, by rw [HML.out]; rfl, ⟨⟨⟨(fun e => by cases e), fun g' hg => by injection hg with hg; subst hg; rw [List.length_map, HML.out]; exact HC2.out⟩, fun g' hg => by injection hg with hg; subst hg; exact HSZ.out.2.2.1⟩, HK2.out, HF.out, HLE.out, HSZ.out.1, by have := HKK.out; rw [HML.out]; omega⟩, by rw [HML.out]; exact Nat.le_refl _⟩
        · rw [if_neg hns] at hsn
          have hSL : S'.length + 1 ≤ L := by
            have h1 : (S' ++ [n]).Nodup := by rw [List.nodup_append]; exact ⟨HK2.out.ok.1, by simp, fun x hx y hy => by simp at hy; subst hy; exact fun e => hns (e ▸ hx)⟩
            have h2 := nd_len (L := L) h1 (fun x hx => by
              rcases List.mem_append.1 hx with hx | hx
              · exact HK2.out.ok.2 x hx
              · simp at hx; subst hx; exact hnL)
            simpa using h2
          have HF : Hid (KM nx W on (fun x => srcs x ∨ x ∈ nodes) (S' ++ [n]) F2 (fun x => x ∈ l0 ++ nx n)) := by rw [← hF2]; exact HKM.take HG.out.2.2 hnw
          have hqf : W2.frozen? ⟨gq, n, none⟩ = false := HK2.out.qr.free _
          obtain ⟨W3, hW3⟩ : ∃ W3, W2.setCell ⟨gq, n, none⟩ (.int .i64 (n : Int)) = W3 := ⟨_, rfl⟩
          have HK3 : Hid (KpI w L fb ob qb gx go gq gb on (S' ++ [n]) F2 W3) := by rw [← hW3]; exact HK2.out.see hnL hns
          have hne3 : g ≠ gq := by have := HSZ.out; omega
          have HC3 : Hid (OwnR W3 3 g m c (iv (l0.map fun j : Nat => (j : Int)))) := HC2.out.keep (by rw [← hW3]; exact Below.heap_setCell W2 _ _ g hne3)
          have hs3 : W3.heap.size = W2.heap.size := by rw [← hW3]; simp [World.setCell]
          have hgb3 := HK3.out.gbx
          have HG3 : Hid (GR W3 gb N nx gn cn lo xb bl cp) := HG.out.1.keep HK3.out.bel
          have hc2 : W3.cell? ⟨gb, 2, none⟩ = some (.slice (some ⟨xb, 0, none⟩) L L) := by rw [← HG.out.2.1]; exact HG3.out.c2
          have hrow := HG3.out.row (p := n) (by rw [HG.out.2.1]; exact hnL)
          have hcr := hrow.1
          have hnl4 := HB.out.2.2 n
          have hsrc : RowV W3 (fun _ => True) (adr (bl n)) (iv ((nx n).map fun j : Nat => (j : Int))) := fun t x hx => by
            simp only [iv, List.getElem?_map] at hx
            cases hj : (nx n)[t]? with
            | none => rw [hj] at hx; simp at hx
            | some j =>
              rw [hj] at hx; simp at hx; subst hx
              obtain ⟨gg, hgg, hcc⟩ := hrow.2 t j hj
              exact ⟨gg, 0, by rw [hgg]; rfl, trivial, by simpa using hcc⟩
          obtain ⟨i0, hi0, hz0, hz1, hz2⟩ := info_parts Tryz.infoIn
          have hsr := RowV.src (P := Tryz.prog) (tx := 60) hsrc Tryz.undIs (cp n) (iv_one _) (fun _ => by cases bl n with | none => exact .inl rfl | some q => exact .inr ⟨q, 0, rfl⟩)
          rw [show (iv ((nx n).map fun j : Nat => (j : Int))).length = (nx n).length by simp [iv]] at hsr
          obtain ⟨g', c2, w4, hap, ho4, hgr4, hor4⟩ := run_appS (P := Tryz.prog) W3 60 60 60 3 i0 (.int .i64 0) 8 Tryz.undIs hi0 hz0 hz1 hz2 rfl g m c _ HC3.out _ (nx n).length _ hsr (by omega) (by decide)
          have HF4 : Hid (TdI W0 (l0 ++ nx n) (some g') c2 w4 ∧ KpI w L fb ob qb gx go gq gb on (S' ++ [n]) F2 w4 ∧ W0.heap.size ≤ w4.heap.size) := by
            have hz := HSZ.out
            refine ⟨⟨⟨(fun e => by cases e), fun q hq => ?_⟩, fun q hq => ?_⟩, HK3.out.same ?_ ?_, ?_⟩
            · injection hq with hq; subst hq
              rw [List.length_map, List.length_append, HML.out]
              simpa [iv] using ho4
            · injection hq with hq; subst hq
              rcases hor4 with h | h
              · rw [h]; exact hz.2.2.1
              · rw [h, hs3]; exact hz.1
            · have hb3 := HK3.out.bel
              refine hb3.grown hgr4 hb3.size (fun q hq => ?_)
              injection hq with hq; subst hq
              exact Nat.le_trans HK.out.bel.size hz.2.2.1
            · intro q hq
              have h1 : q < W0.heap.size := by rcases hq with rfl | rfl | rfl | rfl | rfl | rfl <;> omega
              exact hgr4.block q (by rw [hs3]; omega) (fun e => by injection e with e; omega)
            · have := hgr4.size; rw [hs3] at this; omega
          have HLE2 : Hid (∀ x ∈ l0 ++ nx n, x < L) := fun x hx => by
            rcases List.mem_append.1 hx with hx | hx
            · exact HLE.out x hx
            · exact HB.out.2.1 n x hx
          clear HKM hF2 hW2 hsrc hsr hrow ho4 hgr4 hor4 HG3 hz0 hz1 hz2 hi0 hs3 hne3
          go_wp2_with (at_builtin; refine wpList_ranS _ rfl _ _ 60 60 rfl _ _ _ _ rfl rfl hap ?_)
          go_roundg (m + (nx n).length + (L - (S'.length + 1)) * 4097)
          case measure =>
            have h5 : (L - S'.length) * 4097 = (L - (S'.length + 1)) * 4097 + 4097 := by rw [show L - S'.length = L - (S'.length + 1) + 1 by omega, Nat.add_mul]
            omega
          case rel =>
            have h5 : (L - S'.length) * 4097 = (L - (S'.length + 1)) * 4097 + 4097 := by rw [show L - S'.length = L - (S'.length + 1) + 1 by omega, Nat.add_mul]
            refine ⟨l0 ++ nx n, some g', c2, S' ++ [n], F2, by rw [List.length_append, HML.out]; rfl, ⟨HF4.out.1, HF4.out.2.1, HF.out, HLE2.out, HF4.out.2.2, ?_⟩, ?_⟩
            · have := HKK.out
              rw [List.length_append, List.length_append, HML.out]; simp only [List.length_singleton]; omega
            · rw [List.length_append, List.length_append, HML.out]; simp only [List.length_singleton]; omega
end Go.Proofs.YtikhpbidbcfedaaGreat

