/- check.together of names and fields: its iterator tells the places, one behind the other, to whatever round. -/
import Derived.Test.YtjdjpbdfchhcfaaGreatKE29
import Derived.Test.YtjdjpbdfchhcfaaGreatKE26
import Derived.Test.YtjdjpbdfchhcfaaGreatKE39
import Derived.Shelf.Abstract
import Derived.Shelf.RegionOpen
import Derived.WalkKit
import Derived.OwnWalkIn
import Derived.TacticsInMore
import Derived.LoopNIn
import Derived.LoopIn
namespace Go.Proofs.YtjdjpbdfchhcfaaGreat
open Go.RowKit Go.Shelf

set_option maxRecDepth 100000 in
set_option maxHeartbeats 1000000 in
theorem together_any (an ad : Option Addr) (nn cn nd cd : Nat) (w : World) : Calls Tryz.prog 102 #[.slice an nn cn, .slice ad nd cd, .func (.func 103) #[] #[]] w fun e w' =>
    e = .returned (.func (.func 121) #[] #[.pointer (some ⟨w.heap.size, 0, none⟩), .pointer (some ⟨w.heap.size + 1, 0, none⟩), .pointer (some ⟨w.heap.size + 1 + 1, 0, none⟩)]) ∧
      ((w.alloc (.cells #[.slice an nn cn] 31)).alloc (.cells #[.slice ad nd cd] 72)).alloc (.cells #[.func (.func 103) #[] #[]] 169) = w' := by
  go_enter Tryz.func102, Tryz.ntmps102
  go_wp2_with fail
  go_ret
  exact ⟨rfl, rfl⟩

abbrev PQ (A B : Nat) := { x : Int × Int // (x.1 = -1 ∧ 0 ≤ x.2 ∧ x.2 < B) ∨ (0 ≤ x.1 ∧ x.1 < A ∧ x.2 = -1) ∨ (0 ≤ x.1 ∧ x.1 < A ∧ 0 ≤ x.2 ∧ x.2 < B) }
def PQ.enc {A B : Nat} (x : PQ A B) : Array Value := #[.int .i64 x.1.1, .int .i64 x.1.2]
theorem grown_none_below {W W' : World} (h : Below W.heap.size W W') : W.grownBy W' none := ⟨h.os, h.tape, h.output, h.size, fun k hk _ => h.block k hk⟩
theorem TmF.V_at : (l : TmF) → ∀ {w : World} {B : Nat → Prop} {a : Option Addr} {k j : Nat} {n : ByteArray} {t : Tm}, l.V w B a k → l.names[j]? = some n → l.vals.get j = some t → ∃ g o v, a = some ⟨g, o, none⟩ ∧ B g ∧ w.cell? ⟨g, o + (k + j) * 2, none⟩ = some (.string n) ∧ w.cell? ⟨g, o + (k + j) * 2 + 1, none⟩ = some v ∧ t.V w B v
  | .nil, w, B, a, k, j, n, t, _, h, _ => by simp [TmF.names] at h
  | .cons m x l, w, B, a, k, 0, n, t, hV, h, ht => by
    simp only [TmF.V] at hV
    obtain ⟨g, o, v, e, hg, c0, c1, _, hv, _⟩ := hV
    simp [TmF.names] at h
    simp [TmF.vals, TmL.get] at ht
    subst h; subst ht
    exact ⟨g, o, v, e, hg, c0, c1, hv⟩
  | .cons m x l, w, B, a, k, j + 1, n, t, hV, h, ht => by
    simp only [TmF.V] at hV
    obtain ⟨g, o, v, e, hg, c0, c1, _, hv, hl⟩ := hV
    have := TmF.V_at l (j := j) hl (by simpa [TmF.names] using h) (by simpa [TmF.vals, TmL.get] using ht)
    rw [show k + (j + 1) = k + 1 + j by omega]; exact this
theorem TmL.get_some : (l : TmL) → ∀ j, j < l.len → ∃ t, l.get j = some t
  | .nil, j, h => by simp [TmL.len] at h
  | .cons t l, 0, _ => ⟨t, rfl⟩
  | .cons t l, j + 1, h => TmL.get_some l j (by simp [TmL.len] at h; omega)

set_option maxRecDepth 100000 in
set_option maxHeartbeats 4000000 in
theorem tog_stops (n Bn Bd Bf : Nat) (NS : List ByteArray) (FS : TmF) (an ad : Option Addr) (cn cd : Nat) (w : World) (hBn : Bn < w.heap.size) (hBd : Bd < w.heap.size) (hBf : Bf < w.heap.size)
    (cBn : w.cell? ⟨Bn, 0, none⟩ = some (.slice an NS.length cn)) (cBd : w.cell? ⟨Bd, 0, none⟩ = some (.slice ad FS.len cd)) (cBf : w.cell? ⟨Bf, 0, none⟩ = some (.func (.func 103) #[] #[]))
    (hN : NamesAt w (Lo w.heap.size) an NS) (hF : FS.V w (Lo w.heap.size) ad 0) (hlN : NS.length ≤ 4096) (hlF : FS.len ≤ 4096) :
    SeqStopsK Fence.wide n Tryz.prog 121 #[.pointer (some ⟨Bn, 0, none⟩), .pointer (some ⟨Bd, 0, none⟩), .pointer (some ⟨Bf, 0, none⟩)] (PQ.enc (A := NS.length) (B := FS.len)) (Below w.heap.size)
      (fun xs => xs.map (·.1) = Sp.mrg (NS.length + FS.len) 0 0 NS FS.names) (fun pre => pre.map (·.1) <+: Sp.mrg (NS.length + FS.len) 0 0 NS FS.names) (NS.length + FS.len) w := fun l J Jx W hW hJ hJx hY h0 => by
  have HR : Hid (∀ W', Below w.heap.size w W' → W'.cell? ⟨Bn, 0, none⟩ = some (.slice an NS.length cn) ∧ W'.cell? ⟨Bd, 0, none⟩ = some (.slice ad FS.len cd) ∧ W'.cell? ⟨Bf, 0, none⟩ = some (.func (.func 103) #[] #[])) := fun W' h =>
    ⟨by rw [h.cell (p := ⟨Bn, 0, none⟩) hBn]; exact cBn, by rw [h.cell (p := ⟨Bd, 0, none⟩) hBd]; exact cBd, by rw [h.cell (p := ⟨Bf, 0, none⟩) hBf]; exact cBf⟩
  have HNA : Hid (∀ W' j s, Below w.heap.size w W' → NS[j]? = some s → ∃ g o, an = some ⟨g, o, none⟩ ∧ W'.cell? ⟨g, o + j, none⟩ = some (.string s)) := fun W' j s h hj => by
    obtain ⟨g, o, e, hg, hc, _⟩ := hN j s hj
    exact ⟨g, o, e, by rw [h.cell (p := ⟨g, o + j, none⟩) hg]; exact hc⟩
  have HFA : Hid (∀ W' j s, Below w.heap.size w W' → FS.names[j]? = some s → ∃ g o v, ad = some ⟨g, o, none⟩ ∧ W'.cell? ⟨g, o + j * 2, none⟩ = some (.string s) ∧ W'.cell? ⟨g, o + j * 2 + 1, none⟩ = some v ∧ (v = .nilIface ∨ ∃ T y, v = .iface T y)) := fun W' j s h hj => by
    have hl : j < FS.vals.len := by rw [TmF.vals_len, ← TmF.names_len]; exact (List.getElem?_eq_some_iff.1 hj).1
    obtain ⟨t, ht⟩ := TmL.get_some FS.vals j hl
    obtain ⟨g, o, v, e, hg, c0, c1, hv⟩ := TmF.V_at FS hF hj ht
    rw [Nat.zero_add] at c0 c1
    exact ⟨g, o, v, e, by rw [h.cell (p := ⟨g, o + j * 2, none⟩) hg]; exact c0, by rw [h.cell (p := ⟨g, o + j * 2 + 1, none⟩) hg]; exact c1, t.V_shape v hv⟩
  have HYH : Hid (∀ pre (x : PQ NS.length FS.len) W1, J pre W1 → pre.length < NS.length + FS.len → YieldAt Fence.wide (n - 1) Tryz.prog l #[.int .i64 x.1.1, .int .i64 x.1.2] W1 fun e W' => (e = .returned (.bool true) ∧ J (pre ++ [x]) W' ∧ Below w.heap.size W1 W') ∨ (e = .returned (.bool false) ∧ Jx (pre ++ [x]) W')) := hY
  have HJ : Hid (∀ pre A B, J pre A → Below A.heap.size A B → J pre B) := fun pre A B h hb => hJ pre A B none h (grown_none_below hb) (fun r e => by cases e)
  have HJX : Hid (∀ pre A B, Jx pre A → Below A.heap.size A B → Jx pre B) := fun pre A B h hb => hJx pre A B none h (grown_none_below hb) (fun r e => by cases e)
  have HWF : Hid (∀ a b v W', Calls Tryz.prog 103 #[.string a, .agg #[.string b, v]] W' fun e w' => e = .returned (.int .i64 (Sp.cmpS a b)) ∧ Below W'.heap.size W' w') := fun a b v W' => withField_any a b v W'
  have H0 : Hid (J [] W ∧ Below w.heap.size w W) := ⟨h0, hW⟩
  obtain ⟨M, HM⟩ : ∃ M, Hid (M = Sp.mrg (NS.length + FS.len) 0 0 NS FS.names) := ⟨_, show _ = _ from rfl⟩
  have hnl := TmF.names_len FS
  rw [← HM.out]
  clear hW hJ hJx hY h0 cBn cBd cBf hN hF hBn hBd hBf
  refine callsIn_of_wp Tryz.func121 rfl trivial ?_ rfl
  simp only [Tryz.ntmps121, List.size_toArray, List.length_cons, List.length_nil, Nat.reduceAdd, Nat.reduceSub, Array.replicate_succ, Array.replicate_zero, List.push_toArray, List.append_toArray, List.nil_append, List.cons_append]
  gi_wp2
  gi_loopw [5, 6, 7] (fun xi xj xm wr => ∃ (i j N : Nat) (ns ms : List ByteArray) (pre : List (PQ NS.length FS.len)), xi = .int .i64 i ∧ xj = .int .i64 j ∧ i + ns.length = NS.length ∧ j + ms.length = FS.len ∧ Hid (NS.drop i = ns ∧ FS.names.drop j = ms) ∧
      ((xm = .bool true ∧ Hid (J pre wr ∧ pre.map (·.1) ++ Sp.mrg N i j ns ms = M ∧ ns.length + ms.length ≤ N ∧ Below w.heap.size w wr)) ∨ (xm = .bool false ∧ Hid (Jx pre wr ∧ pre.map (·.1) <+: M))))
    (fun xi xj _ _ => (NS.length - (intOf xi).toNat) + (FS.len - (intOf xj).toNat))
  case atStart => exact ⟨0, 0, NS.length + FS.len, NS, FS.names, [], rfl, rfl, by simp, by simp [hnl], ⟨rfl, rfl⟩, .inl ⟨rfl, ⟨H0.out.1, HM.out.symm, by rw [hnl]; exact Nat.le_refl _, H0.out.2⟩⟩⟩
  case round =>
    obtain ⟨i, j, N, ns, ms, pre, rfl, rfl, hi, hj, HK, hm⟩ := hrel
    have hML : M.length ≤ NS.length + FS.len := by rw [HM.out, ← hnl]; exact Sp.mrg_len _ _ _ _ _
    rcases hm with ⟨rfl, HT⟩ | ⟨rfl, HX⟩
    · obtain ⟨r0, r1, r2⟩ := HR.out wr HT.out.2.2.2
      have hpl : pre.length + (Sp.mrg N i j ns ms).length ≤ NS.length + FS.len := by
        have := congrArg List.length HT.out.2.1
        simp at this; omega
      cases ns with
      | nil =>
        have hi' : i = NS.length := by simpa using hi
        subst hi'
        cases ms with
        | nil =>
          have hj' : j = FS.len := by simpa using hj
          subst hj'
          gi_wp2
          go_end0
          exact ⟨⟨_, rfl⟩, .inl ⟨pre, by have := HT.out.2.1; cases N <;> simpa [Sp.mrg] using this, HT.out.1⟩⟩
        | cons m ms =>
          obtain ⟨N, rfl⟩ : ∃ N', N = N' + 1 := ⟨N - 1, by have := HT.out.2.2.1; simp at this; omega⟩
          have HS : Hid (pre.map (·.1) ++ (-1, (j : Int)) :: Sp.mrg N (NS.length) (j + 1) ([]) (ms) = M) := by show _ = _; have := HT.out.2.1; simpa [Sp.mrg] using this
          have hlt : pre.length < NS.length + FS.len := by have := congrArg List.length HS.out; simp at this; omega
          have HL : Hid (([] : List ByteArray).length + (ms : List ByteArray).length ≤ N) := by show _ ≤ _; have := HT.out.2.2.1; simp at this ⊢; omega
          have HD : Hid (NS.drop (NS.length) = [] ∧ FS.names.drop (j + 1) = ms) := ⟨HK.out.1, by rw [← List.drop_drop, HK.out.2]; rfl⟩
          have HP : Hid ((pre ++ [⟨(-1, (j : Int)), .inl ⟨rfl, by omega, by simp at hj; omega⟩⟩] : List (PQ NS.length FS.len)).map (·.1) = pre.map (·.1) ++ [(-1, (j : Int))]) := by show _ = _; simp
          obtain ⟨fn, tmps, assign, body, hy, hR⟩ := HYH.out pre ⟨(-1, (j : Int)), .inl ⟨rfl, by omega, by simp at hj; omega⟩⟩ wr HT.out.1 hlt
          try dsimp only at hy
          have hi2 : NS.length + ([] : List ByteArray).length = NS.length := by first | (simp at hi ⊢; done) | (simp at hi ⊢; omega)
          have hj2 : j + 1 + ms.length = FS.len := by first | (simp at hj ⊢; done) | (simp at hj ⊢; omega)
          gi_wp2
          refine ⟨fun h => (by cases h), hR.mono ?_⟩
          rintro e W3 (⟨rfl, hJ3, hk3⟩ | ⟨rfl, hJx3⟩)
          · have H3 : Hid (J (pre ++ [⟨(-1, (j : Int)), .inl ⟨rfl, by omega, by simp at hj; omega⟩⟩]) W3 ∧ Below w.heap.size w W3) := ⟨hJ3, HT.out.2.2.2.trans hk3⟩
            clear hJ3 hk3
            gi_wp2
            go_roundw
            case rel => exact ⟨NS.length, j + 1, N, [], ms, _, by go_num, by go_num, hi2, hj2, ⟨HD.out.1, HD.out.2⟩, .inl ⟨rfl, ⟨H3.out.1, by rw [HP.out, List.append_assoc]; exact HS.out, HL.out, H3.out.2⟩⟩⟩
            case measure => simp [intOf]; omega
          · have H3 : Hid (Jx (pre ++ [⟨(-1, (j : Int)), .inl ⟨rfl, by omega, by simp at hj; omega⟩⟩]) W3) := hJx3
            clear hJx3
            gi_wp2
            go_roundw
            case rel => exact ⟨NS.length, j + 1, N, [], ms, _, by go_num, by go_num, hi2, hj2, ⟨HD.out.1, HD.out.2⟩, .inr ⟨rfl, ⟨H3.out, by rw [HP.out, ← HS.out]; exact ⟨_, by rw [List.append_assoc]; rfl⟩⟩⟩⟩
            case measure => simp [intOf]; omega
      | cons a ns =>
        have hia : (i : Int) < (NS.length : Int) := by simp at hi; omega
        have hi0 : (0 : Int) ≤ (i : Int) := Int.natCast_nonneg _
        have hne : ((i : Int) == (NS.length : Int)) = false := by simp; omega
        cases ms with
        | nil =>
          have hj' : j = FS.len := by simpa using hj
          subst hj'
          obtain ⟨N, rfl⟩ : ∃ N', N = N' + 1 := ⟨N - 1, by have := HT.out.2.2.1; simp at this; omega⟩
          have HS : Hid (pre.map (·.1) ++ ((i : Int), -1) :: Sp.mrg N (i + 1) (FS.len) (ns) ([]) = M) := by show _ = _; have := HT.out.2.1; simpa [Sp.mrg] using this
          have hlt : pre.length < NS.length + FS.len := by have := congrArg List.length HS.out; simp at this; omega
          have HL : Hid ((ns : List ByteArray).length + ([] : List ByteArray).length ≤ N) := by show _ ≤ _; have := HT.out.2.2.1; simp at this ⊢; omega
          have HD : Hid (NS.drop (i + 1) = ns ∧ FS.names.drop (FS.len) = []) := ⟨by rw [← List.drop_drop, HK.out.1]; rfl, HK.out.2⟩
          have HP : Hid ((pre ++ [⟨((i : Int), -1), .inr (.inl ⟨by omega, by simp at hi; omega, rfl⟩)⟩] : List (PQ NS.length FS.len)).map (·.1) = pre.map (·.1) ++ [((i : Int), -1)]) := by show _ = _; simp
          have hi2 : i + 1 + ns.length = NS.length := by first | (simp at hi ⊢; done) | (simp at hi ⊢; omega)
          have hj2 : FS.len + ([] : List ByteArray).length = FS.len := by first | (simp at hj ⊢; done) | (simp at hj ⊢; omega)
          obtain ⟨fn, tmps, assign, body, hy, hR⟩ := HYH.out pre ⟨((i : Int), -1), .inr (.inl ⟨by omega, by simp at hi; omega, rfl⟩)⟩ wr HT.out.1 hlt
          try dsimp only at hy
          gi_wp2
          refine ⟨fun h => (by cases h), hR.mono ?_⟩
          rintro e W3 (⟨rfl, hJ3, hk3⟩ | ⟨rfl, hJx3⟩)
          · have H3 : Hid (J (pre ++ [⟨((i : Int), -1), .inr (.inl ⟨by omega, by simp at hi; omega, rfl⟩)⟩]) W3 ∧ Below w.heap.size w W3) := ⟨hJ3, (HT.out.2.2.2).trans hk3⟩
            clear hJ3 hk3
            gi_wp2
            go_roundw
            case rel => exact ⟨i + 1, FS.len, N, ns, [], _, by go_num, by go_num, hi2, hj2, ⟨HD.out.1, HD.out.2⟩, .inl ⟨rfl, ⟨H3.out.1, by rw [HP.out, List.append_assoc]; exact HS.out, HL.out, H3.out.2⟩⟩⟩
            case measure => simp [intOf]; omega
          · have H3 : Hid (Jx (pre ++ [⟨((i : Int), -1), .inr (.inl ⟨by omega, by simp at hi; omega, rfl⟩)⟩]) W3) := hJx3
            clear hJx3
            gi_wp2
            go_roundw
            case rel => exact ⟨i + 1, FS.len, N, ns, [], _, by go_num, by go_num, hi2, hj2, ⟨HD.out.1, HD.out.2⟩, .inr ⟨rfl, ⟨H3.out, by rw [HP.out, ← HS.out]; exact ⟨_, by rw [List.append_assoc]; rfl⟩⟩⟩⟩
            case measure => simp [intOf]; omega
        | cons m ms =>
          have hja : (j : Int) < (FS.len : Int) := by simp at hj; omega
          have hj0 : (0 : Int) ≤ (j : Int) := Int.natCast_nonneg _
          have hnf : ((j : Int) == (FS.len : Int)) = false := by simp; omega
          have ea : NS[i]? = some a := by have := congrArg (·[0]?) HK.out.1; simpa using this
          have em : FS.names[j]? = some m := by have := congrArg (·[0]?) HK.out.2; simpa using this
          obtain ⟨g1, o1, rfl, c1⟩ := HNA.out wr i a HT.out.2.2.2 ea
          obtain ⟨g2, o2, v2, rfl, c2, c3, hv2⟩ := HFA.out wr j m HT.out.2.2.2 em
          have HX1 : Hid (∀ W', Below wr.heap.size wr W' → W'.cell? ⟨Bn, 0, none⟩ = some (.slice (some ⟨g1, o1, none⟩) NS.length cn) ∧ W'.cell? ⟨Bd, 0, none⟩ = some (.slice (some ⟨g2, o2, none⟩) FS.len cd) ∧ W'.cell? ⟨Bf, 0, none⟩ = some (.func (.func 103) #[] #[]) ∧ W'.cell? ⟨g1, o1 + i, none⟩ = some (.string a) ∧ W'.cell? ⟨g2, o2 + j * 2, none⟩ = some (.string m) ∧ W'.cell? ⟨g2, o2 + j * 2 + 1, none⟩ = some v2) := fun W' h => by
            have hb : ∀ {p : Addr} {v : Value}, wr.cell? p = some v → W'.cell? p = some v := fun {p v} hc => by
              have hp : p.block < wr.heap.size := by
                cases hh : wr.heap[p.block]? with
                | none => simp [World.cell?, hh] at hc
                | some o => exact (Array.getElem?_eq_some_iff.1 hh).1
              rw [h.cell hp]; exact hc
            exact ⟨hb r0, hb r1, hb r2, hb c1, hb c2, hb c3⟩
          obtain ⟨N, rfl⟩ : ∃ N', N = N' + 1 := ⟨N - 1, by have := HT.out.2.2.1; simp at this; omega⟩
          by_cases z1 : Sp.cmpS a m < 0
          · have zb : decide (Sp.cmpS a m < 0) = true := by simp [z1]
            have HS : Hid (pre.map (·.1) ++ ((i : Int), -1) :: Sp.mrg N (i + 1) (j) (ns) (m :: ms) = M) := by show _ = _; have := HT.out.2.1; simpa [Sp.mrg, z1] using this
            have hlt : pre.length < NS.length + FS.len := by have := congrArg List.length HS.out; simp at this; omega
            have HL : Hid ((ns : List ByteArray).length + (m :: ms : List ByteArray).length ≤ N) := by show _ ≤ _; have := HT.out.2.2.1; simp at this ⊢; omega
            have HD : Hid (NS.drop (i + 1) = ns ∧ FS.names.drop (j) = m :: ms) := ⟨by rw [← List.drop_drop, HK.out.1]; rfl, HK.out.2⟩
            have HP : Hid ((pre ++ [⟨((i : Int), -1), .inr (.inl ⟨hi0, hia, rfl⟩)⟩] : List (PQ NS.length FS.len)).map (·.1) = pre.map (·.1) ++ [((i : Int), -1)]) := by show _ = _; simp
            have hi2 : i + 1 + ns.length = NS.length := by first | (simp at hi ⊢; done) | (simp at hi ⊢; omega)
            have hj2 : j + (m :: ms).length = FS.len := by first | (simp at hj ⊢; done) | (simp at hj ⊢; omega)
            have HYX : Hid (∀ w4, Below wr.heap.size wr w4 → Below w.heap.size w w4 ∧ YieldAt Fence.wide (n - 1) Tryz.prog l #[.int .i64 (((i : Int), -1) : Int × Int).1, .int .i64 (((i : Int), -1) : Int × Int).2] w4 fun e W' => (e = .returned (.bool true) ∧ J (pre ++ [⟨((i : Int), -1), .inr (.inl ⟨hi0, hia, rfl⟩)⟩]) W' ∧ Below w.heap.size w4 W') ∨ (e = .returned (.bool false) ∧ Jx (pre ++ [⟨((i : Int), -1), .inr (.inl ⟨hi0, hia, rfl⟩)⟩]) W')) := fun w4 h4 => ⟨HT.out.2.2.2.trans (h4.mono HT.out.2.2.2.size), HYH.out pre ⟨((i : Int), -1), .inr (.inl ⟨hi0, hia, rfl⟩)⟩ w4 (HJ.out pre wr w4 HT.out.1 h4) hlt⟩
            clear hi hj HT HK hpl ea em c1 c2 c3
            gi_wp2
            refine wpIn_wide.2 ?_
            go_region_held3 (fun W => W.cell? ⟨Bn, 0, none⟩ = some (.slice (some ⟨g1, o1, none⟩) NS.length cn) ∧ W.cell? ⟨Bd, 0, none⟩ = some (.slice (some ⟨g2, o2, none⟩) FS.len cd) ∧ W.cell? ⟨Bf, 0, none⟩ = some (.func (.func 103) #[] #[]) ∧ W.cell? ⟨g1, o1 + i, none⟩ = some (.string a) ∧ W.cell? ⟨g2, o2 + j * 2, none⟩ = some (.string m) ∧ W.cell? ⟨g2, o2 + j * 2 + 1, none⟩ = some v2)
              (first | with_reducible exact HX1.out _ HB4.out | with_reducible exact HX1.out _ (Below.refl _ _).drew)
              ((go_at_call 103; refine (HWF.out _ _ _ _).mono ?_; rintro e w4 ⟨rfl, hb4⟩; have HB4 : Hid (Below wr.heap.size wr w4) := below_to (Below.refl _ _).drew hb4; clear hb4))
            obtain ⟨hB5, fn, tmps, assign, body, hy, hR⟩ := HYX.out w4 HB4.out
            try dsimp only at hy
            gi_wp2
            refine ⟨fun h => (by cases h), hR.mono ?_⟩
            rintro e W3 (⟨rfl, hJ3, hk3⟩ | ⟨rfl, hJx3⟩)
            · have H3 : Hid (J (pre ++ [⟨((i : Int), -1), .inr (.inl ⟨hi0, hia, rfl⟩)⟩]) W3 ∧ Below w.heap.size w W3) := ⟨hJ3, hB5.trans hk3⟩
              clear hJ3 hk3 hB5
              gi_wp2
              go_roundw
              case rel => exact ⟨i + 1, j, N, ns, m :: ms, _, by go_num, by go_num, hi2, hj2, ⟨HD.out.1, HD.out.2⟩, .inl ⟨rfl, ⟨H3.out.1, by rw [HP.out, List.append_assoc]; exact HS.out, HL.out, H3.out.2⟩⟩⟩
              case measure => simp [intOf]; omega
            · have H3 : Hid (Jx (pre ++ [⟨((i : Int), -1), .inr (.inl ⟨hi0, hia, rfl⟩)⟩]) W3) := hJx3
              clear hJx3 hB5
              gi_wp2
              go_roundw
              case rel => exact ⟨i + 1, j, N, ns, m :: ms, _, by go_num, by go_num, hi2, hj2, ⟨HD.out.1, HD.out.2⟩, .inr ⟨rfl, ⟨H3.out, by rw [HP.out, ← HS.out]; exact ⟨_, by rw [List.append_assoc]; rfl⟩⟩⟩⟩
              case measure => simp [intOf]; omega
          · by_cases z2 : 0 < Sp.cmpS a m
            · have zb : decide (Sp.cmpS a m < 0) = false := by simp [z1]
              have zc : decide (0 < Sp.cmpS a m) = true := by simp [z2]
              have HS : Hid (pre.map (·.1) ++ (-1, (j : Int)) :: Sp.mrg N (i) (j + 1) (a :: ns) (ms) = M) := by show _ = _; have := HT.out.2.1; simpa [Sp.mrg, z1, z2] using this
              have hlt : pre.length < NS.length + FS.len := by have := congrArg List.length HS.out; simp at this; omega
              have HL : Hid ((a :: ns : List ByteArray).length + (ms : List ByteArray).length ≤ N) := by show _ ≤ _; have := HT.out.2.2.1; simp at this ⊢; omega
              have HD : Hid (NS.drop (i) = a :: ns ∧ FS.names.drop (j + 1) = ms) := ⟨HK.out.1, by rw [← List.drop_drop, HK.out.2]; rfl⟩
              have HP : Hid ((pre ++ [⟨(-1, (j : Int)), .inl ⟨rfl, hj0, hja⟩⟩] : List (PQ NS.length FS.len)).map (·.1) = pre.map (·.1) ++ [(-1, (j : Int))]) := by show _ = _; simp
              have hi2 : i + (a :: ns).length = NS.length := by first | (simp at hi ⊢; done) | (simp at hi ⊢; omega)
              have hj2 : j + 1 + ms.length = FS.len := by first | (simp at hj ⊢; done) | (simp at hj ⊢; omega)
              have HYX : Hid (∀ w4, Below wr.heap.size wr w4 → Below w.heap.size w w4 ∧ YieldAt Fence.wide (n - 1) Tryz.prog l #[.int .i64 ((-1, (j : Int)) : Int × Int).1, .int .i64 ((-1, (j : Int)) : Int × Int).2] w4 fun e W' => (e = .returned (.bool true) ∧ J (pre ++ [⟨(-1, (j : Int)), .inl ⟨rfl, hj0, hja⟩⟩]) W' ∧ Below w.heap.size w4 W') ∨ (e = .returned (.bool false) ∧ Jx (pre ++ [⟨(-1, (j : Int)), .inl ⟨rfl, hj0, hja⟩⟩]) W')) := fun w4 h4 => ⟨HT.out.2.2.2.trans (h4.mono HT.out.2.2.2.size), HYH.out pre ⟨(-1, (j : Int)), .inl ⟨rfl, hj0, hja⟩⟩ w4 (HJ.out pre wr w4 HT.out.1 h4) hlt⟩
              clear hi hj HT HK hpl ea em c1 c2 c3
              gi_wp2
              refine wpIn_wide.2 ?_
              go_region_held3 (fun W => W.cell? ⟨Bn, 0, none⟩ = some (.slice (some ⟨g1, o1, none⟩) NS.length cn) ∧ W.cell? ⟨Bd, 0, none⟩ = some (.slice (some ⟨g2, o2, none⟩) FS.len cd) ∧ W.cell? ⟨Bf, 0, none⟩ = some (.func (.func 103) #[] #[]) ∧ W.cell? ⟨g1, o1 + i, none⟩ = some (.string a) ∧ W.cell? ⟨g2, o2 + j * 2, none⟩ = some (.string m) ∧ W.cell? ⟨g2, o2 + j * 2 + 1, none⟩ = some v2)
                (first | with_reducible exact HX1.out _ HB4.out | with_reducible exact HX1.out _ (Below.refl _ _).drew)
                ((go_at_call 103; refine (HWF.out _ _ _ _).mono ?_; rintro e w4 ⟨rfl, hb4⟩; have HB4 : Hid (Below wr.heap.size wr w4) := below_to (Below.refl _ _).drew hb4; clear hb4))
              obtain ⟨hB5, fn, tmps, assign, body, hy, hR⟩ := HYX.out w4 HB4.out
              try dsimp only at hy
              gi_wp2
              refine ⟨fun h => (by cases h), hR.mono ?_⟩
              rintro e W3 (⟨rfl, hJ3, hk3⟩ | ⟨rfl, hJx3⟩)
              · have H3 : Hid (J (pre ++ [⟨(-1, (j : Int)), .inl ⟨rfl, hj0, hja⟩⟩]) W3 ∧ Below w.heap.size w W3) := ⟨hJ3, hB5.trans hk3⟩
                clear hJ3 hk3 hB5
                gi_wp2
                go_roundw
                case rel => exact ⟨i, j + 1, N, a :: ns, ms, _, by go_num, by go_num, hi2, hj2, ⟨HD.out.1, HD.out.2⟩, .inl ⟨rfl, ⟨H3.out.1, by rw [HP.out, List.append_assoc]; exact HS.out, HL.out, H3.out.2⟩⟩⟩
                case measure => simp [intOf]; omega
              · have H3 : Hid (Jx (pre ++ [⟨(-1, (j : Int)), .inl ⟨rfl, hj0, hja⟩⟩]) W3) := hJx3
                clear hJx3 hB5
                gi_wp2
                go_roundw
                case rel => exact ⟨i, j + 1, N, a :: ns, ms, _, by go_num, by go_num, hi2, hj2, ⟨HD.out.1, HD.out.2⟩, .inr ⟨rfl, ⟨H3.out, by rw [HP.out, ← HS.out]; exact ⟨_, by rw [List.append_assoc]; rfl⟩⟩⟩⟩
                case measure => simp [intOf]; omega
            · have zb : decide (Sp.cmpS a m < 0) = false := by simp [z1]
              have zc : decide (0 < Sp.cmpS a m) = false := by simp [z2]
              have HS : Hid (pre.map (·.1) ++ ((i : Int), (j : Int)) :: Sp.mrg N (i + 1) (j + 1) (ns) (ms) = M) := by show _ = _; have := HT.out.2.1; simpa [Sp.mrg, z1, z2] using this
              have hlt : pre.length < NS.length + FS.len := by have := congrArg List.length HS.out; simp at this; omega
              have HL : Hid ((ns : List ByteArray).length + (ms : List ByteArray).length ≤ N) := by show _ ≤ _; have := HT.out.2.2.1; simp at this ⊢; omega
              have HD : Hid (NS.drop (i + 1) = ns ∧ FS.names.drop (j + 1) = ms) := ⟨by rw [← List.drop_drop, HK.out.1]; rfl, by rw [← List.drop_drop, HK.out.2]; rfl⟩
              have HP : Hid ((pre ++ [⟨((i : Int), (j : Int)), .inr (.inr ⟨hi0, hia, hj0, hja⟩)⟩] : List (PQ NS.length FS.len)).map (·.1) = pre.map (·.1) ++ [((i : Int), (j : Int))]) := by show _ = _; simp
              have hi2 : i + 1 + ns.length = NS.length := by first | (simp at hi ⊢; done) | (simp at hi ⊢; omega)
              have hj2 : j + 1 + ms.length = FS.len := by first | (simp at hj ⊢; done) | (simp at hj ⊢; omega)
              have HYX : Hid (∀ w4, Below wr.heap.size wr w4 → Below w.heap.size w w4 ∧ YieldAt Fence.wide (n - 1) Tryz.prog l #[.int .i64 (((i : Int), (j : Int)) : Int × Int).1, .int .i64 (((i : Int), (j : Int)) : Int × Int).2] w4 fun e W' => (e = .returned (.bool true) ∧ J (pre ++ [⟨((i : Int), (j : Int)), .inr (.inr ⟨hi0, hia, hj0, hja⟩)⟩]) W' ∧ Below w.heap.size w4 W') ∨ (e = .returned (.bool false) ∧ Jx (pre ++ [⟨((i : Int), (j : Int)), .inr (.inr ⟨hi0, hia, hj0, hja⟩)⟩]) W')) := fun w4 h4 => ⟨HT.out.2.2.2.trans (h4.mono HT.out.2.2.2.size), HYH.out pre ⟨((i : Int), (j : Int)), .inr (.inr ⟨hi0, hia, hj0, hja⟩)⟩ w4 (HJ.out pre wr w4 HT.out.1 h4) hlt⟩
              clear hi hj HT HK hpl ea em c1 c2 c3
              gi_wp2
              refine wpIn_wide.2 ?_
              go_region_held3 (fun W => W.cell? ⟨Bn, 0, none⟩ = some (.slice (some ⟨g1, o1, none⟩) NS.length cn) ∧ W.cell? ⟨Bd, 0, none⟩ = some (.slice (some ⟨g2, o2, none⟩) FS.len cd) ∧ W.cell? ⟨Bf, 0, none⟩ = some (.func (.func 103) #[] #[]) ∧ W.cell? ⟨g1, o1 + i, none⟩ = some (.string a) ∧ W.cell? ⟨g2, o2 + j * 2, none⟩ = some (.string m) ∧ W.cell? ⟨g2, o2 + j * 2 + 1, none⟩ = some v2)
                (first | with_reducible exact HX1.out _ HB4.out | with_reducible exact HX1.out _ (Below.refl _ _).drew)
                ((go_at_call 103; refine (HWF.out _ _ _ _).mono ?_; rintro e w4 ⟨rfl, hb4⟩; have HB4 : Hid (Below wr.heap.size wr w4) := below_to (Below.refl _ _).drew hb4; clear hb4))
              obtain ⟨hB5, fn, tmps, assign, body, hy, hR⟩ := HYX.out w4 HB4.out
              try dsimp only at hy
              gi_wp2
              refine ⟨fun h => (by cases h), hR.mono ?_⟩
              rintro e W3 (⟨rfl, hJ3, hk3⟩ | ⟨rfl, hJx3⟩)
              · have H3 : Hid (J (pre ++ [⟨((i : Int), (j : Int)), .inr (.inr ⟨hi0, hia, hj0, hja⟩)⟩]) W3 ∧ Below w.heap.size w W3) := ⟨hJ3, hB5.trans hk3⟩
                clear hJ3 hk3 hB5
                gi_wp2
                go_roundw
                case rel => exact ⟨i + 1, j + 1, N, ns, ms, _, by go_num, by go_num, hi2, hj2, ⟨HD.out.1, HD.out.2⟩, .inl ⟨rfl, ⟨H3.out.1, by rw [HP.out, List.append_assoc]; exact HS.out, HL.out, H3.out.2⟩⟩⟩
                case measure => simp [intOf]; omega
              · have H3 : Hid (Jx (pre ++ [⟨((i : Int), (j : Int)), .inr (.inr ⟨hi0, hia, hj0, hja⟩)⟩]) W3) := hJx3
                clear hJx3 hB5
                gi_wp2
                go_roundw
                case rel => exact ⟨i + 1, j + 1, N, ns, ms, _, by go_num, by go_num, hi2, hj2, ⟨HD.out.1, HD.out.2⟩, .inr ⟨rfl, ⟨H3.out, by rw [HP.out, ← HS.out]; exact ⟨_, by rw [List.append_assoc]; rfl⟩⟩⟩⟩
                case measure => simp [intOf]; omega
    · gi_wp2
      all_goals first
        | (go_end0; exact ⟨⟨_, rfl⟩, .inr ⟨pre, HX.out.2, HX.out.1⟩⟩)
        | (rename_i h1 h2; exact absurd h1 (by simp [undef]))
end Go.Proofs.YtjdjpbdfchhcfaaGreat

/- check.together of names and names: its iterator tells the places, one behind the other, to whatever round. -/
namespace Go.Proofs.YtjdjpbdfchhcfaaGreat
open Go.RowKit Go.Shelf

set_option maxRecDepth 100000 in
set_option maxHeartbeats 1000000 in
theorem togetherS_any (an ad : Option Addr) (nn cn nd cd : Nat) (w : World) : Calls Tryz.prog 90 #[.slice an nn cn, .slice ad nd cd, .func (.func 91) #[] #[]] w fun e w' =>
    e = .returned (.func (.func 112) #[] #[.pointer (some ⟨w.heap.size, 0, none⟩), .pointer (some ⟨w.heap.size + 1, 0, none⟩), .pointer (some ⟨w.heap.size + 1 + 1, 0, none⟩)]) ∧
      ((w.alloc (.cells #[.slice an nn cn] 31)).alloc (.cells #[.slice ad nd cd] 31)).alloc (.cells #[.func (.func 91) #[] #[]] 120) = w' := by
  go_enter Tryz.func90, Tryz.ntmps90
  go_wp2_with fail
  go_ret
  exact ⟨rfl, rfl⟩

set_option maxRecDepth 100000 in
set_option maxHeartbeats 4000000 in
theorem togS_stops (n Bn Bd Bf : Nat) (NS : List ByteArray) (MS : List ByteArray) (an ad : Option Addr) (cn cd : Nat) (w : World) (hBn : Bn < w.heap.size) (hBd : Bd < w.heap.size) (hBf : Bf < w.heap.size)
    (cBn : w.cell? ⟨Bn, 0, none⟩ = some (.slice an NS.length cn)) (cBd : w.cell? ⟨Bd, 0, none⟩ = some (.slice ad MS.length cd)) (cBf : w.cell? ⟨Bf, 0, none⟩ = some (.func (.func 91) #[] #[]))
    (hN : NamesAt w (Lo w.heap.size) an NS) (hF : NamesAt w (Lo w.heap.size) ad MS) (hlN : NS.length ≤ 4096) (hlF : MS.length ≤ 4096) :
    SeqStopsK Fence.wide n Tryz.prog 112 #[.pointer (some ⟨Bn, 0, none⟩), .pointer (some ⟨Bd, 0, none⟩), .pointer (some ⟨Bf, 0, none⟩)] (PQ.enc (A := NS.length) (B := MS.length)) (Below w.heap.size)
      (fun xs => xs.map (·.1) = Sp.mrg (NS.length + MS.length) 0 0 NS MS) (fun pre => pre.map (·.1) <+: Sp.mrg (NS.length + MS.length) 0 0 NS MS) (NS.length + MS.length) w := fun l J Jx W hW hJ hJx hY h0 => by
  have HR : Hid (∀ W', Below w.heap.size w W' → W'.cell? ⟨Bn, 0, none⟩ = some (.slice an NS.length cn) ∧ W'.cell? ⟨Bd, 0, none⟩ = some (.slice ad MS.length cd) ∧ W'.cell? ⟨Bf, 0, none⟩ = some (.func (.func 91) #[] #[])) := fun W' h =>
    ⟨by rw [h.cell (p := ⟨Bn, 0, none⟩) hBn]; exact cBn, by rw [h.cell (p := ⟨Bd, 0, none⟩) hBd]; exact cBd, by rw [h.cell (p := ⟨Bf, 0, none⟩) hBf]; exact cBf⟩
  have HNA : Hid (∀ W' j s, Below w.heap.size w W' → NS[j]? = some s → ∃ g o, an = some ⟨g, o, none⟩ ∧ W'.cell? ⟨g, o + j, none⟩ = some (.string s)) := fun W' j s h hj => by
    obtain ⟨g, o, e, hg, hc, _⟩ := hN j s hj
    exact ⟨g, o, e, by rw [h.cell (p := ⟨g, o + j, none⟩) hg]; exact hc⟩
  have HFA : Hid (∀ W' j s, Below w.heap.size w W' → MS[j]? = some s → ∃ g o, ad = some ⟨g, o, none⟩ ∧ W'.cell? ⟨g, o + j, none⟩ = some (.string s)) := fun W' j s h hj => by
    obtain ⟨g, o, e, hg, hc, _⟩ := hF j s hj
    exact ⟨g, o, e, by rw [h.cell (p := ⟨g, o + j, none⟩) hg]; exact hc⟩
  have HYH : Hid (∀ pre (x : PQ NS.length MS.length) W1, J pre W1 → pre.length < NS.length + MS.length → YieldAt Fence.wide (n - 1) Tryz.prog l #[.int .i64 x.1.1, .int .i64 x.1.2] W1 fun e W' => (e = .returned (.bool true) ∧ J (pre ++ [x]) W' ∧ Below w.heap.size W1 W') ∨ (e = .returned (.bool false) ∧ Jx (pre ++ [x]) W')) := hY
  have HJ : Hid (∀ pre A B, J pre A → Below A.heap.size A B → J pre B) := fun pre A B h hb => hJ pre A B none h (grown_none_below hb) (fun r e => by cases e)
  have HJX : Hid (∀ pre A B, Jx pre A → Below A.heap.size A B → Jx pre B) := fun pre A B h hb => hJx pre A B none h (grown_none_below hb) (fun r e => by cases e)
  have HWF : Hid (∀ a b W', Calls Tryz.prog 91 #[.string a, .string b] W' fun e w' => e = .returned (.int .i64 (Sp.cmpS a b)) ∧ Below W'.heap.size W' w') := fun a b W' => (strCompare_any a b W').mono fun e w' h => ⟨h.1, by rw [← h.2]; exact Below.refl _ _⟩
  have H0 : Hid (J [] W ∧ Below w.heap.size w W) := ⟨h0, hW⟩
  obtain ⟨M, HM⟩ : ∃ M, Hid (M = Sp.mrg (NS.length + MS.length) 0 0 NS MS) := ⟨_, show _ = _ from rfl⟩
  have hnl : MS.length = MS.length := rfl
  rw [← HM.out]
  clear hW hJ hJx hY h0 cBn cBd cBf hN hF hBn hBd hBf
  refine callsIn_of_wp Tryz.func112 rfl trivial ?_ rfl
  simp only [Tryz.ntmps112, List.size_toArray, List.length_cons, List.length_nil, Nat.reduceAdd, Nat.reduceSub, Array.replicate_succ, Array.replicate_zero, List.push_toArray, List.append_toArray, List.nil_append, List.cons_append]
  gi_wp2
  gi_loopw [5, 6, 7] (fun xi xj xm wr => ∃ (i j N : Nat) (ns ms : List ByteArray) (pre : List (PQ NS.length MS.length)), xi = .int .i64 i ∧ xj = .int .i64 j ∧ i + ns.length = NS.length ∧ j + ms.length = MS.length ∧ Hid (NS.drop i = ns ∧ MS.drop j = ms) ∧
      ((xm = .bool true ∧ Hid (J pre wr ∧ pre.map (·.1) ++ Sp.mrg N i j ns ms = M ∧ ns.length + ms.length ≤ N ∧ Below w.heap.size w wr)) ∨ (xm = .bool false ∧ Hid (Jx pre wr ∧ pre.map (·.1) <+: M))))
    (fun xi xj _ _ => (NS.length - (intOf xi).toNat) + (MS.length - (intOf xj).toNat))
  case atStart => exact ⟨0, 0, NS.length + MS.length, NS, MS, [], rfl, rfl, by simp, by simp, ⟨rfl, rfl⟩, .inl ⟨rfl, ⟨H0.out.1, HM.out.symm, Nat.le_refl _, H0.out.2⟩⟩⟩
  case round =>
    obtain ⟨i, j, N, ns, ms, pre, rfl, rfl, hi, hj, HK, hm⟩ := hrel
    have hML : M.length ≤ NS.length + MS.length := by rw [HM.out]; exact Sp.mrg_len _ _ _ _ _
    rcases hm with ⟨rfl, HT⟩ | ⟨rfl, HX⟩
    · obtain ⟨r0, r1, r2⟩ := HR.out wr HT.out.2.2.2
      have hpl : pre.length + (Sp.mrg N i j ns ms).length ≤ NS.length + MS.length := by
        have := congrArg List.length HT.out.2.1
        simp at this; omega
      cases ns with
      | nil =>
        have hi' : i = NS.length := by simpa using hi
        subst hi'
        cases ms with
        | nil =>
          have hj' : j = MS.length := by simpa using hj
          subst hj'
          gi_wp2
          go_end0
          exact ⟨⟨_, rfl⟩, .inl ⟨pre, by have := HT.out.2.1; cases N <;> simpa [Sp.mrg] using this, HT.out.1⟩⟩
        | cons m ms =>
          obtain ⟨N, rfl⟩ : ∃ N', N = N' + 1 := ⟨N - 1, by have := HT.out.2.2.1; simp at this; omega⟩
          have HS : Hid (pre.map (·.1) ++ (-1, (j : Int)) :: Sp.mrg N (NS.length) (j + 1) ([]) (ms) = M) := by show _ = _; have := HT.out.2.1; simpa [Sp.mrg] using this
          have hlt : pre.length < NS.length + MS.length := by have := congrArg List.length HS.out; simp at this; omega
          have HL : Hid (([] : List ByteArray).length + (ms : List ByteArray).length ≤ N) := by show _ ≤ _; have := HT.out.2.2.1; simp at this ⊢; omega
          have HD : Hid (NS.drop (NS.length) = [] ∧ MS.drop (j + 1) = ms) := ⟨HK.out.1, by rw [← List.drop_drop, HK.out.2]; rfl⟩
          have HP : Hid ((pre ++ [⟨(-1, (j : Int)), .inl ⟨rfl, by omega, by simp at hj; omega⟩⟩] : List (PQ NS.length MS.length)).map (·.1) = pre.map (·.1) ++ [(-1, (j : Int))]) := by show _ = _; simp
          obtain ⟨fn, tmps, assign, body, hy, hR⟩ := HYH.out pre ⟨(-1, (j : Int)), .inl ⟨rfl, by omega, by simp at hj; omega⟩⟩ wr HT.out.1 hlt
          try dsimp only at hy
          have hi2 : NS.length + ([] : List ByteArray).length = NS.length := by first | (simp at hi ⊢; done) | (simp at hi ⊢; omega)
          have hj2 : j + 1 + ms.length = MS.length := by first | (simp at hj ⊢; done) | (simp at hj ⊢; omega)
          gi_wp2
          refine ⟨fun h => (by cases h), hR.mono ?_⟩
          rintro e W3 (⟨rfl, hJ3, hk3⟩ | ⟨rfl, hJx3⟩)
          · have H3 : Hid (J (pre ++ [⟨(-1, (j : Int)), .inl ⟨rfl, by omega, by simp at hj; omega⟩⟩]) W3 ∧ Below w.heap.size w W3) := ⟨hJ3, HT.out.2.2.2.trans hk3⟩
            clear hJ3 hk3
            gi_wp2
            go_roundw
            case rel => exact ⟨NS.length, j + 1, N, [], ms, _, by go_num, by go_num, hi2, hj2, ⟨HD.out.1, HD.out.2⟩, .inl ⟨rfl, ⟨H3.out.1, by rw [HP.out, List.append_assoc]; exact HS.out, HL.out, H3.out.2⟩⟩⟩
            case measure => simp [intOf]; omega
          · have H3 : Hid (Jx (pre ++ [⟨(-1, (j : Int)), .inl ⟨rfl, by omega, by simp at hj; omega⟩⟩]) W3) := hJx3
            clear hJx3
            gi_wp2
            go_roundw
            case rel => exact ⟨NS.length, j + 1, N, [], ms, _, by go_num, by go_num, hi2, hj2, ⟨HD.out.1, HD.out.2⟩, .inr ⟨rfl, ⟨H3.out, by rw [HP.out, ← HS.out]; exact ⟨_, by rw [List.append_assoc]; rfl⟩⟩⟩⟩
            case measure => simp [intOf]; omega
      | cons a ns =>
        have hia : (i : Int) < (NS.length : Int) := by simp at hi; omega
        have hi0 : (0 : Int) ≤ (i : Int) := Int.natCast_nonneg _
        have hne : ((i : Int) == (NS.length : Int)) = false := by simp; omega
        cases ms with
        | nil =>
          have hj' : j = MS.length := by simpa using hj
          subst hj'
          obtain ⟨N, rfl⟩ : ∃ N', N = N' + 1 := ⟨N - 1, by have := HT.out.2.2.1; simp at this; omega⟩
          have HS : Hid (pre.map (·.1) ++ ((i : Int), -1) :: Sp.mrg N (i + 1) (MS.length) (ns) ([]) = M) := by show _ = _; have := HT.out.2.1; simpa [Sp.mrg] using this
          have hlt : pre.length < NS.length + MS.length := by have := congrArg List.length HS.out; simp at this; omega
          have HL : Hid ((ns : List ByteArray).length + ([] : List ByteArray).length ≤ N) := by show _ ≤ _; have := HT.out.2.2.1; simp at this ⊢; omega
          have HD : Hid (NS.drop (i + 1) = ns ∧ MS.drop (MS.length) = []) := ⟨by rw [← List.drop_drop, HK.out.1]; rfl, HK.out.2⟩
          have HP : Hid ((pre ++ [⟨((i : Int), -1), .inr (.inl ⟨by omega, by simp at hi; omega, rfl⟩)⟩] : List (PQ NS.length MS.length)).map (·.1) = pre.map (·.1) ++ [((i : Int), -1)]) := by show _ = _; simp
          have hi2 : i + 1 + ns.length = NS.length := by first | (simp at hi ⊢; done) | (simp at hi ⊢; omega)
          have hj2 : MS.length + ([] : List ByteArray).length = MS.length := by first | (simp at hj ⊢; done) | (simp at hj ⊢; omega)
          obtain ⟨fn, tmps, assign, body, hy, hR⟩ := HYH.out pre ⟨((i : Int), -1), .inr (.inl ⟨by omega, by simp at hi; omega, rfl⟩)⟩ wr HT.out.1 hlt
          try dsimp only at hy
          gi_wp2
          refine ⟨fun h => (by cases h), hR.mono ?_⟩
          rintro e W3 (⟨rfl, hJ3, hk3⟩ | ⟨rfl, hJx3⟩)
          · have H3 : Hid (J (pre ++ [⟨((i : Int), -1), .inr (.inl ⟨by omega, by simp at hi; omega, rfl⟩)⟩]) W3 ∧ Below w.heap.size w W3) := ⟨hJ3, (HT.out.2.2.2).trans hk3⟩
            clear hJ3 hk3
            gi_wp2
            go_roundw
            case rel => exact ⟨i + 1, MS.length, N, ns, [], _, by go_num, by go_num, hi2, hj2, ⟨HD.out.1, HD.out.2⟩, .inl ⟨rfl, ⟨H3.out.1, by rw [HP.out, List.append_assoc]; exact HS.out, HL.out, H3.out.2⟩⟩⟩
            case measure => simp [intOf]; omega
          · have H3 : Hid (Jx (pre ++ [⟨((i : Int), -1), .inr (.inl ⟨by omega, by simp at hi; omega, rfl⟩)⟩]) W3) := hJx3
            clear hJx3
            gi_wp2
            go_roundw
            case rel => exact ⟨i + 1, MS.length, N, ns, [], _, by go_num, by go_num, hi2, hj2, ⟨HD.out.1, HD.out.2⟩, .inr ⟨rfl, ⟨H3.out, by rw [HP.out, ← HS.out]; exact ⟨_, by rw [List.append_assoc]; rfl⟩⟩⟩⟩
            case measure => simp [intOf]; omega
        | cons m ms =>
          have hja : (j : Int) < (MS.length : Int) := by simp at hj; omega
          have hj0 : (0 : Int) ≤ (j : Int) := Int.natCast_nonneg _
          have hnf : ((j : Int) == (MS.length : Int)) = false := by simp; omega
          have ea : NS[i]? = some a := by have := congrArg (·[0]?) HK.out.1; simpa using this
          have em : MS[j]? = some m := by have := congrArg (·[0]?) HK.out.2; simpa using this
          obtain ⟨g1, o1, rfl, c1⟩ := HNA.out wr i a HT.out.2.2.2 ea
          obtain ⟨g2, o2, rfl, c2⟩ := HFA.out wr j m HT.out.2.2.2 em
          have HX1 : Hid (∀ W', Below wr.heap.size wr W' → W'.cell? ⟨Bn, 0, none⟩ = some (.slice (some ⟨g1, o1, none⟩) NS.length cn) ∧ W'.cell? ⟨Bd, 0, none⟩ = some (.slice (some ⟨g2, o2, none⟩) MS.length cd) ∧ W'.cell? ⟨Bf, 0, none⟩ = some (.func (.func 91) #[] #[]) ∧ W'.cell? ⟨g1, o1 + i, none⟩ = some (.string a) ∧ W'.cell? ⟨g2, o2 + j, none⟩ = some (.string m)) := fun W' h => by
            have hb : ∀ {p : Addr} {v : Value}, wr.cell? p = some v → W'.cell? p = some v := fun {p v} hc => by
              have hp : p.block < wr.heap.size := by
                cases hh : wr.heap[p.block]? with
                | none => simp [World.cell?, hh] at hc
                | some o => exact (Array.getElem?_eq_some_iff.1 hh).1
              rw [h.cell hp]; exact hc
            exact ⟨hb r0, hb r1, hb r2, hb c1, hb c2⟩
          obtain ⟨N, rfl⟩ : ∃ N', N = N' + 1 := ⟨N - 1, by have := HT.out.2.2.1; simp at this; omega⟩
          by_cases z1 : Sp.cmpS a m < 0
          · have zb : decide (Sp.cmpS a m < 0) = true := by simp [z1]
            have HS : Hid (pre.map (·.1) ++ ((i : Int), -1) :: Sp.mrg N (i + 1) (j) (ns) (m :: ms) = M) := by show _ = _; have := HT.out.2.1; simpa [Sp.mrg, z1] using this
            have hlt : pre.length < NS.length + MS.length := by have := congrArg List.length HS.out; simp at this; omega
            have HL : Hid ((ns : List ByteArray).length + (m :: ms : List ByteArray).length ≤ N) := by show _ ≤ _; have := HT.out.2.2.1; simp at this ⊢; omega
            have HD : Hid (NS.drop (i + 1) = ns ∧ MS.drop (j) = m :: ms) := ⟨by rw [← List.drop_drop, HK.out.1]; rfl, HK.out.2⟩
            have HP : Hid ((pre ++ [⟨((i : Int), -1), .inr (.inl ⟨hi0, hia, rfl⟩)⟩] : List (PQ NS.length MS.length)).map (·.1) = pre.map (·.1) ++ [((i : Int), -1)]) := by show _ = _; simp
            have hi2 : i + 1 + ns.length = NS.length := by first | (simp at hi ⊢; done) | (simp at hi ⊢; omega)
            have hj2 : j + (m :: ms).length = MS.length := by first | (simp at hj ⊢; done) | (simp at hj ⊢; omega)
            have HYX : Hid (∀ w4, Below wr.heap.size wr w4 → Below w.heap.size w w4 ∧ YieldAt Fence.wide (n - 1) Tryz.prog l #[.int .i64 (((i : Int), -1) : Int × Int).1, .int .i64 (((i : Int), -1) : Int × Int).2] w4 fun e W' => (e = .returned (.bool true) ∧ J (pre ++ [⟨((i : Int), -1), .inr (.inl ⟨hi0, hia, rfl⟩)⟩]) W' ∧ Below w.heap.size w4 W') ∨ (e = .returned (.bool false) ∧ Jx (pre ++ [⟨((i : Int), -1), .inr (.inl ⟨hi0, hia, rfl⟩)⟩]) W')) := fun w4 h4 => ⟨HT.out.2.2.2.trans (h4.mono HT.out.2.2.2.size), HYH.out pre ⟨((i : Int), -1), .inr (.inl ⟨hi0, hia, rfl⟩)⟩ w4 (HJ.out pre wr w4 HT.out.1 h4) hlt⟩
            clear hi hj HT HK hpl ea em c1 c2
            gi_wp2
            refine wpIn_wide.2 ?_
            go_region_held3 (fun W => W.cell? ⟨Bn, 0, none⟩ = some (.slice (some ⟨g1, o1, none⟩) NS.length cn) ∧ W.cell? ⟨Bd, 0, none⟩ = some (.slice (some ⟨g2, o2, none⟩) MS.length cd) ∧ W.cell? ⟨Bf, 0, none⟩ = some (.func (.func 91) #[] #[]) ∧ W.cell? ⟨g1, o1 + i, none⟩ = some (.string a) ∧ W.cell? ⟨g2, o2 + j, none⟩ = some (.string m))
              (first | with_reducible exact HX1.out _ HB4.out | with_reducible exact HX1.out _ (Below.refl _ _).drew)
              ((go_at_call 91; refine (HWF.out _ _ _).mono ?_; rintro e w4 ⟨rfl, hb4⟩; have HB4 : Hid (Below wr.heap.size wr w4) := below_to (Below.refl _ _).drew hb4; clear hb4))
            obtain ⟨hB5, fn, tmps, assign, body, hy, hR⟩ := HYX.out w4 HB4.out
            try dsimp only at hy
            gi_wp2
            refine ⟨fun h => (by cases h), hR.mono ?_⟩
            rintro e W3 (⟨rfl, hJ3, hk3⟩ | ⟨rfl, hJx3⟩)
            · have H3 : Hid (J (pre ++ [⟨((i : Int), -1), .inr (.inl ⟨hi0, hia, rfl⟩)⟩]) W3 ∧ Below w.heap.size w W3) := ⟨hJ3, hB5.trans hk3⟩
              clear hJ3 hk3 hB5
              gi_wp2
              go_roundw
              case rel => exact ⟨i + 1, j, N, ns, m :: ms, _, by go_num, by go_num, hi2, hj2, ⟨HD.out.1, HD.out.2⟩, .inl ⟨rfl, ⟨H3.out.1, by rw [HP.out, List.append_assoc]; exact HS.out, HL.out, H3.out.2⟩⟩⟩
              case measure => simp [intOf]; omega
            · have H3 : Hid (Jx (pre ++ [⟨((i : Int), -1), .inr (.inl ⟨hi0, hia, rfl⟩)⟩]) W3) := hJx3
              clear hJx3 hB5
              gi_wp2
              go_roundw
              case rel => exact ⟨i + 1, j, N, ns, m :: ms, _, by go_num, by go_num, hi2, hj2, ⟨HD.out.1, HD.out.2⟩, .inr ⟨rfl, ⟨H3.out, by rw [HP.out, ← HS.out]; exact ⟨_, by rw [List.append_assoc]; rfl⟩⟩⟩⟩
              case measure => simp [intOf]; omega
          · by_cases z2 : 0 < Sp.cmpS a m
            · have zb : decide (Sp.cmpS a m < 0) = false := by simp [z1]
              have zc : decide (0 < Sp.cmpS a m) = true := by simp [z2]
              have HS : Hid (pre.map (·.1) ++ (-1, (j : Int)) :: Sp.mrg N (i) (j + 1) (a :: ns) (ms) = M) := by show _ = _; have := HT.out.2.1; simpa [Sp.mrg, z1, z2] using this
              have hlt : pre.length < NS.length + MS.length := by have := congrArg List.length HS.out; simp at this; omega
              have HL : Hid ((a :: ns : List ByteArray).length + (ms : List ByteArray).length ≤ N) := by show _ ≤ _; have := HT.out.2.2.1; simp at this ⊢; omega
              have HD : Hid (NS.drop (i) = a :: ns ∧ MS.drop (j + 1) = ms) := ⟨HK.out.1, by rw [← List.drop_drop, HK.out.2]; rfl⟩
              have HP : Hid ((pre ++ [⟨(-1, (j : Int)), .inl ⟨rfl, hj0, hja⟩⟩] : List (PQ NS.length MS.length)).map (·.1) = pre.map (·.1) ++ [(-1, (j : Int))]) := by show _ = _; simp
              have hi2 : i + (a :: ns).length = NS.length := by first | (simp at hi ⊢; done) | (simp at hi ⊢; omega)
              have hj2 : j + 1 + ms.length = MS.length := by first | (simp at hj ⊢; done) | (simp at hj ⊢; omega)
              have HYX : Hid (∀ w4, Below wr.heap.size wr w4 → Below w.heap.size w w4 ∧ YieldAt Fence.wide (n - 1) Tryz.prog l #[.int .i64 ((-1, (j : Int)) : Int × Int).1, .int .i64 ((-1, (j : Int)) : Int × Int).2] w4 fun e W' => (e = .returned (.bool true) ∧ J (pre ++ [⟨(-1, (j : Int)), .inl ⟨rfl, hj0, hja⟩⟩]) W' ∧ Below w.heap.size w4 W') ∨ (e = .returned (.bool false) ∧ Jx (pre ++ [⟨(-1, (j : Int)), .inl ⟨rfl, hj0, hja⟩⟩]) W')) := fun w4 h4 => ⟨HT.out.2.2.2.trans (h4.mono HT.out.2.2.2.size), HYH.out pre ⟨(-1, (j : Int)), .inl ⟨rfl, hj0, hja⟩⟩ w4 (HJ.out pre wr w4 HT.out.1 h4) hlt⟩
              clear hi hj HT HK hpl ea em c1 c2
              gi_wp2
              refine wpIn_wide.2 ?_
              go_region_held3 (fun W => W.cell? ⟨Bn, 0, none⟩ = some (.slice (some ⟨g1, o1, none⟩) NS.length cn) ∧ W.cell? ⟨Bd, 0, none⟩ = some (.slice (some ⟨g2, o2, none⟩) MS.length cd) ∧ W.cell? ⟨Bf, 0, none⟩ = some (.func (.func 91) #[] #[]) ∧ W.cell? ⟨g1, o1 + i, none⟩ = some (.string a) ∧ W.cell? ⟨g2, o2 + j, none⟩ = some (.string m))
                (first | with_reducible exact HX1.out _ HB4.out | with_reducible exact HX1.out _ (Below.refl _ _).drew)
                ((go_at_call 91; refine (HWF.out _ _ _).mono ?_; rintro e w4 ⟨rfl, hb4⟩; have HB4 : Hid (Below wr.heap.size wr w4) := below_to (Below.refl _ _).drew hb4; clear hb4))
              obtain ⟨hB5, fn, tmps, assign, body, hy, hR⟩ := HYX.out w4 HB4.out
              try dsimp only at hy
              gi_wp2
              refine ⟨fun h => (by cases h), hR.mono ?_⟩
              rintro e W3 (⟨rfl, hJ3, hk3⟩ | ⟨rfl, hJx3⟩)
              · have H3 : Hid (J (pre ++ [⟨(-1, (j : Int)), .inl ⟨rfl, hj0, hja⟩⟩]) W3 ∧ Below w.heap.size w W3) := ⟨hJ3, hB5.trans hk3⟩
                clear hJ3 hk3 hB5
                gi_wp2
                go_roundw
                case rel => exact ⟨i, j + 1, N, a :: ns, ms, _, by go_num, by go_num, hi2, hj2, ⟨HD.out.1, HD.out.2⟩, .inl ⟨rfl, ⟨H3.out.1, by rw [HP.out, List.append_assoc]; exact HS.out, HL.out, H3.out.2⟩⟩⟩
                case measure => simp [intOf]; omega
              · have H3 : Hid (Jx (pre ++ [⟨(-1, (j : Int)), .inl ⟨rfl, hj0, hja⟩⟩]) W3) := hJx3
                clear hJx3 hB5
                gi_wp2
                go_roundw
                case rel => exact ⟨i, j + 1, N, a :: ns, ms, _, by go_num, by go_num, hi2, hj2, ⟨HD.out.1, HD.out.2⟩, .inr ⟨rfl, ⟨H3.out, by rw [HP.out, ← HS.out]; exact ⟨_, by rw [List.append_assoc]; rfl⟩⟩⟩⟩
                case measure => simp [intOf]; omega
            · have zb : decide (Sp.cmpS a m < 0) = false := by simp [z1]
              have zc : decide (0 < Sp.cmpS a m) = false := by simp [z2]
              have HS : Hid (pre.map (·.1) ++ ((i : Int), (j : Int)) :: Sp.mrg N (i + 1) (j + 1) (ns) (ms) = M) := by show _ = _; have := HT.out.2.1; simpa [Sp.mrg, z1, z2] using this
              have hlt : pre.length < NS.length + MS.length := by have := congrArg List.length HS.out; simp at this; omega
              have HL : Hid ((ns : List ByteArray).length + (ms : List ByteArray).length ≤ N) := by show _ ≤ _; have := HT.out.2.2.1; simp at this ⊢; omega
              have HD : Hid (NS.drop (i + 1) = ns ∧ MS.drop (j + 1) = ms) := ⟨by rw [← List.drop_drop, HK.out.1]; rfl, by rw [← List.drop_drop, HK.out.2]; rfl⟩
              have HP : Hid ((pre ++ [⟨((i : Int), (j : Int)), .inr (.inr ⟨hi0, hia, hj0, hja⟩)⟩] : List (PQ NS.length MS.length)).map (·.1) = pre.map (·.1) ++ [((i : Int), (j : Int))]) := by show _ = _; simp
              have hi2 : i + 1 + ns.length = NS.length := by first | (simp at hi ⊢; done) | (simp at hi ⊢; omega)
              have hj2 : j + 1 + ms.length = MS.length := by first | (simp at hj ⊢; done) | (simp at hj ⊢; omega)
              have HYX : Hid (∀ w4, Below wr.heap.size wr w4 → Below w.heap.size w w4 ∧ YieldAt Fence.wide (n - 1) Tryz.prog l #[.int .i64 (((i : Int), (j : Int)) : Int × Int).1, .int .i64 (((i : Int), (j : Int)) : Int × Int).2] w4 fun e W' => (e = .returned (.bool true) ∧ J (pre ++ [⟨((i : Int), (j : Int)), .inr (.inr ⟨hi0, hia, hj0, hja⟩)⟩]) W' ∧ Below w.heap.size w4 W') ∨ (e = .returned (.bool false) ∧ Jx (pre ++ [⟨((i : Int), (j : Int)), .inr (.inr ⟨hi0, hia, hj0, hja⟩)⟩]) W')) := fun w4 h4 => ⟨HT.out.2.2.2.trans (h4.mono HT.out.2.2.2.size), HYH.out pre ⟨((i : Int), (j : Int)), .inr (.inr ⟨hi0, hia, hj0, hja⟩)⟩ w4 (HJ.out pre wr w4 HT.out.1 h4) hlt⟩
              clear hi hj HT HK hpl ea em c1 c2
              gi_wp2
              refine wpIn_wide.2 ?_
              go_region_held3 (fun W => W.cell? ⟨Bn, 0, none⟩ = some (.slice (some ⟨g1, o1, none⟩) NS.length cn) ∧ W.cell? ⟨Bd, 0, none⟩ = some (.slice (some ⟨g2, o2, none⟩) MS.length cd) ∧ W.cell? ⟨Bf, 0, none⟩ = some (.func (.func 91) #[] #[]) ∧ W.cell? ⟨g1, o1 + i, none⟩ = some (.string a) ∧ W.cell? ⟨g2, o2 + j, none⟩ = some (.string m))
                (first | with_reducible exact HX1.out _ HB4.out | with_reducible exact HX1.out _ (Below.refl _ _).drew)
                ((go_at_call 91; refine (HWF.out _ _ _).mono ?_; rintro e w4 ⟨rfl, hb4⟩; have HB4 : Hid (Below wr.heap.size wr w4) := below_to (Below.refl _ _).drew hb4; clear hb4))
              obtain ⟨hB5, fn, tmps, assign, body, hy, hR⟩ := HYX.out w4 HB4.out
              try dsimp only at hy
              gi_wp2
              refine ⟨fun h => (by cases h), hR.mono ?_⟩
              rintro e W3 (⟨rfl, hJ3, hk3⟩ | ⟨rfl, hJx3⟩)
              · have H3 : Hid (J (pre ++ [⟨((i : Int), (j : Int)), .inr (.inr ⟨hi0, hia, hj0, hja⟩)⟩]) W3 ∧ Below w.heap.size w W3) := ⟨hJ3, hB5.trans hk3⟩
                clear hJ3 hk3 hB5
                gi_wp2
                go_roundw
                case rel => exact ⟨i + 1, j + 1, N, ns, ms, _, by go_num, by go_num, hi2, hj2, ⟨HD.out.1, HD.out.2⟩, .inl ⟨rfl, ⟨H3.out.1, by rw [HP.out, List.append_assoc]; exact HS.out, HL.out, H3.out.2⟩⟩⟩
                case measure => simp [intOf]; omega
              · have H3 : Hid (Jx (pre ++ [⟨((i : Int), (j : Int)), .inr (.inr ⟨hi0, hia, hj0, hja⟩)⟩]) W3) := hJx3
                clear hJx3 hB5
                gi_wp2
                go_roundw
                case rel => exact ⟨i + 1, j + 1, N, ns, ms, _, by go_num, by go_num, hi2, hj2, ⟨HD.out.1, HD.out.2⟩, .inr ⟨rfl, ⟨H3.out, by rw [HP.out, ← HS.out]; exact ⟨_, by rw [List.append_assoc]; rfl⟩⟩⟩⟩
                case measure => simp [intOf]; omega
    · gi_wp2
      all_goals first
        | (go_end0; exact ⟨⟨_, rfl⟩, .inr ⟨pre, HX.out.2, HX.out.1⟩⟩)
        | (rename_i h1 h2; exact absurd h1 (by simp [undef]))
end Go.Proofs.YtjdjpbdfchhcfaaGreat

