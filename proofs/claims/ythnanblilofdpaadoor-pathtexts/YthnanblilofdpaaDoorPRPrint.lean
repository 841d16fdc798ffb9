/- A way's text, as the document has it: tenonref04.Print. -/
import Derived.Test.YthnanblilofdpaaDoorPCan
import Derived.Test.YthnanblilofdpaaDoorPPrint
import Derived.Test.YthnanblilofdpaaDoorPParse
namespace Go.Proofs.YthnanblilofdpaaDoor
open Go.RowKit

theorem own_slice_n {w : World} {B : Nat} {e : TypeId} {size n : Nat} {v : Value} {xs : List Value} (h : w.ownsRow B e size v n xs) : ∃ a c, v = .slice a n c := by
  rcases h.2 with ⟨e, e0⟩ | ⟨g, c, cur, e, _⟩
  · exact ⟨none, 0, by rw [e, e0]⟩
  · exact ⟨_, _, e⟩
theorem byte_new (W : World) (c : UInt8) {n : Nat} (hn : n = W.heap.size) {k : Int} (hk : k = (c.toNat : Int)) {T : TypeId} : ∀ j u, (Sp.u8c [c])[j]? = some u → (W.alloc (.cells #[.int .u8 k] T)).cell? ((⟨n, 0, none⟩ : Addr).add j) = some u := by
  subst hn hk
  intro j u hu
  rw [addr_add]
  match j, hu with
  | 0, hu => simp [Sp.u8c] at hu; subst hu; simp
  | j + 1, hu => simp [Sp.u8c] at hu

/-- a row of bytes of one's own -/
def Byts (w : World) (base : Nat) (a : Option Addr) (m cap : Nat) (l : List UInt8) : Prop := m = l.length ∧ w.ownsRow base 5 1 (.slice a m cap) m (Sp.u8c l)
theorem Byts.grow {w w' : World} {base : Nat} {a : Option Addr} {m cap g cap' : Nat} {l : List UInt8} {c : UInt8} (h : Byts w base a m cap l) (h' : w'.ownsRow base 5 1 (.slice (some ⟨g, 0, none⟩) (m + 1) cap') (m + 1) (Sp.u8c l ++ Sp.u8c [c])) : Byts w' base (some ⟨g, 0, none⟩) (m + 1) cap' (l ++ [c]) :=
  ⟨by rw [List.length_append, h.1]; rfl, by rw [u8c_app]; exact h'⟩
theorem Byts.str {w w' : World} {base : Nat} {a a' : Option Addr} {m cap cap' : Nat} {l : List UInt8} {s : ByteArray} (h : Byts w base a m cap l) (h' : w'.ownsRow base 5 1 (.slice a' (m + s.size) cap') (m + s.size) (Sp.u8c l ++ Lib.strCells s)) : Byts w' base a' (m + s.size) cap' (l ++ s.data.toList) :=
  ⟨by rw [List.length_append, h.1, Array.length_toList]; rfl, by rw [u8c_app]; exact h'⟩
theorem Byts.conv {w w' : World} {base : Nat} {a : Option Addr} {m cap : Nat} {l : List UInt8} (h : Byts w base a m cap l) (hw : Below w.heap.size w w') : (convert 35 9 (.slice a m cap)).run Tryd.prog w' = .ok (.string ⟨l.toArray⟩) w' := by
  obtain ⟨h1, h2⟩ := h
  have h2' := own_on h2 hw
  rcases h2'.2 with ⟨e, e0⟩ | ⟨g, c, cur, e, _⟩
  · injection e with e1 e2 e3
    subst e1 e3 e0
    have : l = [] := List.length_eq_zero_iff.1 h1.symm
    subst this
    exact conv_none w'
  · injection e with e1 e2 e3
    subst e1
    rw [h1]
    refine conv_row l g 0 cap w' (fun j u hu => ?_)
    have := h2'.cells (g := g) rfl j _ (u8c_at l j u hu)
    rw [addr_add] at this
    exact this

set_option maxRecDepth 100000 in
set_option maxHeartbeats 4000000 in
theorem rPrint_any (l : List Stp) (a : Option Addr) (cap b : Nat) (w : World) (hb : b ≤ w.heap.size) (h : Rdw w b a l) (hl : l.length ≤ maxLen) :
    Calls Tryd.prog 6 #[.slice a l.length cap] w fun e w' => e = .returned (.tuple #[.string ⟨(Sp.wtext l).toArray⟩, .int .i64 (Sp.wayR l)]) ∧ Below w.heap.size w w' := by
  obtain ⟨i0, hi, hz0, hz1, hz2⟩ := info_parts Tryd.infoB
  have HC : Hid (Calls Tryd.prog 13 #[.slice a l.length cap] w fun e w' => e = .returned (.int .i64 (Sp.wayR l)) ∧ Below w.heap.size w w') := Can_any l a cap b w hb h hl
  by_cases hr : Sp.wayR l = 0
  · have hl64 : l.length ≤ 64 := by
      rcases Nat.lt_or_ge 64 l.length with h' | h'
      · rw [Sp.wayR, if_pos h'] at hr; omega
      · exact h'
    have HR : Hid (Rdw w b a l ∧ Sp.rules l = 0) := ⟨h, by rw [Sp.wayR, if_neg (by omega)] at hr; exact hr⟩
    have HX : Hid (Sp.wtext l = Sp.wtxt l l.length) := by show _ = _; rw [Sp.wtext, if_pos hr]
    rw [hr] at HC ⊢
    clear hr h
    go_enter Tryd.func6, Tryd.ntmps6
    go_wp2_with fail
    refine HC.out.mono ?_
    rintro e w1 ⟨rfl, hb1⟩
    have HB1 : Hid (Below w.heap.size w w1) := hb1
    clear hb1
    go_wp2_with fail
    go_loopw [5, 6] (fun u i wr => ∃ (k : Nat) (a5 : Option Addr) (m cap5 : Nat), k ≤ l.length ∧ i = .int .i64 (k : Int) ∧ u = .slice a5 m cap5 ∧ m ≤ 4096 ∧ Hid (Byts wr w.heap.size a5 m cap5 (Sp.wtxt l k)) ∧ Hid (Below w.heap.size w wr)) (fun _ i _ => l.length - (intOf i).toNat)
    case atStart => exact ⟨0, none, 0, 0, by omega, rfl, rfl, by omega, ⟨rfl, rfl, .inl ⟨rfl, rfl⟩⟩, HB1⟩
    case round =>
      obtain ⟨k, a5, m, cap5, hk, rfl, rfl, hm, HK, HB⟩ := hrel
      have HZ : Hid (w.heap.size ≤ wr.heap.size) := HB.out.size
      by_cases hlt : k < l.length
      · obtain ⟨g, o, rfl, hg, c0, c1, c2, hnm⟩ := (HR.out.1.on (HB.out.mono hb) (Nat.le_refl _)) k l[k] (List.getElem?_eq_getElem hlt)
        have HT : Hid (Sp.wtxt l (k + 1) = Sp.wtxt l k ++ l[k].txt k) := Sp.wtxt_succ l k hlt
        have HL : Hid ((Sp.wtxt l (k + 1)).length ≤ 4096) := by
          have := wtxt_len l HR.out.2 (k + 1) (by omega)
          show _ ≤ _
          omega
        have HU : Hid (l[k].rule = 0) := Sp.rules_all HR.out.2 _ (List.getElem_mem _)
        have HCL : Hid (∀ W, Below w.heap.size w W → W.cell? ⟨g, o + k * 3, none⟩ = some (.string l[k].name) ∧ W.cell? ⟨g, o + k * 3 + 1, none⟩ = some (.bool l[k].at') ∧ W.cell? ⟨g, o + k * 3 + 2, none⟩ = some (.int .i64 l[k].idx)) := fun W hW => by
          obtain ⟨g', o', e, hg', d0, d1, d2, _⟩ := (HR.out.1.on (hW.mono hb) (Nat.le_refl _)) k l[k] (List.getElem?_eq_getElem hlt)
          simp only [Option.some.injEq, Addr.mk.injEq, and_true] at e
          obtain ⟨rfl, rfl⟩ := e
          exact ⟨d0, d1, d2⟩
        generalize l[k] = x at c0 c1 c2 HT HU hnm HCL
        obtain ⟨n, t, i⟩ := x
        simp only at c0 c1 c2 hnm HCL
        cases t with
        | true =>
          obtain ⟨_, i1, i2⟩ := Stp.rule_at HU.out rfl
          simp only at i1 i2
          obtain ⟨I, hI, HI⟩ : ∃ I : ByteArray, I.size ≤ 21 ∧ Hid (I = ⟨(Lib.itoa i).toArray⟩) := ⟨_, by
            show (Lib.itoa i).toArray.size ≤ 21
            rw [List.size_toArray]; exact Lib.itoa_length_le i (by omega) (by omega), rfl⟩
          have HCI : Hid (∀ W, Calls Tryd.prog 14 #[.int .i64 i] W fun e w' => e = .returned (.string I) ∧ Below W.heap.size W w') := fun W => by rw [HI.out]; exact Int_any i W i1 i2
          have HTX : Hid (Sp.wtxt l (k + 1) = Sp.wtxt l k ++ [(91 : UInt8)] ++ I.data.toList ++ [(93 : UInt8)]) := by show _ = _; rw [HT.out, HI.out]; simp [Stp.txt]
          go_wp2_with (at_builtin; refine wpList_app _ rfl _ _ 35 rfl w.heap.size 5 i0 (.int .u8 0) 1 1 Tryd.undB hi hz0 hz1 hz2 rfl (by decide) _ m (Sp.u8c (Sp.wtxt l k)) rfl (HK.out.2.alloc _) ⟨wr.heap.size, 0, none⟩ 1 1 (Sp.u8c [(91 : UInt8)]) rfl rfl (byte_new _ (91 : UInt8) rfl rfl) (u8c_one _) (by decide) (by unfold maxLen; omega) (by omega) (by have := HB.out.size; simp; omega) ?_; intro g2 p2 w2 hown hgrow hor; have HK2 : Hid (Byts w2 w.heap.size (some ⟨g2, 0, none⟩) (m + 1) p2 (Sp.wtxt l k ++ [(91 : UInt8)])) := HK.out.grow hown; have HB2 : Hid (Below w.heap.size w w2) := (HB.out.alloc HB.out.size _).grown hgrow (by have := HB.out.size; simp; omega) (fun q hq => own_ge HK.out.2 hq); obtain ⟨f0, f1, f2⟩ := HCL.out w2 HB2.out; clear hown hgrow hor)
          refine (HCI.out _).mono ?_
          rintro e w3 ⟨rfl, hb3⟩
          have HK3 : Hid (Byts w3 w.heap.size (some ⟨g2, 0, none⟩) (m + 1) p2 (Sp.wtxt l k ++ [(91 : UInt8)])) := ⟨HK2.out.1, own_on HK2.out.2 hb3⟩
          have HB3 : Hid (Below w.heap.size w w3) := below_to HB2.out hb3
          clear hb3 HK2 f0 f1 f2
          obtain ⟨f0, f1, f2⟩ := HCL.out w3 HB3.out
          go_wp2_with (first | (at_builtin; have hq := HK4.out; refine wpList_app _ rfl _ _ 35 rfl w.heap.size 5 i0 (.int .u8 0) 1 1 Tryd.undB hi hz0 hz1 hz2 rfl (by decide) _ (m + 1 + I.size) (Sp.u8c (Sp.wtxt l k ++ [(91 : UInt8)] ++ I.data.toList)) rfl (HK4.out.2.alloc _) ⟨w4.heap.size, 0, none⟩ 1 1 (Sp.u8c [(93 : UInt8)]) rfl rfl (byte_new _ (93 : UInt8) rfl rfl) (u8c_one _) (by decide) (by unfold maxLen; omega) (by omega) (by have := HB4.out.size; simp; omega) ?_; intro g5 p5 w5 hown hgrow hor; have HK5 : Hid (Byts w5 w.heap.size (some ⟨g5, 0, none⟩) ((m + 1 + I.size) + 1) p5 (Sp.wtxt l k ++ [(91 : UInt8)] ++ I.data.toList ++ [(93 : UInt8)])) := HK4.out.grow hown; have HB5 : Hid (Below w.heap.size w w5) := (HB4.out.alloc HB4.out.size _).grown hgrow (by have := HB4.out.size; simp; omega) (fun q hq => own_ge HK4.out.2 hq); obtain ⟨f0, f1, f2⟩ := HCL.out w5 HB5.out; clear hown hgrow hor) | (at_builtin; refine Lib.wpList_append_own_string _ rfl _ _ 35 9 rfl w.heap.size 5 i0 Tryd.undB Tryd.undSd hi hz0 hz1 hz2 _ _ _ rfl HK3.out.2 I rfl (by unfold maxLen; omega) (by omega) HB3.out.size ?_; intro v4 w4 hown hgrow hor; obtain ⟨a4, p4, rfl⟩ := own_slice_n hown; have HK4 : Hid (Byts w4 w.heap.size a4 ((m + 1) + I.size) p4 (Sp.wtxt l k ++ [(91 : UInt8)] ++ I.data.toList)) := HK3.out.str hown; have HB4 : Hid (Below w.heap.size w w4) := HB3.out.grown hgrow HB3.out.size (fun q hq => own_ge HK3.out.2 hq); obtain ⟨f0, f1, f2⟩ := HCL.out w4 HB4.out; clear hown hgrow hor))
          go_roundw
          case rel =>
            refine ⟨k + 1, _, m + 1 + I.size + 1, p5, by omega, by go_num, rfl, ?_, ?_, HB5⟩
            · have e1 := HK5.out.1
              rw [← HTX.out] at e1
              have e2 := HL.out
              omega
            · show Byts _ _ _ _ _ _
              rw [HTX.out]; exact HK5.out
          case measure => simp [intOf]; omega
        | false =>
          have HN : Hid (n.size ≤ 32) := (Sp.isNm_size (Stp.rule_nm HU.out rfl).1).2
          have hn32 := HN.out
          by_cases hk0 : k = 0
          · have hk0' : ¬ (0 : Int) < (k : Int) := by omega
            have HTX : Hid (Sp.wtxt l (k + 1) = Sp.wtxt l k ++ n.data.toList) := by show _ = _; rw [HT.out]; simp [Stp.txt, hk0]
            clear hk0
            go_wp2_with (at_builtin; refine Lib.wpList_append_own_string _ rfl _ _ 35 9 rfl w.heap.size 5 i0 Tryd.undB Tryd.undSd hi hz0 hz1 hz2 _ _ _ rfl HK.out.2 n rfl (by unfold maxLen; omega) (by omega) HB.out.size ?_; intro v4 w4 hown hgrow hor; obtain ⟨a4, p4, rfl⟩ := own_slice_n hown; have HK4 : Hid (Byts w4 w.heap.size a4 (m + n.size) p4 (Sp.wtxt l k ++ n.data.toList)) := HK.out.str hown; have HB4 : Hid (Below w.heap.size w w4) := HB.out.grown hgrow HB.out.size (fun q hq => own_ge HK.out.2 hq); obtain ⟨f0, f1, f2⟩ := HCL.out w4 HB4.out; clear hown hgrow hor)
            go_roundw
            case rel =>
              refine ⟨k + 1, _, m + n.size, p4, by omega, by go_num, rfl, ?_, ?_, HB4⟩
              · have e1 := HK4.out.1
                rw [← HTX.out] at e1
                have e2 := HL.out
                omega
              · show Byts _ _ _ _ _ _
                rw [HTX.out]; exact HK4.out
            case measure => simp [intOf]; omega
          · have hk0' : (0 : Int) < (k : Int) := by omega
            have HTX : Hid (Sp.wtxt l (k + 1) = Sp.wtxt l k ++ [(46 : UInt8)] ++ n.data.toList) := by show _ = _; rw [HT.out]; simp [Stp.txt, hk0]
            clear hk0
            go_wp2_with (first | (at_builtin; have hq := HK2.out; refine Lib.wpList_append_own_string _ rfl _ _ 35 9 rfl w.heap.size 5 i0 Tryd.undB Tryd.undSd hi hz0 hz1 hz2 _ _ _ rfl HK2.out.2 n rfl (by unfold maxLen; omega) (by omega) HB2.out.size ?_; intro v4 w4 hown hgrow hor; obtain ⟨a4, p4, rfl⟩ := own_slice_n hown; have HK4 : Hid (Byts w4 w.heap.size a4 ((m + 1) + n.size) p4 (Sp.wtxt l k ++ [(46 : UInt8)] ++ n.data.toList)) := HK2.out.str hown; have HB4 : Hid (Below w.heap.size w w4) := HB2.out.grown hgrow HB2.out.size (fun q hq => own_ge HK2.out.2 hq); obtain ⟨f0, f1, f2⟩ := HCL.out w4 HB4.out; clear hown hgrow hor) | (at_builtin; refine wpList_app _ rfl _ _ 35 rfl w.heap.size 5 i0 (.int .u8 0) 1 1 Tryd.undB hi hz0 hz1 hz2 rfl (by decide) _ m (Sp.u8c (Sp.wtxt l k)) rfl (HK.out.2.alloc _) ⟨wr.heap.size, 0, none⟩ 1 1 (Sp.u8c [(46 : UInt8)]) rfl rfl (byte_new _ (46 : UInt8) rfl rfl) (u8c_one _) (by decide) (by unfold maxLen; omega) (by omega) (by have := HB.out.size; simp; omega) ?_; intro g2 p2 w2 hown hgrow hor; have HK2 : Hid (Byts w2 w.heap.size (some ⟨g2, 0, none⟩) (m + 1) p2 (Sp.wtxt l k ++ [(46 : UInt8)])) := HK.out.grow hown; have HB2 : Hid (Below w.heap.size w w2) := (HB.out.alloc HB.out.size _).grown hgrow (by have := HB.out.size; simp; omega) (fun q hq => own_ge HK.out.2 hq); obtain ⟨f0, f1, f2⟩ := HCL.out w2 HB2.out; clear hown hgrow hor))
            go_roundw
            case rel =>
              refine ⟨k + 1, _, m + 1 + n.size, p4, by omega, by go_num, rfl, ?_, ?_, HB4⟩
              · have e1 := HK4.out.1
                rw [← HTX.out] at e1
                have e2 := HL.out
                omega
              · show Byts _ _ _ _ _ _
                rw [HTX.out]; exact HK4.out
            case measure => simp [intOf]; omega
      · have HD : Hid (Sp.wtxt l k = Sp.wtext l) := by show _ = _; rw [HX.out, show k = l.length by omega]
        have hcv := HK.out.conv (Below.refl _ _)
        rw [HD.out] at hcv
        go_wp2_with fail
        go_ret2
        exact ⟨rfl, HB.out⟩
  · have hr' : (Sp.wayR l != 0) = true := by simpa using hr
    have HX : Hid (Sp.wtext l = []) := by show _ = _; rw [Sp.wtext, if_neg hr]
    clear hr h
    go_enter Tryd.func6, Tryd.ntmps6
    go_wp2_with fail
    refine HC.out.mono ?_
    rintro e w1 ⟨rfl, hb1⟩
    have HB1 : Hid (Below w.heap.size w w1) := hb1
    clear hb1
    go_wp2_with fail
    go_ret2
    exact ⟨by rw [HX.out]; rfl, HB1.out⟩
end Go.Proofs.YthnanblilofdpaaDoor
