/- tenonmake.Built at dicts, records and bytes; and at every term. -/
import Derived.Test.YtjdjpbdfchhcfaaGreatKE5
import Derived.Deep.AppendSrc
namespace Go.Proofs.YtjdjpbdfchhcfaaGreat
open Go.RowKit

theorem Fr.up {w w1 w' : World} (h : w.heap.size ≤ w1.heap.size) : ∀ k, Fr w1 w' k → Fr w w' k := fun _ hk => ⟨Nat.le_trans h hk.1, hk.2⟩

theorem dict_later (N : Nat) (HC : BuiltC N) (af : Option Addr) (L : TmF) (cf : Nat) (w : World) (hN : L.sz ≤ N) (B : Nat → Prop) (hB : Sub B w) (hL : L.In w B af 0) (hlen : L.len * 168 ≤ 140737488355328) : ∀ W, Below w.heap.size w W → Calls Tryz.prog 33 #[.slice af L.len cf] W fun e w' => ∃ a cap, e = .returned (.slice a L.len cap) ∧ Below W.heap.size W w' ∧ L.LV w' (Fr W w') a cap :=
  fun W hW => dict_made N HC af L cf W hN B (hB.later hW) (L.In_same (hB.same hW) (fun _ h => h) af 0 hL) hlen

set_option maxRecDepth 100000 in
set_option maxHeartbeats 1000000 in
theorem built_9 (N : Nat) (HC : BuiltC N) (b : Bool) (i : Int) (f : Nat) (tx : ByteArray) (vb : Value) (rf : Int) (vl : Value) (af : Option Addr) (L : TmF) (cf : Nat) (c : ByteArray) (vr : Int) (w : World) (hN : L.sz ≤ N) (B : Nat → Prop) (hB : Sub B w) (hL : L.In w B af 0) (hlen : L.len * 168 ≤ 140737488355328) : Calls Tryz.prog 14 #[.agg (tcells 9 b i f tx vb rf vl (.slice af L.len cf) c vr)] w fun e w' => ∃ a cap, e = .returned (.iface 73 (.slice a L.len cap)) ∧ Below w.heap.size w w' ∧ L.LV w' (Fr w w') a cap := by
  have HD := dict_later N HC af L cf w hN B hB hL hlen
  have HD : Hid _ := HD
  clear HC hL
  unfold tcells
  go_enter Tryz.func14, Tryz.ntmps14
  go_wp2_with (go_at_call 33; refine (HD.out _ ?_).mono ?_; exact (Below.refl _ _).alloc (Nat.le_refl _) _; rintro e w1 ⟨a, cap, rfl, hb1, hv⟩)
  go_ret
  exact ⟨a, cap, rfl, ((Below.refl _ _).alloc (Nat.le_refl _) _).trans (hb1.mono (by simp)), L.LV_same (Same.refl _ _) (Fr.up (by simp)) a cap hv⟩

set_option maxRecDepth 100000 in
set_option maxHeartbeats 1000000 in
theorem built_10 (N : Nat) (HC : BuiltC N) (b : Bool) (i : Int) (f : Nat) (tx : ByteArray) (vb : Value) (rf : Int) (vl : Value) (af : Option Addr) (L : TmF) (cf : Nat) (c : ByteArray) (vr : Int) (w : World) (hN : L.sz ≤ N) (B : Nat → Prop) (hB : Sub B w) (hL : L.In w B af 0) (hlen : L.len * 168 ≤ 140737488355328) : Calls Tryz.prog 14 #[.agg (tcells 10 b i f tx vb rf vl (.slice af L.len cf) c vr)] w fun e w' => ∃ g a cap, e = .returned (.iface 75 (.pointer (some ⟨g, 0, none⟩))) ∧ Below w.heap.size w w' ∧ Fr w w' g ∧ w'.cell? ⟨g, 0, none⟩ = some (.string c) ∧ w'.cell? ⟨g, 1, none⟩ = some (.int .i64 vr) ∧ w'.cell? ⟨g, 2, none⟩ = some (.slice a L.len cap) ∧ L.RV w' (Fr w w') g a cap := by
  have HD := dict_later N HC af L cf w hN B hB hL hlen
  have HD : Hid _ := HD
  clear HC hL
  unfold tcells
  go_enter Tryz.func14, Tryz.ntmps14
  go_wp2_with fail
  go_region_held3 (fun W => W.cell? ⟨w.heap.size, 8, none⟩ = some (.slice af L.len cf) ∧ W.cell? ⟨w.heap.size, 9, none⟩ = some (.string c) ∧ W.cell? ⟨w.heap.size, 10, none⟩ = some (.int .i64 vr))
    (first | go_keep | (refine ⟨?_, ?_, ?_⟩ <;> (rw [hb1.cell (by simp)]; simp)))
    ((first | (go_at_call 33; refine (HD.out _ ?_).mono ?_; exact ((Below.refl _ _).alloc (Nat.le_refl _) _).drew; rintro e w1 ⟨a, cap, rfl, hb1, hv⟩)))
  go_wp2_with fail
  go_ret
  have hz : w.heap.size + 1 ≤ w1.heap.size := by have := hb1.size; simpa using this
  have hbw : Below w.heap.size w w1 := (((Below.refl _ _).alloc (Nat.le_refl _) _).drew).trans (hb1.mono (by simp))
  refine ⟨w1.heap.size, a, cap, rfl, hbw.alloc (by omega) _, ⟨by omega, by simp⟩, by simp, by simp, by simp, ⟨_, heap_alloc_new _ _⟩, L.LV_same (B' := Fr w (w1.alloc _)) (fun k hk => Below.heap_alloc _ _ _ hk.2) (fun k hk => ⟨by have := hk.1; simp at this; omega, by have := hk.2; simp; omega⟩) a cap hv⟩

def bcells (l : ByteArray) : List Value := (List.range l.size).map fun j => .int .u8 (Sp.byte l j)
theorem bcells_at (l : ByteArray) (j : Nat) (u : Value) (h : (bcells l)[j]? = some u) : j < l.size ∧ u = .int .u8 (Sp.byte l j) := by
  unfold bcells at h
  rw [List.getElem?_map] at h
  have hj : j < l.size := by
    rcases Nat.lt_or_ge j l.size with hj | hj
    · exact hj
    · rw [List.getElem?_eq_none (by simpa using hj)] at h; simp at h
  rw [List.getElem?_range hj] at h
  simp at h
  exact ⟨hj, h.symm⟩
theorem addr_add (b o n : Nat) : (⟨b, o, none⟩ : Addr).add n = ⟨b, o + n, none⟩ := by
  unfold Addr.add; split
  · rename_i h; rw [h]; rfl
  · rfl
theorem bcells_one (l : ByteArray) : ∀ u ∈ bcells l, u.oneCell' = true := by
  intro u hu; simp [bcells] at hu; obtain ⟨j, _, rfl⟩ := hu; rfl

set_option maxRecDepth 100000 in
set_option maxHeartbeats 1000000 in
theorem built_6 (b : Bool) (i : Int) (f : Nat) (tx : ByteArray) (ab : Option Addr) (L : ByteArray) (cb : Nat) (rf : Int) (vl vf : Value) (c : ByteArray) (vr : Int) (w : World) (B : Nat → Prop) (hB : Sub B w) (hl : BytesAt w B ab L) (hlen : L.size ≤ 140737488355328) :
    Calls Tryz.prog 14 #[.agg (tcells 6 b i f tx (.slice ab L.size cb) rf vl vf c vr)] w fun e w' => ∃ a cap, e = .returned (.iface 23 (.slice a L.size cap)) ∧ Below w.heap.size w w' ∧ BytesLV w' (Fr w w') a L cap := by
  obtain ⟨i0, hi, hz0, hz1, hz2⟩ := info_parts Tryz.infoB
  unfold tcells
  by_cases h0 : L.size = 0
  · have hl' : Hid (∀ W S a, BytesAt W S a L) := fun W S a j hj => by omega
    have hs0 : L.size = 0 := h0
    unfold BytesLV
    rw [h0]
    clear h0 hl hlen
    go_enter Tryz.func14, Tryz.ntmps14
    go_wp2_with (at_builtin; refine wpList_ran _ rfl _ _ 23 rfl _ _ _ _ rfl rfl (app_zero _ _ _ _ _) ?_)
    go_ret
    exact ⟨_, _, rfl, ((Below.refl _ _).alloc (Nat.le_refl _) _).alloc (by simp) _, Ln.of (base := 0) (xs := []) ⟨rfl, .inr ⟨w.heap.size + 1, 0, #[], rfl, Nat.zero_le _, by simpa using heap_alloc_new (w.alloc _) (.cells #[] 5), Nat.le_refl _, by simp [maxLen], rfl, rfl⟩⟩ (fun g o p e => by injection e with e; injection e with e; subst e; exact ⟨by omega, by simp⟩), hl'.out _ _ _⟩
  · obtain ⟨g, o, rfl, hg, _⟩ := hl 0 (by omega)
    have hg := hB _ hg
    have h0 : 0 < L.size := by omega
    have hc' : Hid (∀ W, Below w.heap.size w W → ∀ j u, (bcells L)[j]? = some u → W.cell? ((⟨g, o, none⟩ : Addr).add j) = some u) := fun W hW j u hj => by
      obtain ⟨hj', rfl⟩ := bcells_at L j u hj
      obtain ⟨g', o', e, _, hc⟩ := hl j hj'
      simp only [Option.some.injEq, Addr.mk.injEq, and_true] at e
      obtain ⟨rfl, rfl⟩ := e
      rw [addr_add, hW.cell (p := ⟨g, o + j, none⟩) (by show g < _; omega)]; exact hc
    clear hl
    go_enter Tryz.func14, Tryz.ntmps14
    go_wp2_with (at_builtin; refine wpList_app _ rfl _ _ 23 rfl (w.heap.size + 1) 5 i0 (.int .u8 0) 1 1 Tryz.undB hi hz0 hz1 hz2 rfl (by decide) _ 0 [] rfl ⟨rfl, .inr ⟨w.heap.size + 1, 0, #[], rfl, Nat.le_refl _, by simpa using heap_alloc_new (w.alloc _) (.cells #[] 5), Nat.le_refl _, by simp [maxLen], rfl, rfl⟩⟩ ⟨g, o, none⟩ L.size cb (bcells L) rfl (by simp [bcells]) (hc'.out _ (((Below.refl _ _).alloc (Nat.le_refl _) _).alloc (by simp) _)) (bcells_one L) h0 (by unfold maxLen; omega) (by omega) (by simp) ?_; intro g' cap' w3 hown' hgrow hor)
    go_wp2_with fail
    go_ret
    have hlt := hown'.lt g' rfl
    have hbw : Below w.heap.size w w3 := (((Below.refl _ _).alloc (Nat.le_refl _) _).alloc (by simp) _).grown hgrow (by simp; omega) (fun k e => by have e' : some (w.heap.size + 1) = some k := e; injection e' with e'; omega)
    refine ⟨some ⟨g', 0, none⟩, cap', by simp, hbw, Ln.of (by simpa using hown') (fun g o p e => by injection e with e; injection e with e; subst e; exact ⟨by omega, hlt.2⟩), ?_⟩
    intro j hj
    refine ⟨g', 0, rfl, ⟨by omega, hlt.2⟩, ?_⟩
    have hc2 := hown'.cells (g := g') rfl j (.int .u8 (Sp.byte L j)) (by simp [bcells, hj])
    rw [addr_add] at hc2; exact hc2

set_option maxHeartbeats 1000000 in
theorem built_any (N : Nat) : BuiltC N := by
  induction N with
  | zero => intro t ht; cases t; simp [Tm.sz] at ht
  | succ N ih =>
    intro t hN cs B w h hB
    cases t with
    | mk k b i f tx by' rf l fs c vr =>
      have hlN : l.sz ≤ N ∧ fs.sz ≤ N := by simp [Tm.sz] at hN; omega
      simp only [Tm.In] at h
      obtain ⟨ab, cb, al, cl, af, cf, rfl, hbd, hby, hl, hfs⟩ := h
      have htx : tx.size ≤ maxLen := by unfold maxLen; have := hbd.tx; omega
      have hcl : c.size ≤ maxLen := by unfold maxLen; have := hbd.c; omega
      by_cases k1 : k = 1
      · subst k1; refine (built_1 b i f tx _ rf _ _ c vr w).mono ?_
        rintro e w' ⟨rfl, hb⟩; exact ⟨_, rfl, hb, by simp [Tm.V]⟩
      by_cases k2 : k = 2
      · subst k2; refine (built_2 b i f tx _ rf _ _ c vr w).mono ?_
        rintro e w' ⟨rfl, hb⟩; exact ⟨_, rfl, hb, by simp [Tm.V]⟩
      by_cases k3 : k = 3
      · subst k3; refine (built_3 b i f tx _ rf _ _ c vr w).mono ?_
        rintro e w' ⟨rfl, hb⟩; exact ⟨_, rfl, hb, by simp [Tm.V]⟩
      by_cases k4 : k = 4
      · subst k4; refine (built_4 b i f tx _ rf _ _ c vr w).mono ?_
        rintro e w' ⟨rfl, hb⟩; exact ⟨_, rfl, hb, by simp [Tm.V, hbd.f1]⟩
      by_cases k5 : k = 5
      · subst k5; refine (built_5 b i f tx _ rf _ _ c vr w).mono ?_
        rintro e w' ⟨rfl, hb⟩; exact ⟨_, rfl, hb, by simp [Tm.V, htx]⟩
      by_cases k6 : k = 6
      · subst k6; refine (built_6 b i f tx ab by' cb rf _ _ c vr w B hB hby hbd.nb).mono ?_
        rintro e w' ⟨a, cap, rfl, hb, hv⟩; exact ⟨_, rfl, hb, Tm.V_of6 hv⟩
      by_cases k7 : k = 7
      · subst k7; refine (built_7 b i f tx _ rf _ _ c vr w).mono ?_
        rintro e w' ⟨rfl, hb⟩; exact ⟨_, rfl, hb, by simp [Tm.V]⟩
      by_cases k8 : k = 8
      · subst k8; refine (built_8 N ih b i f tx _ rf al l cl _ c vr w hlN.1 B hB hl hbd.nl).mono ?_
        rintro e w' ⟨a, cap, rfl, hb, hv⟩; exact ⟨_, rfl, hb, Tm.V_of8 hv⟩
      by_cases k9 : k = 9
      · subst k9; refine (built_9 N ih b i f tx _ rf _ af fs cf c vr w hlN.2 B hB hfs hbd.nf).mono ?_
        rintro e w' ⟨a, cap, rfl, hb, hv⟩; exact ⟨_, rfl, hb, Tm.V_of9 hv⟩
      by_cases k10 : k = 10
      · subst k10; refine (built_10 N ih b i f tx _ rf _ af fs cf c vr w hlN.2 B hB hfs hbd.nf).mono ?_
        rintro e w' ⟨g, a, cap, rfl, hb, hg, c0, c1, c2, hv⟩
        exact ⟨_, rfl, hb, Tm.V_of10 hg c0 c1 c2 hcl hv⟩
      by_cases k11 : k = 11
      · subst k11; refine (built_11 b i f tx _ rf _ _ c vr w).mono ?_
        rintro e w' ⟨rfl, hb⟩; exact ⟨_, rfl, hb, by simp [Tm.V]⟩
      have hk := k_alien k1 k2 k3 k4 k5 k6 k7 k8 k9 k10 k11
      refine (built_alien b i f tx _ rf _ _ c vr w k hk hbd.i0 hbd.i1).mono ?_
      rintro e w' ⟨T, x, rfl, hT, hb⟩
      exact ⟨_, rfl, hb, by simp only [Tm.V]; simp [k1, k2, k3, k4, k5, k6, k7, k8, k9, k10, k11]; exact fun _ => hT⟩
end Go.Proofs.YtjdjpbdfchhcfaaGreat

