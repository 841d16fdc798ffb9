/- tenonref02.one: the text of a term that has no terms in it. -/
import Derived.Test.YtnndlffidifddaaGreatDoorK14
import Derived.Test.YtnndlffidifddaaGreatDoorK10
import Derived.Deep.RegionLaw
import Derived.Deep.AppendLies
namespace Go.Proofs.YtnndlffidifddaaGreatDoor
open Go.RowKit

section
variable (b : Bool) (i : Int) (f : Nat) (tx : ByteArray) (vb : Value) (rf : Int) (vl vf : Value) (c : ByteArray) (vr : Int) (w : World)
set_option maxRecDepth 100000 in
set_option maxHeartbeats 1000000 in
theorem one_1 : Calls Tryz.prog 34 #[.agg (tcells 1 b i f tx vb rf vl vf c vr)] w fun e w' => e = .returned (.string ⟨#[110, 105, 108]⟩) ∧ Below w.heap.size w w' := by
  unfold tcells
  go_enter Tryz.func34, Tryz.ntmps34
  go_wp2_with fail
  go_ret
  exact ⟨rfl, (Below.refl _ _).alloc (Nat.le_refl _) _⟩
set_option maxRecDepth 100000 in
set_option maxHeartbeats 1000000 in
theorem one_2 : Calls Tryz.prog 34 #[.agg (tcells 2 b i f tx vb rf vl vf c vr)] w fun e w' => e = .returned (.string (if b then ⟨#[116, 114, 117, 101]⟩ else ⟨#[102, 97, 108, 115, 101]⟩)) ∧ Below w.heap.size w w' := by
  unfold tcells
  cases b
  · go_enter Tryz.func34, Tryz.ntmps34
    go_wp2_with fail
    go_ret
    exact ⟨rfl, (Below.refl _ _).alloc (Nat.le_refl _) _⟩
  · go_enter Tryz.func34, Tryz.ntmps34
    go_wp2_with fail
    go_ret
    exact ⟨rfl, (Below.refl _ _).alloc (Nat.le_refl _) _⟩
set_option maxRecDepth 100000 in
set_option maxHeartbeats 1000000 in
theorem one_3 (h0 : -9223372036854775808 ≤ i) (h1 : i ≤ 9223372036854775807) : Calls Tryz.prog 34 #[.agg (tcells 3 b i f tx vb rf vl vf c vr)] w fun e w' => e = .returned (.string ⟨(Lib.itoa i).toArray⟩) ∧ Below w.heap.size w w' := by
  unfold tcells
  have HC : Hid (∀ W, Calls Tryz.prog 55 #[.int .i64 i] W fun e w' => e = .returned (.string ⟨(Lib.itoa i).toArray⟩) ∧ Below W.heap.size W w') := fun W => IntR_any i W h0 h1
  go_enter Tryz.func34, Tryz.ntmps34
  go_wp2_with fail
  refine (HC.out _).mono ?_
  rintro e w1 ⟨rfl, hb1⟩
  have HB1 : Hid (Below w.heap.size w w1) := below_to ((Below.refl _ _).alloc (Nat.le_refl _) _) hb1
  clear hb1
  go_wp2_with fail
  go_ret
  exact ⟨rfl, HB1.out⟩
set_option maxRecDepth 100000 in
set_option maxHeartbeats 1000000 in
theorem one_4 (hf : f < 18446744073709551616) : Calls Tryz.prog 34 #[.agg (tcells 4 b i f tx vb rf vl vf c vr)] w fun e w' => e = .returned (.string ⟨(Sp.floatT f).toArray⟩) ∧ Below w.heap.size w w' := by
  unfold tcells
  have HC : Hid (∀ W, Calls Tryz.prog 13 #[.float .f64 f] W fun e w' => e = .returned (.string ⟨(Sp.floatT f).toArray⟩) ∧ Below W.heap.size W w') := fun W => rFloat_any f W hf
  go_enter Tryz.func34, Tryz.ntmps34
  go_wp2_with fail
  refine (HC.out _).mono ?_
  rintro e w1 ⟨rfl, hb1⟩
  have HB1 : Hid (Below w.heap.size w w1) := below_to ((Below.refl _ _).alloc (Nat.le_refl _) _) hb1
  clear hb1
  go_wp2_with fail
  go_ret
  exact ⟨rfl, HB1.out⟩
set_option maxRecDepth 100000 in
set_option maxHeartbeats 1000000 in
theorem one_5 (hl : tx.size ≤ 1099511627776) : Calls Tryz.prog 34 #[.agg (tcells 5 b i f tx vb rf vl vf c vr)] w fun e w' => e = .returned (.string ⟨(Sp.quote tx).toArray⟩) ∧ Below w.heap.size w w' := by
  unfold tcells
  have HC : Hid (∀ W, Calls Tryz.prog 11 #[.string tx] W fun e w' => e = .returned (.string ⟨(Sp.quote tx).toArray⟩) ∧ Below W.heap.size W w') := fun W => rQuote_any tx W hl
  go_enter Tryz.func34, Tryz.ntmps34
  go_wp2_with fail
  refine (HC.out _).mono ?_
  rintro e w1 ⟨rfl, hb1⟩
  have HB1 : Hid (Below w.heap.size w w1) := below_to ((Below.refl _ _).alloc (Nat.le_refl _) _) hb1
  clear hb1
  go_wp2_with fail
  go_ret
  exact ⟨rfl, HB1.out⟩
set_option maxRecDepth 100000 in
set_option maxHeartbeats 1000000 in
theorem one_7 (u : Nat) (hu : u < 18446744073709551616) : Calls Tryz.prog 34 #[.agg (tcells 7 b i f tx vb (u : Int) vl vf c vr)] w fun e w' => e = .returned (.string ⟨(64 :: Lib.decDigits u).toArray⟩) ∧ Below w.heap.size w w' := by
  unfold tcells
  obtain ⟨A, hA, HA⟩ : ∃ A : ByteArray, A.size ≤ 20 ∧ Hid (A = ⟨(Lib.decDigits u).toArray⟩) := ⟨_, by
    show (Lib.decDigits u).toArray.size ≤ 20
    rw [List.size_toArray, Lib.decDigits_length]; exact Lib.nDigits_le20 _ (by omega), rfl⟩
  have HC : Hid (∀ W, Calls Tryz.prog 29 #[.int .u64 (u : Int)] W fun e w' => e = .returned (.string A) ∧ Below W.heap.size W w') := fun W => by rw [HA.out]; exact Dec_any (u + 1) u W (by omega) hu
  go_enter Tryz.func34, Tryz.ntmps34
  go_wp2_with fail
  refine (HC.out _).mono ?_
  rintro e w1 ⟨rfl, hb1⟩
  have HB1 : Hid (Below w.heap.size w w1) := below_to ((Below.refl _ _).alloc (Nat.le_refl _) _) hb1
  clear hb1
  go_wp2_with fail
  go_ret
  exact ⟨ret_str (by rw [HA.out]; exact ba_app [64] _), HB1.out⟩
end
end Go.Proofs.YtnndlffidifddaaGreatDoor

/- tenonref02.one, of bytes. -/
namespace Go.Proofs.YtnndlffidifddaaGreatDoor
open Go.RowKit

def Sp.hex2 (c : UInt8) : List UInt8 := [Sp.hexd (c.toNat / 16), Sp.hexd (c.toNat % 16)]
def Sp.hexs (s : ByteArray) (k : Nat) : List UInt8 := 35 :: (s.data.toList.take k).flatMap Sp.hex2
theorem Sp.hexs_succ (s : ByteArray) (k : Nat) (h : k < s.size) : Sp.hexs s (k + 1) = Sp.hexs s k ++ Sp.hex2 s[k] := by
  have h' : k < s.data.toList.length := by rw [Array.length_toList]; exact h
  unfold Sp.hexs
  rw [List.take_succ_eq_append_getElem h', List.flatMap_append]
  simp
  rfl

abbrev W6 (b : Bool) (i : Int) (f : Nat) (tx : ByteArray) (vb : Value) (rf : Int) (vl vf : Value) (c : ByteArray) (vr : Int) (w : World) : World := w.alloc (.cells (tcells 6 b i f tx vb rf vl vf c vr) 29)

set_option maxRecDepth 100000 in
set_option maxHeartbeats 4000000 in
theorem one_6 (b : Bool) (i : Int) (f : Nat) (tx : ByteArray) (s : ByteArray) (ab : Option Addr) (cap : Nat) (rf : Int) (vl vf : Value) (c : ByteArray) (vr : Int) (B : Nat → Prop) (w : World) (hB : Sub B w)
    (hx : BytesAt w B ab s) (hl : s.size ≤ 1099511627776) :
    Calls Tryz.prog 34 #[.agg (tcells 6 b i f tx (.slice ab s.size cap) rf vl vf c vr)] w fun e w' => e = .returned (.string ⟨(Sp.hexs s s.size).toArray⟩) ∧ Below w.heap.size w w' := by
  obtain ⟨i0, hi, hz0, hz1, hz2⟩ := info_parts Tryz.infoB
  have HXB : Hid (BytesAt w B ab s ∧ Sub B w) := ⟨hx, hB⟩
  clear hx hB
  unfold tcells
  go_enter Tryz.func34, Tryz.ntmps34
  go_wp2_with fail
  go_loopw [3, 4] (fun u i2 wr => ∃ (k m' : Nat) (a' : Option Addr) (p' : Nat), k ≤ s.size ∧ i2 = .int .i64 (k : Int) ∧ u = .slice a' m' p' ∧ m' ≤ 1 + 2 * k ∧ Hid (Byts wr (w.heap.size + 1) a' m' p' (Sp.hexs s k)) ∧ Hid (Below (w.heap.size + 1) (W6 b i f tx (.slice ab s.size cap) rf vl vf c vr w) wr)) (fun _ i2 _ => s.size - (intOf i2).toNat)
  case atStart =>
    refine ⟨0, 1, _, 1, by omega, rfl, rfl, by omega, ?_, (Below.refl _ _).alloc (by simp [W6]) _⟩
    exact ⟨rfl, rfl, .inr ⟨w.heap.size + 1, 1, #[.int .u8 35], (by simp), Nat.le_refl _, (by have := heap_alloc_new (W6 b i f tx (.slice ab s.size cap) rf vl vf c vr w) (.cells #[.int .u8 35] 5); simpa [W6, tcells] using this), Nat.le_refl _, by simp [maxLen], rfl, rfl⟩⟩
  case round =>
    obtain ⟨k, m', a', p', hk, rfl, rfl, hm, HN, HB⟩ := hrel
    have HBW : Hid (Below w.heap.size w wr) := below_to ((Below.refl _ _).alloc (Nat.le_refl _) _) (by simpa [W6] using HB.out)
    have HZ : Hid (w.heap.size + 1 ≤ wr.heap.size) := by have := HB.out.size; show _ ≤ _; simpa [W6] using this
    have hbk : wr.heap[w.heap.size]? = some (.cells (tcells 6 b i f tx (.slice ab s.size cap) rf vl vf c vr) 29 (0, 0)) := by rw [HB.out.block w.heap.size (by omega)]; exact heap_alloc_new w _
    have hb5 : wr.cell? ⟨w.heap.size, 5, none⟩ = some (.slice ab s.size cap) := cell_of_row wr w.heap.size 5 _ _ _ hbk
    clear hbk
    by_cases hlt : k < s.size
    · obtain ⟨g, o, rfl, hgB, hcl⟩ := HXB.out.1 k hlt
      have hby : wr.cell? ⟨g, o + k, none⟩ = some (.int .u8 (s[k].toNat : Int)) := by
        obtain ⟨g2, o2, e2, _, hc2⟩ := (HXB.out.1.same (B' := B) (fun q hq => HBW.out.block q (HXB.out.2 q hq)) (fun _ h => h)) k hlt
        injection e2 with e2
        injection e2 with e3 e4
        subst e3 e4
        rw [byte_at]; exact hc2
      clear hcl hgB
      have hc := s[k].toNat_lt
      have HX : Hid (Sp.hexs s (k + 1) = Sp.hexs s k ++ [Sp.hexd (s[k].toNat / 16), Sp.hexd (s[k].toNat % 16)]) := Sp.hexs_succ s k hlt
      have hx1 := idx_hex .u8 ((s[k].toNat : Int) / 16) (s[k].toNat / 16) (by omega) (by omega)
      have hx2 := idx_hex .u8 ((s[k].toNat : Int) % 16) (s[k].toNat % 16) (by omega) (by omega)
      have hq0 : Int.tdiv (s[k].toNat : Int) 16 = (s[k].toNat : Int) / 16 := Int.tdiv_eq_ediv_of_nonneg (Int.natCast_nonneg _)
      have hq1 : IntKind.u8.wrap ((s[k].toNat : Int) / 16) = (s[k].toNat : Int) / 16 := by rw [IntKind.wrap_u8]; omega
      have hq2 : Int.tmod (s[k].toNat : Int) 16 = (s[k].toNat : Int) % 16 := Int.tmod_eq_emod_of_nonneg (Int.natCast_nonneg _)
      have hq3 : IntKind.u8.wrap ((s[k].toNat : Int) % 16) = (s[k].toNat : Int) % 16 := by rw [IntKind.wrap_u8]; omega
      generalize Sp.hexd (s[k].toNat / 16) = u at hx1 HX
      generalize Sp.hexd (s[k].toNat % 16) = v at hx2 HX
      go_wp2_with fail
      go_region_law ((refine step_append_lies _ (by rfl) _ _ 23 (by rfl) (w.heap.size + 1) 5 i0 _ 1 1 Tryz.undB hi hz0 hz1 hz2 rfl (by omega) _ m' (Sp.u8c (Sp.hexs s k)) (by rfl) (HN.out.2.alloc _) ⟨wr.heap.size, 0, none⟩ 2 2 (Sp.u8c [u, v]) (by rfl) (by rfl) (bytes_new wr [u, v] rfl rfl) (u8c_one _) (by omega) (by unfold maxLen; omega) (by omega) (by have := HZ.out; simp; omega) (wr.heap.size + 1) (by simp) ?_; intro g5 p5 w5 hown' hgrow hor hlt3; have HB5 : Hid (Below (w.heap.size + 1) (W6 b i f tx (.slice (some ⟨g, o, none⟩) s.size cap) rf vl vf c vr w) w5) := (HB.out.alloc HZ.out _).drew.grown hgrow (by have := HZ.out; simp; omega) (fun q hq => own_ge HN.out.2 hq); have HN5 : Hid (Byts w5 (w.heap.size + 1) (some ⟨g5, 0, none⟩) (m' + 2) p5 (Sp.hexs s k ++ [u, v])) := ⟨by rw [List.length_append, ← HN.out.1]; rfl, by rw [u8c_app]; exact hown'⟩; clear hown' hgrow hor))
      all_goals
        go_wp2_with fail
        go_roundw
        case rel => exact ⟨k + 1, m' + 2, _, p5, by omega, by go_num, rfl, by omega, (by show Byts _ _ _ _ _ _; rw [HX.out]; exact HN5.out), HB5⟩
        case measure => simp [intOf]; omega
    · obtain rfl : k = s.size := by omega
      have hcv := HN.out.conv (Below.refl _ _)
      go_wp2_with fail
      go_ret
      exact ⟨rfl, HBW.out⟩
end Go.Proofs.YtnndlffidifddaaGreatDoor

