/- The Go function tenonlaw03.WireDecodes returns true. -/
import Derived.Test.YtkomcebknllaiaaL40
import Derived.Deep.RegionHeld3
import Derived.Test.YtkomcebknllaiaaL1
import Derived.ProofKit
import Derived.OpenShut
import Derived.SizedLaws
import Derived.Test.YtkomcebknllaiaaRows
namespace Go.Proofs.Ytkomcebknllaiaa
open Go.RowKit

@[go_sem] theorem eql_true (w : World) : (binOp .eql 20 (.iface 4 (.bool true)) (.iface 4 (.bool true))).run Try.prog w = .ok (.bool true) w := by kernel_rfl
@[go_sem] theorem eqg_true (x y : Operand) (w : World) : (eqGuard .eql 20 x y (.iface 4 (.bool true)) (.iface 4 (.bool true))).run Try.prog w = .ok () w := by kernel_rfl

set_option maxRecDepth 100000 in
set_option maxHeartbeats 4000000 in
theorem WireDecodes_bad (l : ByteArray) (ab : Option Addr) (cb : Nat) (w : World) (hl : l.size ≤ 140737488351232) (hab : BytesAt w (Lo w.heap.size) ab l) (hcb : l.size ≤ cb) (q : Nat) (er : Int) (hr : Sp.rdV (Sp.bts l) 64 0 0 = .bad q er) :
    Calls Try.prog 7 #[.slice ab l.size cb] w fun e w' => e = .returned (.bool true) ∧ Below w.heap.size w w' := by
  have her := rdV_er 64 hr
  have HLe : Hid (∀ W, Below w.heap.size w W → Calls Try.prog 28 #[.slice ab l.size cb] W fun e w' => ∃ g cap, e = .returned (.tuple #[.slice (some ⟨g, 0, none⟩) l.size cap, .slice (some ⟨g, 0, none⟩) (l.size + 32) cap]) ∧ Outs w' W.heap.size (some ⟨g, 0, none⟩) cap (Sp.bts l ++ Sp.marks 32) ∧ Below W.heap.size W w') := fun W hW =>
    lent_any l ab cb W hl (fun j hj => by
      obtain ⟨g, o, e, hg, hc⟩ := hab j hj
      exact ⟨g, o, e, Nat.lt_of_lt_of_le hg hW.size, by rw [hW.cell (p := ⟨g, o + j, none⟩) hg]; exact hc⟩)
  have HAB : Hid (∀ W, Below w.heap.size w W → BytesAt W (Lo W.heap.size) ab l) := fun W hW j hj => by
    obtain ⟨g, o, e, hg, hc⟩ := hab j hj
    exact ⟨g, o, e, Nat.lt_of_lt_of_le hg hW.size, by rw [hW.cell (p := ⟨g, o + j, none⟩) hg]; exact hc⟩
  have HRD : Hid (∀ W, Below w.heap.size w W → Calls Try.prog 31 #[.slice ab l.size cb] W fun e w' => e = .returned (.tuple #[.agg #[.int .i64 0, .bool false, .int .i64 0, .float .f64 0, .string ⟨#[]⟩, .slice none 0 0, .int .u64 0, .slice none 0 0, .slice none 0 0, .string ⟨#[]⟩, .int .i64 0], .int .i64 (q : Int), .int .i64 er]) ∧ Below W.heap.size W w') := fun W hW => by
    have := refDecode_bad (Sp.bts l) (bts_by l) q er hr ab cb W (by rw [Sp.bts_len]; exact hcb) (bytes_rdb (HAB.out W hW)) (by rw [Sp.bts_len]; omega)
    rw [Sp.bts_len] at this
    exact this
  have HD : Hid (∀ (W : World) (base g cap : Nat), Outs W base (some ⟨g, 0, none⟩) cap (Sp.bts l) → Calls Try.prog 29 #[.slice (some ⟨g, 0, none⟩) l.size cap] W fun e w' => e = .returned (.tuple #[.nilIface, .int .i64 (q : Int), .int .i64 er]) ∧ Below W.heap.size W w') := fun W base g cap ho => dec_bad l q er hr her hl W base g cap ho
  have HSk : Hid (∀ (W : World) (base g cap : Nat), Outs W base (some ⟨g, 0, none⟩) cap (Sp.bts l) → Calls Try.prog 30 #[.slice (some ⟨g, 0, none⟩) l.size cap] W fun e w' => e = .returned (.tuple #[.int .i64 0, .int .i64 er]) ∧ Below W.heap.size W w') := fun W base g cap ho => skip_bad l q er hr her hl W base g cap ho
  have HKe : Hid (∀ (W : World) (base g cap : Nat), Below w.heap.size w W → Outs W base (some ⟨g, 0, none⟩) cap (Sp.bts l ++ Sp.marks 32) → Calls Try.prog 32 #[.slice (some ⟨g, 0, none⟩) (l.size + 32) cap, .slice ab l.size cb] W fun e w' => e = .returned (.bool true) ∧ Below W.heap.size W w') := fun W base g cap hW ho => kept_any l ab cb g cap W hl (HAB.out W hW) (outs_rd ho).1
  have he : (er == 0) = false := by simp [her]
  have he2 : (er != 0) = true := by simp [her]
  clear hr her hab hcb
  go_enter Try.func7, Try.ntmps7
  go_wp2_with fail
  refine (HLe.out _ (Below.refl _ _)).mono ?_
  rintro e w1 ⟨g, cap, rfl, ho, hb⟩
  have HO : Hid (∀ W, Below w1.heap.size w1 W → Outs W w.heap.size (some ⟨g, 0, none⟩) cap (Sp.bts l ++ Sp.marks 32)) := fun W hW => outs_call ho hW
  have HB1 : Hid (Below w.heap.size w w1) := hb
  clear ho hb
  go_wp2_with fail
  refine (HD.out _ _ g cap (outs_pre (HO.out _ (Below.refl _ _)))).mono ?_
  rintro e w2 ⟨rfl, hb⟩
  have HB2 : Hid (Below w1.heap.size w1 w2) := hb
  clear hb
  go_wp2_with fail
  refine (HD.out _ _ g cap (outs_pre (HO.out _ HB2.out))).mono ?_
  rintro e w3 ⟨rfl, hb⟩
  have HB3 : Hid (Below w1.heap.size w1 w3) := below_to HB2.out hb
  clear hb
  go_wp2_with fail
  refine (HSk.out _ _ g cap (outs_pre (HO.out _ HB3.out))).mono ?_
  rintro e w4 ⟨rfl, hb⟩
  have HB4 : Hid (Below w1.heap.size w1 w4) := below_to HB3.out hb
  clear hb
  go_wp2_with fail
  refine (HRD.out _ (below_to HB1.out HB4.out)).mono ?_
  rintro e w5 ⟨rfl, hb⟩
  have HB5 : Hid (Below w1.heap.size w1 w5) := below_to HB4.out hb
  clear hb
  have HB6 : Hid (Below w1.heap.size w1 (w5.alloc (.cells #[.int .i64 0, .bool false, .int .i64 0, .float .f64 0, .string ⟨#[]⟩, .slice none 0 0, .int .u64 0, .slice none 0 0, .slice none 0 0, .string ⟨#[]⟩, .int .i64 0] 29))) := HB5.out.alloc HB5.out.size _
  go_wp2_with fail
  refine (HKe.out _ _ g cap (below_to HB1.out HB6.out) (HO.out _ HB6.out)).mono ?_
  rintro e w7 ⟨rfl, hb⟩
  have HB7 : Hid (Below w1.heap.size w1 w7) := below_to HB6.out hb
  clear hb
  go_wp2_with fail
  go_ret
  exact ⟨rfl, below_to HB1.out HB7.out⟩
set_option maxRecDepth 100000 in
set_option maxHeartbeats 4000000 in
theorem WireDecodes_ok (l : ByteArray) (ab : Option Addr) (cb : Nat) (w : World) (hl : l.size ≤ 140737488351232) (hab : BytesAt w (Lo w.heap.size) ab l) (hcb : l.size ≤ cb) (t : Tm) (p2 n : Nat) (hr : Sp.rdV (Sp.bts l) 64 0 0 = .ok (t, p2) n) :
    Calls Try.prog 7 #[.slice ab l.size cb] w fun e w' => e = .returned (.bool true) ∧ Below w.heap.size w w' := by
  have hsnd := rd_snd (bts_by l) hr
  have HEZ : Hid (t.all.e = 0) := hsnd.1
  clear hsnd
  have HLe : Hid (∀ W, Below w.heap.size w W → Calls Try.prog 28 #[.slice ab l.size cb] W fun e w' => ∃ g cap, e = .returned (.tuple #[.slice (some ⟨g, 0, none⟩) l.size cap, .slice (some ⟨g, 0, none⟩) (l.size + 32) cap]) ∧ Outs w' W.heap.size (some ⟨g, 0, none⟩) cap (Sp.bts l ++ Sp.marks 32) ∧ Below W.heap.size W w') := fun W hW =>
    lent_any l ab cb W hl (fun j hj => by
      obtain ⟨g, o, e, hg, hc⟩ := hab j hj
      exact ⟨g, o, e, Nat.lt_of_lt_of_le hg hW.size, by rw [hW.cell (p := ⟨g, o + j, none⟩) hg]; exact hc⟩)
  have HAB : Hid (∀ W, Below w.heap.size w W → BytesAt W (Lo W.heap.size) ab l) := fun W hW j hj => by
    obtain ⟨g, o, e, hg, hc⟩ := hab j hj
    exact ⟨g, o, e, Nat.lt_of_lt_of_le hg hW.size, by rw [hW.cell (p := ⟨g, o + j, none⟩) hg]; exact hc⟩
  have HRD : Hid (∀ W, Below w.heap.size w W → Calls Try.prog 31 #[.slice ab l.size cb] W fun e w' => ∃ (u : Int) (b : Bool) (i : Int) (f : Nat) (tx : ByteArray) (ab' : Option Addr) (nb cb' : Nat) (rf : Int) (al : Option Addr) (nl cl : Nat) (af : Option Addr) (nf cf : Nat) (c : ByteArray) (vr : Int), e = .returned (.tuple #[.agg #[.int .i64 u, .bool b, .int .i64 i, .float .f64 f, .string tx, .slice ab' nb cb', .int .u64 rf, .slice al nl cl, .slice af nf cf, .string c, .int .i64 vr], .int .i64 (n : Int), .int .i64 0]) ∧ Below W.heap.size W w' ∧ t.In w' (Fr W w') #[.int .i64 u, .bool b, .int .i64 i, .float .f64 f, .string tx, .slice ab' nb cb', .int .u64 rf, .slice al nl cl, .slice af nf cf, .string c, .int .i64 vr]) := fun W hW => by
    have := refDecode_ok (Sp.bts l) (bts_by l) t p2 n hr ab cb W (by rw [Sp.bts_len]; exact hcb) (bytes_rdb (HAB.out W hW)) (by rw [Sp.bts_len]; omega)
    rw [Sp.bts_len] at this
    exact this
  have HD : Hid (∀ (W : World) (base g cap : Nat), Outs W base (some ⟨g, 0, none⟩) cap (Sp.bts l) → Calls Try.prog 29 #[.slice (some ⟨g, 0, none⟩) l.size cap] W fun e w' => ∃ v, e = .returned (.tuple #[v, .int .i64 (n : Int), .int .i64 0]) ∧ Below W.heap.size W w' ∧ t.V w' (Fr W w') v) := fun W base g cap ho => dec_ok l t p2 n hr hl W base g cap ho
  have HSk : Hid (∀ (W : World) (base g cap : Nat), Outs W base (some ⟨g, 0, none⟩) cap (Sp.bts l) → Calls Try.prog 30 #[.slice (some ⟨g, 0, none⟩) l.size cap] W fun e w' => e = .returned (.tuple #[.int .i64 (n : Int), .int .i64 0]) ∧ Below W.heap.size W w') := fun W base g cap ho => skip_ok l t p2 n hr hl W base g cap ho
  have HKe : Hid (∀ (W : World) (base g cap : Nat), Below w.heap.size w W → Outs W base (some ⟨g, 0, none⟩) cap (Sp.bts l ++ Sp.marks 32) → Calls Try.prog 32 #[.slice (some ⟨g, 0, none⟩) (l.size + 32) cap, .slice ab l.size cb] W fun e w' => e = .returned (.bool true) ∧ Below W.heap.size W w') := fun W base g cap hW ho => kept_any l ab cb g cap W hl (HAB.out W hW) (outs_rd ho).1
  clear hr hab hcb
  go_enter Try.func7, Try.ntmps7
  go_wp2_with fail
  refine (HLe.out _ (Below.refl _ _)).mono ?_
  rintro e w1 ⟨g, cap, rfl, ho, hb⟩
  have HO : Hid (∀ W, Below w1.heap.size w1 W → Outs W w.heap.size (some ⟨g, 0, none⟩) cap (Sp.bts l ++ Sp.marks 32)) := fun W hW => outs_call ho hW
  have HB1 : Hid (Below w.heap.size w w1) := hb
  clear ho hb
  go_wp2_with fail
  refine (HD.out _ _ g cap (outs_pre (HO.out _ (Below.refl _ _)))).mono ?_
  rintro e w2 ⟨v1, rfl, hb, hv⟩
  have HB2 : Hid (Below w1.heap.size w1 w2) := hb
  have HV1 : Hid (t.V w2 (Fr w1 w2) v1) := hv
  clear hb hv
  go_wp2_with fail
  refine (HD.out _ _ g cap (outs_pre (HO.out _ HB2.out))).mono ?_
  rintro e w3 ⟨v2, rfl, hb, hv⟩
  have HB3 : Hid (Below w2.heap.size w2 w3) := hb
  have HV2 : Hid (t.V w3 (Fr w2 w3) v2) := hv
  clear hb hv
  go_wp2_with fail
  refine (HSk.out _ _ g cap (outs_pre (HO.out _ (below_to HB2.out HB3.out)))).mono ?_
  rintro e w4 ⟨rfl, hb⟩
  have HB4 : Hid (Below w3.heap.size w3 w4) := hb
  clear hb
  have HB14 : Hid (Below w1.heap.size w1 w4) := below_to (below_to HB2.out HB3.out) HB4.out
  go_wp2_with fail
  refine (HRD.out _ (below_to HB1.out HB14.out)).mono ?_
  rintro e w5 ⟨u, b, i, f, tx, ab', nb, cb', rf, al, nl, cl, af, nf, cf, c, vr, rfl, hb, hin⟩
  have HB5 : Hid (Below w4.heap.size w4 w5) := hb
  have HIN : Hid (t.In w5 (Fr w4 w5) #[.int .i64 u, .bool b, .int .i64 i, .float .f64 f, .string tx, .slice ab' nb cb', .int .u64 rf, .slice al nl cl, .slice af nf cf, .string c, .int .i64 vr]) := hin
  clear hb hin
  have HB6 : Hid (Below w1.heap.size w1 (w5.alloc (.cells #[.int .i64 u, .bool b, .int .i64 i, .float .f64 f, .string tx, .slice ab' nb cb', .int .u64 rf, .slice al nl cl, .slice af nf cf, .string c, .int .i64 vr] 29))) := (below_to HB14.out HB5.out).alloc (below_to HB14.out HB5.out).size _
  go_wp2_with fail
  refine (HKe.out _ _ g cap (below_to HB1.out HB6.out) (HO.out _ HB6.out)).mono ?_
  rintro e w7 ⟨rfl, hb⟩
  have HB7 : Hid (Below w1.heap.size w1 w7) := below_to HB6.out hb
  have HROW : Hid (w7.heap[w5.heap.size]? = some (.cells #[.int .i64 u, .bool b, .int .i64 i, .float .f64 f, .string tx, .slice ab' nb cb', .int .u64 rf, .slice al nl cl, .slice af nf cf, .string c, .int .i64 vr] 29 (0, 0))) := by
    show _ = _
    rw [hb.block _ (by simp)]; exact heap_alloc_new w5 _
  have HB57 : Hid (Below w5.heap.size w5 w7) := ((Below.refl _ _).alloc (Nat.le_refl _) _).trans (hb.mono (by simp))
  clear hb
  have HSZ : Hid (w.heap.size ≤ w1.heap.size ∧ w1.heap.size ≤ w2.heap.size ∧ w2.heap.size ≤ w3.heap.size ∧ w3.heap.size ≤ w4.heap.size ∧ w4.heap.size ≤ w5.heap.size ∧ w5.heap.size < w7.heap.size) := ⟨HB1.out.size, HB2.out.size, HB3.out.size, HB4.out.size, HB5.out.size, lt_row HROW.out⟩
  have HIs : Hid (∀ (W : World) (v : Value), t.V W (Lo w5.heap.size) v → t.In W (Lo w5.heap.size) #[.int .i64 u, .bool b, .int .i64 i, .float .f64 f, .string tx, .slice ab' nb cb', .int .u64 rf, .slice al nl cl, .slice af nf cf, .string c, .int .i64 vr] → w5.heap.size ≤ W.heap.size → Calls Try.prog 14 #[v, .agg #[.int .i64 u, .bool b, .int .i64 i, .float .f64 f, .string tx, .slice ab' nb cb', .int .u64 rf, .slice al nl cl, .slice af nf cf, .string c, .int .i64 vr]] W fun e w' => e = .returned (.bool true) ∧ Below W.heap.size W w') := fun W v h1 h2 h3 => Is_any t v #[.int .i64 u, .bool b, .int .i64 i, .float .f64 f, .string tx, .slice ab' nb cb', .int .u64 rf, .slice al nl cl, .slice af nf cf, .string c, .int .i64 vr] W (Lo w5.heap.size) h1 h2 (Sub.lo h3) HEZ.out
  have HAll : Hid (∀ W, Below w5.heap.size w5 W → t.V W (Lo w5.heap.size) v1 ∧ t.V W (Lo w5.heap.size) v2 ∧ t.In W (Lo w5.heap.size) #[.int .i64 u, .bool b, .int .i64 i, .float .f64 f, .string tx, .slice ab' nb cb', .int .u64 rf, .slice al nl cl, .slice af nf cf, .string c, .int .i64 vr]) := fun W hW => by
    obtain ⟨z0, z1, z2, z3, z4, z5⟩ := HSZ.out
    refine ⟨t.V_same (B := Fr w1 w2) (fun k hk => ?_) (fun k hk => ?_) v1 HV1.out, t.V_same (B := Fr w2 w3) (fun k hk => ?_) (fun k hk => ?_) v2 HV2.out, t.In_same (B := Fr w4 w5) (fun k hk => ?_) (fun k hk => ?_) _ HIN.out⟩
    · have h2 := hk.2
      rw [hW.block k (by omega), HB5.out.block k (by omega), HB4.out.block k (by omega), HB3.out.block k h2]
    · have h2 := hk.2; show k < _; omega
    · have h2 := hk.2
      rw [hW.block k (by omega), HB5.out.block k (by omega), HB4.out.block k h2]
    · have h2 := hk.2; show k < _; omega
    · exact hW.block k hk.2
    · exact hk.2
  obtain ⟨e0, e1, e2, e3, e4, e5, e6, e7, e8, e9, e10⟩ := own11 HROW.out
  go_wp2_with fail
  refine (HIs.out _ _ (HAll.out _ HB57.out).1 (HAll.out _ HB57.out).2.2 HB57.out.size).mono ?_
  rintro e w8 ⟨rfl, hb⟩
  have HB58 : Hid (Below w5.heap.size w5 w8) := below_to HB57.out hb
  have HROW8 : Hid (w8.heap[w5.heap.size]? = some (.cells #[.int .i64 u, .bool b, .int .i64 i, .float .f64 f, .string tx, .slice ab' nb cb', .int .u64 rf, .slice al nl cl, .slice af nf cf, .string c, .int .i64 vr] 29 (0, 0))) := by
    show _ = _
    rw [hb.block _ HSZ.out.2.2.2.2.2]; exact HROW.out
  clear hb e0 e1 e2 e3 e4 e5 e6 e7 e8 e9 e10
  obtain ⟨e0, e1, e2, e3, e4, e5, e6, e7, e8, e9, e10⟩ := own11 HROW8.out
  go_wp2_with fail
  refine (HIs.out _ _ (HAll.out _ HB58.out).2.1 (HAll.out _ HB58.out).2.2 HB58.out.size).mono ?_
  rintro e w9 ⟨rfl, hb⟩
  have HB59 : Hid (Below w5.heap.size w5 w9) := below_to HB58.out hb
  have HROW9 : Hid (w9.heap[w5.heap.size]? = some (.cells #[.int .i64 u, .bool b, .int .i64 i, .float .f64 f, .string tx, .slice ab' nb cb', .int .u64 rf, .slice al nl cl, .slice af nf cf, .string c, .int .i64 vr] 29 (0, 0))) := by
    show _ = _
    rw [hb.block _ (lt_row HROW8.out)]; exact HROW8.out
  clear hb e0 e1 e2 e3 e4 e5 e6 e7 e8 e9 e10
  have HB19 : Hid (Below w1.heap.size w1 w9) := below_to (below_to HB14.out HB5.out) HB59.out
  have HSp : Hid (Calls Try.prog 16 #[v1] w9 fun e w' => e = .returned (.tuple #[]) ∧ Dg (Fr w1 w2) w9 w') := by
    obtain ⟨z0, z1, z2, z3, z4, z5⟩ := HSZ.out
    have hz := HB59.out.size
    refine Spoil_any t v1 (Fr w1 w2) w9 (t.V_same (fun k hk => ?_) (fun _ h => h) v1 HV1.out) (fun k hk => by have := hk.2; omega) HEZ.out
    have h2 := hk.2
    rw [HB59.out.block k (by omega), HB5.out.block k (by omega), HB4.out.block k (by omega), HB3.out.block k h2]
  go_wp2_with fail
  refine HSp.out.mono ?_
  rintro e w10 ⟨rfl, hdg⟩
  have HDG : Hid (Dg (Fr w1 w2) w9 w10) := hdg
  clear hdg
  have HGlt : Hid (g < w1.heap.size) := ((HO.out w1 (Below.refl _ _)).1.lt g rfl).2
  have HO10 : Hid (Outs w10 w.heap.size (some ⟨g, 0, none⟩) cap (Sp.bts l)) := by
    have h := outs_pre (HO.out w9 HB19.out)
    have hg := HGlt.out
    refine ⟨owns_far h.1 (fun g0 hg0 => ?_), Nat.le_trans h.2 HDG.out.size⟩
    simp only [Value.ownBlock, Option.some.injEq] at hg0
    subst hg0
    exact HDG.out.far g (by have := HB19.out.size; omega) (fun hh => by have := hh.1; omega)
  go_wp2_with fail
  refine (full_at (Sp.bts l) (some ⟨g, 0, none⟩) cap w.heap.size _ w10 l.size (by rw [Sp.bts_len]) (by rw [Sp.bts_len]; exact hl) HO10.out).mono ?_
  rintro e w11 ⟨rfl, a11, hg11⟩
  have HG11 : Hid (Gr w.heap.size (some ⟨g, 0, none⟩) a11 w10 w11) := hg11
  clear hg11
  have HO2 : Hid (Outs (w11.alloc (.cells #[.int .u8 2, .int .u8 1] 5)) w11.heap.size (some ⟨w11.heap.size, 0, none⟩) 2 [2, 1]) :=
    ⟨⟨rfl, .inr ⟨w11.heap.size, 2, _, rfl, Nat.le_refl _, heap_alloc_new w11 _, Nat.le_refl _, by simp [maxLen], rfl, rfl⟩⟩, by simp⟩
  go_wp2_with fail
  refine (dec_true _ _ w11.heap.size 2 HO2.out).mono ?_
  rintro e w12 ⟨rfl, hb⟩
  have HB12 : Hid (Below w11.heap.size w11 w12) := ((Below.refl _ _).alloc (Nat.le_refl _) _).trans (hb.mono (by simp))
  clear hb
  have HK : Hid ((∀ k, w2.heap.size ≤ k → k < w9.heap.size → w12.heap[k]? = w9.heap[k]?) ∧ w9.heap.size ≤ w12.heap.size) := by
    obtain ⟨z0, z1, z2, z3, z4, z5⟩ := HSZ.out
    have hg := HGlt.out
    have hz1 := HDG.out.size
    have hz2 := HG11.out.1.size
    refine ⟨fun k h1 h2 => ?_, Nat.le_trans hz1 (Nat.le_trans hz2 HB12.out.size)⟩
    rw [HB12.out.block k (by omega), HG11.out.2.1 k (by omega) (fun e => by simp only [Option.map_some, Option.some.injEq] at e; omega), HDG.out.far k h2 (fun hh => by have := hh.2; omega)]
  have HV12 : Hid (t.V w12 (Lo w5.heap.size) v2 ∧ t.In w12 (Lo w5.heap.size) #[.int .i64 u, .bool b, .int .i64 i, .float .f64 f, .string tx, .slice ab' nb cb', .int .u64 rf, .slice al nl cl, .slice af nf cf, .string c, .int .i64 vr] ∧ w5.heap.size ≤ w12.heap.size ∧ w12.heap[w5.heap.size]? = some (.cells #[.int .i64 u, .bool b, .int .i64 i, .float .f64 f, .string tx, .slice ab' nb cb', .int .u64 rf, .slice al nl cl, .slice af nf cf, .string c, .int .i64 vr] 29 (0, 0))) := by
    obtain ⟨z0, z1, z2, z3, z4, z5⟩ := HSZ.out
    have hz9 := HB59.out.size
    refine ⟨t.V_same (B := Fr w2 w3) (fun k hk => ?_) (fun k hk => ?_) v2 HV2.out, t.In_same (B := Fr w4 w5) (fun k hk => ?_) (fun k hk => ?_) _ HIN.out, by have := HK.out.2; omega, ?_⟩
    · have h1 := hk.1; have h2 := hk.2
      rw [HK.out.1 k h1 (by omega), HB59.out.block k (by omega), HB5.out.block k (by omega), HB4.out.block k h2]
    · have h2 := hk.2; show k < _; omega
    · have h1 := hk.1; have h2 := hk.2
      rw [HK.out.1 k (by omega) (by omega), HB59.out.block k h2]
    · exact hk.2
    · rw [HK.out.1 _ (by omega) (lt_row HROW9.out)]; exact HROW9.out
  have HFin : Hid (Below w.heap.size w w12) := by
    obtain ⟨z0, z1, z2, z3, z4, z5⟩ := HSZ.out
    have h9 : Below w.heap.size w w9 := below_to HB1.out HB19.out
    have h10 : Below w.heap.size w w10 := Far.below (Far.dg (Far.of (Below.refl _ w9)) HDG.out (fun _ h => h)) h9 (fun k hk => by have := hk.1; omega)
    exact (h10.trans HG11.out.1).trans (HB12.out.mono (by have := h10.size; have := HG11.out.1.size; omega))
  obtain ⟨e0, e1, e2, e3, e4, e5, e6, e7, e8, e9, e10⟩ := own11 HV12.out.2.2.2
  go_wp2_with fail
  refine (HIs.out _ _ HV12.out.1 HV12.out.2.1 HV12.out.2.2.1).mono ?_
  rintro e w13 ⟨rfl, hb⟩
  have HB13 : Hid (Below w12.heap.size w12 w13) := hb
  clear hb e0 e1 e2 e3 e4 e5 e6 e7 e8 e9 e10
  go_wp2_with fail
  go_ret
  exact ⟨rfl, below_to HFin.out HB13.out⟩
theorem WireDecodes_any (l : ByteArray) (ab : Option Addr) (cb : Nat) (w : World) (hl : l.size ≤ 140737488351232) (hab : BytesAt w (Lo w.heap.size) ab l) (hcb : l.size ≤ cb) :
    Calls Try.prog 7 #[.slice ab l.size cb] w fun e w' => e = .returned (.bool true) ∧ Below w.heap.size w w' := by
  cases hr : Sp.rdV (Sp.bts l) 64 0 0 with
  | ok tp n => exact WireDecodes_ok l ab cb w hl hab hcb tp.1 tp.2 n hr
  | bad q er => exact WireDecodes_bad l ab cb w hl hab hcb q er hr
end Go.Proofs.Ytkomcebknllaiaa

/- A term that can be read as data lies in memory as a tree of terms. -/
namespace Go.Proofs.Ytkomcebknllaiaa
open Go.ChangeShapes Go.WideShapes Go.ChangeAt Go.RowKit

theorem Try.cU8 : Try.prog.cellsOf 5 = 1 := by kernel_rfl
theorem Try.bT : Try.prog.bytesOf 29 = 152 := by kernel_rfl
theorem Try.bU8 : Try.prog.bytesOf 5 = 1 := by kernel_rfl

section
variable {H : Type} {enc : TypeId × Value → H} {W : World}

theorem add_none (b o n : Nat) : (⟨b, o, none⟩ : Addr).add n = ⟨b, o + n, none⟩ := by
  unfold Addr.add; split
  · rename_i h; rw [h]; rfl
  · rfl
/-- what is read of one element of a slice -/
theorem elem_at {P : Program} {e : TypeId} {a : Addr} {i n : Nat} {r : List (DataW H × List MemPlace)} (hi : i < r.length) (h : (W.cells? 0 (a.add (i * P.cellsOf e)) (P.cellsOf e)).bind (DataW.trod enc P W 0 (fun _ => true) true n e) = r[i]?) :
    ∃ cs, W.cells? 0 (a.add (i * P.cellsOf e)) (P.cellsOf e) = some cs ∧ DataW.trod enc P W 0 (fun _ => true) true n e cs = some r[i] := by
  rw [List.getElem?_eq_getElem hi] at h
  exact Option.bind_eq_some_iff.1 h

/-- the reading of a term at fuel n gives its tree -/
def OpenC (enc : TypeId × Value → H) (W : World) (n : Nat) : Prop := ∀ (cs : List Value) (x : DataW H × List MemPlace), DataW.trod enc Try.prog W 0 (fun _ => true) true n 29 cs = some x → (∀ m ∈ x.1.weights Try.prog 29, m ≤ reachBytes) → ∃ t : Tm, t.In W (Lo W.heap.size) cs.toArray

theorem byte_of {len : Nat} (f : Nat → Int) (hf : ∀ i, i < len → 0 ≤ f i ∧ f i ≤ 255) : ∃ l : ByteArray, l.size = len ∧ ∀ i, i < len → Sp.byte l i = f i := by
  refine ⟨⟨((List.range len).map fun i => UInt8.ofNat (f i).toNat).toArray⟩, by simp [ByteArray.size], fun i hi => ?_⟩
  have h := hf i hi
  unfold Sp.byte
  rw [Array.getD, dif_pos (by simpa using hi)]
  simp
  omega

end
end Go.Proofs.Ytkomcebknllaiaa

/- What is read of a slice of bytes, with the form's own reach. -/
namespace Go.Proofs.Ytkomcebknllaiaa
open Go.ChangeShapes Go.WideShapes Go.ChangeAt Go.RowKit
variable {H : Type} {enc : TypeId × Value → H} {W : World}

set_option maxRecDepth 100000 in
theorem open_bytesD {n : Nat} {v : Value} {x : DataW H × List MemPlace} (h : DataW.trod enc Try.prog W 0 (fun _ => true) true n 23 [v] = some x) (hw : ∀ m ∈ x.1.weights Try.prog 23, m ≤ reachBytes) :
    ∃ (l : ByteArray) (a : Option Addr) (cap : Nat), v = .slice a l.size cap ∧ l.size ≤ 140737488351232 ∧ BytesAt W (Lo W.heap.size) a l ∧ l.size ≤ cap := by
  rcases DataW.trod_slice Try.underlying23 h with ⟨hcs, rfl⟩ | ⟨a, len, cap, elems, rest, n', rfl, hcs, rfl, _, hlc, hcm, hlen, hel, _, _⟩
  · simp at hcs; subst hcs; exact ⟨ByteArray.empty, none, 0, rfl, by simp, fun j hj => by simp at hj, by simp⟩
  · simp at hcs; subst hcs
    have hlen' : len ≤ 140737488351232 := by
      have := hw (((elems.map (·.1)).length + (rest.map (·.1)).length) * Try.prog.bytesOf 5) (by simp only [DataW.weights, Try.underlying23]; exact List.mem_cons_self ..)
      rw [Try.bU8, List.length_map, List.length_map, hlen] at this
      have : reachBytes = 140737488351232 := by rfl
      omega
    have hread : ∀ i, i < len → ∃ x : Int, W.cell? (a.add i) = some (.int .u8 x) ∧ 0 ≤ x ∧ x ≤ 255 := by
      intro i hi
      obtain ⟨cs, hc, ht⟩ := elem_at (by omega) (hel i hi)
      obtain ⟨z, rfl, _, hz⟩ := DataW.trod_int Try.underlying5 ht
      rw [Try.cU8, Nat.mul_one] at hc
      obtain ⟨_, _, hcell⟩ := World.cells?_some hc
      have := hcell 0 (by omega)
      have hb := bounds_u8 hz
      exact ⟨z, by simpa [Addr.add] using this, hb.1, hb.2⟩
    obtain ⟨l, hl, hb⟩ := byte_of (len := len) (fun i => match W.cell? (a.add i) with | some (.int .u8 x) => x | _ => 0) (fun i hi => by
      obtain ⟨x, hx, h1, h2⟩ := hread i hi
      rw [hx]; exact ⟨h1, h2⟩)
    subst hl
    refine ⟨l, some a, cap, rfl, hlen', ?_, hlc⟩
    intro j hj
    obtain ⟨z, hz, _, _⟩ := hread j hj
    have hbj := hb j hj
    rw [hz] at hbj
    obtain ⟨b, o, spot⟩ := a
    have hsp : spot = none := by
      obtain ⟨z0, hz0, _, _⟩ := hread 0 (by omega)
      simpa [Addr.add] using World.cell?_spot hz0
    subst hsp
    rw [add_none] at hz
    exact ⟨b, o, rfl, World.block_lt_of_cell? _ _ hz, by rw [hbj]; exact hz⟩
end Go.Proofs.Ytkomcebknllaiaa

/- Decode and Skip of any bytes tell the document's value, place and error, the bytes stay, and what is told is new memory: the Go function tenonlaw03.WireDecodes returns true at every argument that can be read, and leaves it as it was. -/
namespace Go.Proofs.Ytkomcebknllaiaa
open Go.ChangeShapes Go.WideShapes Go.ChangeAt Go.RowKit

theorem Try.own : ownKnob Try.prog.godebug = none := by kernel_rfl
theorem Try.laidOut : laidOutB Try.prog = true := by kernel_rfl

set_option maxRecDepth 100000 in
theorem WireDecodes_lifted (os : Os) (started : os.Started) (H : Type) (enc : TypeId × Value → H) :
    ReturnsInHanded {} Try.checked os 7 .any (Rows.wireDecodesSpec.pre6 enc Try.prog Try.f7 Rows.wireDecodesRow.domain false) (Rows.wireDecodesSpec.post enc Try.prog Try.f7 false true false false) := by
  refine returnsInHanded_of_change_sized (C := Try.checked) Try.own started (by kernel_rfl) Try.func7
    (ChangeSpec.witness6 (enc := enc) (C := Try.checked) false ⟨#[], #[.slice none 0 0], []⟩ 8 (by kernel_rfl) (by kernel_rfl) (by kernel_rfl) (by kernel_rfl)) ?_
  intro W base args ds gs before hval0 hW hcnd hsz0 _
  have hval : ∀ (j : Nat) t v, Try.f7.params[j]? = some t → args[j]? = some v → Value.okWide Try.prog W .any base t v := hval0
  have hW' := hW
  obtain ⟨p, q, hA0, hV, rfl, hfz, hnd⟩ := hW
  have hA : DataW.TrodAll enc Try.prog W 0 (fun _ => true) true Try.f7.params.toList args.toList ds p := hA0
  rw [Try.params7] at hA hval
  obtain ⟨v0, d0, rfl, rfl, h0⟩ := trodAll_one hA
  obtain ⟨rfl, rfl⟩ := trodVars_none hV
  have k0 := h0
  have lt0 : ∀ x ∈ p, x.block < W.heap.size := by obtain ⟨m, hm⟩ := k0; exact DataW.trod_lt m _ _ _ hm
  have hsz : ∀ m ∈ d0.weights Try.prog 23, m ≤ reachBytes := by
    intro m hm
    have := List.all_eq_true.1 hsz0 m (DataW.weights_mem_each (j := 0) (t := 23) (d := d0) rfl rfl m hm)
    simpa using this
  obtain ⟨l, ab, cb, rfl, hl, hab, hcb⟩ : ∃ (l : ByteArray) (a : Option Addr) (cap : Nat), v0 = .slice a l.size cap ∧ l.size ≤ 140737488351232 ∧ BytesAt W (Lo W.heap.size) a l ∧ l.size ≤ cap := by
    obtain ⟨fuel, hf⟩ := h0
    obtain ⟨a1, len1, cap1, rfl⟩ := okWide_slice Try.underlying23 (hval 0 23 v0 rfl rfl)
    exact open_bytesD (by simpa [Value.cells] using hf) hsz
  clear hA0 hval0
  refine (WireDecodes_any l ab cb W hl hab hcb).mono fun e W' ⟨he, bel⟩ => ?_
  subst he
  exact ⟨_, rfl, _, _, _, [], _, [], hW', trodAll_mk1 (shut_bool Try.underlying4 _), trodAll_mk1 (Below.trod Try.laidOut (by kernel_rfl) (of_decide_eq_true (by kernel_rfl)) k0 bel lt0), rfl, bel.frame _, fun h => by cases h⟩

theorem WireDecodes_holds : Rows.WireDecodesSaid :=
  OpenClaim.holds_of_wide 7 Try.f7 rfl rfl rfl rfl rfl rfl rfl ⟨rfl, rfl, rfl, rfl, rfl⟩ rfl rfl rfl rfl rfl (by kernel_rfl) Try.func7 (by kernel_rfl)
    (of_decide_eq_true (by kernel_rfl)) (by unfold Func.isWrapper; first | (rw [if_pos (by decide +kernel)]; kernel_rfl) | (rw [if_neg (by decide +kernel)]; exact ⟨rfl, rfl⟩))
    (fun os started H enc _ => WireDecodes_lifted os started H enc)
end Go.Proofs.Ytkomcebknllaiaa

