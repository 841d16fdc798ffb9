/- tenonlaw10.ObjectApart returns true at every identity and all entries. -/
import Derived.Test.YtgcgaekomegobaaR35
import Derived.Test.YtgcgaekomegobaaR37
import Derived.Test.YtgcgaekomegobaaR38
namespace Go.Proofs.Ytgcgaekomegobaa
open Go.RowKit

theorem TmF.In_nth {w : World} {B : Nat → Prop} : (L : TmF) → ∀ a k j n t, L.In w B a k → L.nth j = some (n, t) → ∃ g o, a = some ⟨g, o, none⟩ ∧ w.cell? ⟨g, o + (k + j) * 12, none⟩ = some (.string n) ∧ t.Bdd
  | .cons m u l, a, k, 0, n, t, h, hj => by
    simp only [TmF.nth, Option.some.injEq, Prod.mk.injEq] at hj
    obtain ⟨rfl, rfl⟩ := hj
    simp only [TmF.In] at h
    obtain ⟨g, o, cs, e, _, c0, _, _, hi, _⟩ := h
    exact ⟨g, o, e, c0, u.In_bdd cs hi⟩
  | .cons m u l, a, k, j + 1, n, t, h, hj => by
    simp only [TmF.In] at h
    obtain ⟨g, o, cs, e, _, c0, _, _, hi, hl⟩ := h
    obtain ⟨g', o', e', h1, h2⟩ := TmF.In_nth l a (k + 1) j n t hl hj
    exact ⟨g', o', e', by rw [show k + (j + 1) = k + 1 + j by omega]; exact h1, h2⟩

theorem tm_ld {w : World} {q : Nat} {k1 : Int} {b1 : Bool} {i1 : Int} {f1 : Nat} {tx1 : ByteArray} {vb : Value} {rf1 : Int} {vl vf : Value} {c1 : ByteArray} {vr1 : Int} {fr : Nat × Nat} (h : w.heap[q]? = some (.cells (tcells k1 b1 i1 f1 tx1 vb rf1 vl vf c1 vr1) 37 fr)) : (loadVar 37 ⟨q, 0, none⟩).run Try.prog w = .ok (.agg (tcells k1 b1 i1 f1 tx1 vb rf1 vl vf c1 vr1)) w :=
  run_loadVar_row w q 37 37 _ fr _ h Try.underlying37 rfl (by kernel_rfl)

set_option maxRecDepth 100000 in
set_option maxHeartbeats 8000000 in
theorem ObjectApart_any (id : Int) (L : TmF) (af : Option Addr) (cf : Nat) (w : World) (hL : L.In w (Lo w.heap.size) af 0) (hlen : L.len * 168 ≤ 140737488355328) :
    Calls Try.prog 4 #[.int .u64 id, .slice af L.len cf] w fun e w' => e = .returned (.bool true) ∧ Below w.heap.size w w' := by
  have HLv : Hid (∀ W, Calls Try.prog 17 #[] W fun e w' => e = .returned (.bool true) ∧ Below W.heap.size W w') := lives_any
  have HD : Hid (∀ W, Below w.heap.size w W → Calls Try.prog 5 #[.slice af L.len cf] W fun e w' => ∃ a cap, e = .returned (.slice a L.len cap) ∧ Below W.heap.size W w' ∧ L.LV w' (Fr W w') a cap) := fun W hW =>
    dict_made L.sz (built_any L.sz) af L cf W (Nat.le_refl _) (Lo w.heap.size) (Sub.lo hW.size) (L.In_same (Same.of_below hW (Nat.le_refl _)) (fun _ h => h) af 0 hL) hlen
  have HIn : Hid (∀ j n t, L.nth j = some (n, t) → ∃ g o, af = some ⟨g, o, none⟩ ∧ (∀ W, Below w.heap.size w W → W.cell? ⟨g, o + j * 12, none⟩ = some (.string n)) ∧ t.Bdd) := by
    intro j n t hj
    obtain ⟨g, o, e, c0, hb⟩ := L.In_nth af 0 j n t hL hj
    rw [Nat.zero_add] at c0
    exact ⟨g, o, e, fun W hW => by rw [hW.cell (p := ⟨g, o + j * 12, none⟩) (World.block_lt_of_cell? _ _ c0)]; exact c0, hb⟩
  have HLen : Hid (L.len * 168 ≤ 140737488355328) := hlen
  clear hL hlen
  go_enter Try.func4, Try.ntmps4
  go_wp2_with fail
  refine (HLv.out _).mono ?_
  rintro e u1 ⟨rfl, hb1⟩
  have HB1 : Hid (Below w.heap.size w u1) := hb1
  clear hb1 HLv
  go_wp2_with fail
  refine (HD.out _ HB1.out).mono ?_
  rintro e u2 ⟨a, cap, rfl, hb2, hLV⟩
  have HB2 : Hid (Below w.heap.size w u2) := HB1.out.trans (hb2.mono HB1.out.size)
  have HLV : Hid (L.LV u2 (Lo u2.heap.size) a cap) := L.LV_same (Same.refl _ _) (fun k hk => hk.2) a cap hLV
  clear hb2 hLV HB1 HD
  go_wp2_with fail
  by_cases hid : id = 0
  · subst hid
    refine (New_zero _ _).mono ?_
    rintro e u3 ⟨rfl, rfl⟩
    go_wp2_with fail
    go_ret
    exact ⟨rfl, HB2.out⟩
  have hid' : (id == 0) = false := by simp [hid]
  by_cases he : (dctT L).all.e = 0
  · refine (New_ok id L a cap u2 hid' HLV.out he).mono ?_
    rintro e W0 ⟨b, rfl, hb3, hT⟩
    obtain ⟨hgd, hnamed, hlen4⟩ := dct_ok he
    have HUp : Hid (Sp.up L.names) := (Sp.named_up _ _ hnamed).1
    have HB3 : Hid (Below w.heap.size w W0 ∧ Th W0 b id L) := ⟨HB2.out.trans (hb3.mono HB2.out.size), hT⟩
    have hl4 : L.len ≤ 4096 := by rw [TmF.names_len] at hlen4; exact hlen4
    have HG : Hid (∀ W j n t, Below W0.heap.size W0 W → L.nth j = some (n, t) → Calls Try.prog 12 #[.pointer (some ⟨b, 0, none⟩), .string n] W fun e w' => ∃ v, e = .returned (.tuple #[v, .bool true]) ∧ Below W.heap.size W w' ∧ t.V w' (Fr W w') v) := fun W j n t hW hj => Get_th b id L j n t W (HB3.out.2.keep hW) HUp.out hgd hl4 hj
    have HAk : Hid (∀ W j n t, Below W0.heap.size W0 W → L.nth j = some (n, t) → Calls Try.prog 18 #[.iface 29 (.pointer (some ⟨b, 0, none⟩)), .string n] W fun e w' => ∃ v, e = .returned (.tuple #[v, .bool true, .int .i64 0]) ∧ Below W.heap.size W w' ∧ t.V w' (Fr W w') v) := fun W j n t hW hj => Ask_th b id L j n t W (HB3.out.2.keep hW) HUp.out hgd hl4 hj (named_nm _ _ hnamed n (List.mem_of_getElem? (L.nth_name j n t hj).1))
    have HOk : Hid (∀ j n t, L.nth j = some (n, t) → t.all.e = 0) := fun j n t hj => L.nth_gd j n t hgd hj
    have HID : Hid (∀ W, Below W0.heap.size W0 W → Calls Try.prog 13 #[.pointer (some ⟨b, 0, none⟩)] W fun e w' => e = .returned (.int .u64 id) ∧ W = w') := fun W hW => ID_th b id W (HB3.out.2.keep hW).1
    have hq : ∀ W, (binOp .eql 29 (.pointer (some ⟨b, 0, none⟩)) (.pointer none)).run Try.prog W = .ok (.bool false) W := fun W => by kernel_rfl
    have hgq : ∀ x y W, (eqGuard .eql 29 x y (.pointer (some ⟨b, 0, none⟩)) (.pointer none)).run Try.prog W = .ok () W := fun x y W => by kernel_rfl
    have HL4 : Hid (L.len ≤ 4096) := hl4
    clear hb3 hT hgd hnamed hlen4 hl4 he hid hid' HLV HB2
    go_wp2_with fail
    go_loopw [7] (fun x wr => ∃ i : Nat, x = .int .i64 (i : Int) ∧ i ≤ L.len ∧ Hid (Below W0.heap.size W0 wr)) (fun x _ => L.len - (intOf x).toNat)
    case atStart => exact ⟨0, rfl, Nat.zero_le _, Below.refl _ _⟩
    case round =>
      obtain ⟨i, rfl, hi, HB⟩ := hrel
      rcases Nat.lt_or_ge i L.len with hlt | hge
      · obtain ⟨nm, t, hnth, _⟩ := L.nth_some i hlt
        obtain ⟨ge, oe, rfl, hcell, hbdd⟩ := HIn.out i nm t hnth
        have HF : Hid (L.nth i = some (nm, t) ∧ t.Bdd ∧ t.all.e = 0 ∧ ∀ W, Below w.heap.size w W → W.cell? ⟨ge, oe + i * 12, none⟩ = some (.string nm)) := ⟨hnth, hbdd, HOk.out i nm t hnth, hcell⟩
        have HWr : Hid (Below w.heap.size w wr) := HB3.out.1.trans (HB.out.mono HB3.out.1.size)
        have y0 : wr.cell? ⟨ge, oe + i * 12, none⟩ = some (.string nm) := hcell wr HWr.out
        have hi0 : (0 : Int) ≤ (i : Int) := by omega
        have hi1 : (i : Int) < (L.len : Int) := by omega
        clear hnth hbdd hcell
        go_wp2_with fail
        refine (HG.out wr i nm t HB.out HF.out.1).mono ?_
        rintro e w1 ⟨v1, rfl, hb1, hv1⟩
        have HS1 : Hid (Below wr.heap.size wr w1 ∧ t.V w1 (Fr wr w1) v1) := ⟨hb1, hv1⟩
        clear hb1 hv1 y0
        go_wp2_with fail
        refine (mPlain_any t v1 w1 (Fr wr w1) HS1.out.2 (fun k hk => hk.2) HF.out.2.2.1 HF.out.2.1).mono ?_
        rintro e w2 ⟨k1, b1, i1, f1, tx1, ab, nb, cb, rf1, al, nl, cl, af1, nf, cf1, c1, vr1, rfl, hb2, hin2⟩
        have HS2 : Hid (Below w1.heap.size w1 w2 ∧ t.clean.In w2 (Fr w1 w2) (tcells k1 b1 i1 f1 tx1 (.slice ab nb cb) rf1 (.slice al nl cl) (.slice af1 nf cf1) c1 vr1)) := ⟨hb2, hin2⟩
        clear hb2 hin2
        unfold tcells
        go_wp2_with fail
        show Calls Try.prog _ _ (w2.alloc (Obj.cells (tcells k1 b1 i1 f1 tx1 (.slice ab nb cb) rf1 (.slice al nl cl) (.slice af1 nf cf1) c1 vr1) 37)) _
        have hz1 := HS1.out.1.size
        have hz2 := HS2.out.1.size
        refine (Spoil_any t v1 (Fr wr w1) (w2.alloc (Obj.cells (tcells k1 b1 i1 f1 tx1 (.slice ab nb cb) rf1 (.slice al nl cl) (.slice af1 nf cf1) c1 vr1) 37)) (t.V_same (fun k hk => (Below.heap_alloc _ _ _ (Nat.lt_of_lt_of_le hk.2 hz2)).trans (HS2.out.1.block k hk.2)) (fun _ h => h) v1 HS1.out.2) (fun k hk => Nat.lt_of_lt_of_le hk.2 (by simp; omega)) HF.out.2.2.1).mono ?_
        rintro e w4 ⟨rfl, hdg⟩
        have hz4 : w2.heap.size + 1 ≤ w4.heap.size := by have := hdg.size; simp at this; exact this
        have f4 : ∀ k, k < w2.heap.size → ¬ Fr wr w1 k → w4.heap[k]? = w2.heap[k]? := fun k hk hn => (hdg.far k (by simp; omega) hn).trans (Below.heap_alloc _ _ _ hk)
        have q4 : w4.heap[w2.heap.size]? = some (Obj.cells (tcells k1 b1 i1 f1 tx1 (.slice ab nb cb) rf1 (.slice al nl cl) (.slice af1 nf cf1) c1 vr1) 37) := (hdg.far w2.heap.size (by simp) (fun h => by have := h.2; omega)).trans (heap_alloc_last _ _)
        have b4 : Below wr.heap.size wr w4 := ⟨hdg.os.trans (HS2.out.1.os.trans HS1.out.1.os), hdg.tape.trans (HS2.out.1.tape.trans HS1.out.1.tape), hdg.output.trans (HS2.out.1.output.trans HS1.out.1.output), by omega, fun k hk => (f4 k (by omega) (fun h => by have := h.1; omega)).trans ((HS2.out.1.block k (by omega)).trans (HS1.out.1.block k hk))⟩
        have HS4 : Hid (Below wr.heap.size wr w4 ∧ w4.heap[w2.heap.size]? = some (Obj.cells (tcells k1 b1 i1 f1 tx1 (.slice ab nb cb) rf1 (.slice al nl cl) (.slice af1 nf cf1) c1 vr1) 37) ∧ Same (Fr w1 w2) w2 w4 ∧ w2.heap.size < w4.heap.size) := ⟨b4, q4, fun k hk => f4 k hk.2 (fun h => by have := h.2; have := hk.1; omega), hz4⟩
        have y4 : w4.cell? ⟨ge, oe + i * 12, none⟩ = some (.string nm) := HF.out.2.2.2 w4 (HWr.out.trans (b4.mono HWr.out.size))
        clear hdg f4 q4 b4 hz4 hz1 hz2
        go_wp2_with fail
        refine (HAk.out w4 i nm t (HB.out.trans (HS4.out.1.mono HB.out.size)) HF.out.1).mono ?_
        rintro e w5 ⟨v2, rfl, hb5, hv5⟩
        have hz5 := hb5.size
        have HS5 : Hid (Below w4.heap.size w4 w5 ∧ t.V w5 (Fr w4 w5) v2) := ⟨hb5, hv5⟩
        have HLD5 : Hid ((loadVar 37 ⟨w2.heap.size, 0, none⟩).run Try.prog w5 = .ok (.agg (tcells k1 b1 i1 f1 tx1 (.slice ab nb cb) rf1 (.slice al nl cl) (.slice af1 nf cf1) c1 vr1)) w5) := tm_ld ((hb5.block _ HS4.out.2.2.2).trans HS4.out.2.1)
        have HT5 : Hid (Calls Try.prog 19 #[v2, .agg (tcells k1 b1 i1 f1 tx1 (.slice ab nb cb) rf1 (.slice al nl cl) (.slice af1 nf cf1) c1 vr1)] w5 fun e w' => e = .returned (.bool true) ∧ Below w5.heap.size w5 w') := told_any t v2 _ _ _ _ _ _ _ _ _ _ _ _ _ _ _ _ _ w5 (t.V_same (Same.refl _ _) (fun k hk => hk.2) v2 hv5) (t.clean.In_same (fun k hk => (hb5.block k (by have := hk.2; have := HS4.out.2.2.2; omega)).trans (HS4.out.2.2.1 k hk)) (fun k hk => by have := hk.2; have := HS4.out.2.2.2; show k < _; omega) _ HS2.out.2) HF.out.2.2.1
        clear hb5 hv5 y4 hz5
        go_wp2_with ((with_reducible refine ldr ?_ ?_ HLD5.out ?_); rfl; rfl)
        refine HT5.out.mono ?_
        rintro e w6 ⟨rfl, hb6⟩
        have HS6 : Hid (Below w5.heap.size w5 w6) := hb6
        clear hb6 HLD5 HT5
        go_wp2_with fail
        refine (Spoil_any t v2 (Fr w4 w5) w6 (t.V_same (fun k hk => HS6.out.block k hk.2) (fun _ h => h) v2 HS5.out.2) (fun k hk => Nat.lt_of_lt_of_le hk.2 HS6.out.size) HF.out.2.2.1).mono ?_
        rintro e w7 ⟨rfl, hdg⟩
        have hz5 := HS5.out.1.size
        have hz6 := HS6.out.size
        have hz7 := hdg.size
        have f7 : ∀ k, k < w4.heap.size → w7.heap[k]? = w4.heap[k]? := fun k hk => (hdg.far k (by omega) (fun h => by have := h.1; omega)).trans ((HS6.out.block k (by omega)).trans (HS5.out.1.block k hk))
        have b7 : Below w4.heap.size w4 w7 := ⟨hdg.os.trans (HS6.out.os.trans HS5.out.1.os), hdg.tape.trans (HS6.out.tape.trans HS5.out.1.tape), hdg.output.trans (HS6.out.output.trans HS5.out.1.output), by omega, f7⟩
        have HS7 : Hid (Below w4.heap.size w4 w7 ∧ Below wr.heap.size wr w7) := ⟨b7, HS4.out.1.trans (b7.mono HS4.out.1.size)⟩
        have y7 : w7.cell? ⟨ge, oe + i * 12, none⟩ = some (.string nm) := HF.out.2.2.2 w7 (HWr.out.trans (HS7.out.2.mono HWr.out.size))
        clear hdg hz5 hz6 hz7 f7 b7
        go_wp2_with fail
        refine (HG.out w7 i nm t (HB.out.trans (HS7.out.2.mono HB.out.size)) HF.out.1).mono ?_
        rintro e w8 ⟨v3, rfl, hb8, hv8⟩
        have hz8 := hb8.size
        have hz7 := HS7.out.1.size
        have HS8 : Hid (Below wr.heap.size wr w8) := HS7.out.2.trans (hb8.mono HS7.out.2.size)
        have HLD8 : Hid ((loadVar 37 ⟨w2.heap.size, 0, none⟩).run Try.prog w8 = .ok (.agg (tcells k1 b1 i1 f1 tx1 (.slice ab nb cb) rf1 (.slice al nl cl) (.slice af1 nf cf1) c1 vr1)) w8) := tm_ld ((hb8.block _ (by have := HS4.out.2.2.2; omega)).trans ((HS7.out.1.block _ HS4.out.2.2.2).trans HS4.out.2.1))
        have HT8 : Hid (Calls Try.prog 19 #[v3, .agg (tcells k1 b1 i1 f1 tx1 (.slice ab nb cb) rf1 (.slice al nl cl) (.slice af1 nf cf1) c1 vr1)] w8 fun e w' => e = .returned (.bool true) ∧ Below w8.heap.size w8 w') := told_any t v3 _ _ _ _ _ _ _ _ _ _ _ _ _ _ _ _ _ w8 (t.V_same (Same.refl _ _) (fun k hk => hk.2) v3 hv8) (t.clean.In_same (fun k hk => (hb8.block k (by have := hk.2; have := HS4.out.2.2.2; omega)).trans ((HS7.out.1.block k (by have := hk.2; have := HS4.out.2.2.2; omega)).trans (HS4.out.2.2.1 k hk))) (fun k hk => by have := hk.2; have := HS4.out.2.2.2; show k < _; omega) _ HS2.out.2) HF.out.2.2.1
        clear hb8 hv8 y7 hz8 hz7
        go_wp2_with ((with_reducible refine ldr ?_ ?_ HLD8.out ?_); rfl; rfl)
        refine HT8.out.mono ?_
        rintro e w9 ⟨rfl, hb9⟩
        have HS9 : Hid (Below W0.heap.size W0 w9) := HB.out.trans ((HS8.out.trans (hb9.mono HS8.out.size)).mono HB.out.size)
        clear hb9 HLD8 HT8
        have hw1 : IntKind.i64.wrap ((i : Int) + 1) = ((i + 1 : Nat) : Int) := by rw [IntKind.wrap_i64]; have := HL4.out; omega
        have hL4 := HL4.out
        go_wp2_with fail
        exact ⟨⟨i + 1, by simp, by omega, HS9⟩, by simp [intOf]; omega⟩
      · have hi1 : ¬ (i : Int) < (L.len : Int) := by omega
        go_wp2_with fail
        refine (HID.out wr HB.out).mono ?_
        rintro e w9 ⟨rfl, rfl⟩
        go_wp2_with fail
        go_ret
        exact ⟨rfl, HB3.out.1.trans (HB.out.mono HB3.out.1.size)⟩
  · refine (New_err id L a cap u2 hid' HLV.out he).mono ?_
    rintro e u3 ⟨rfl, hb3⟩
    have HB3 : Hid (Below w.heap.size w u3) := HB2.out.trans (hb3.mono HB2.out.size)
    have hb : ((dctT L).all.e != 0) = true := by simp [he]
    clear hb3 he
    generalize (dctT L).all.e = q at hb ⊢
    go_wp2_with fail
    go_ret
    exact ⟨rfl, HB3.out⟩
end Go.Proofs.Ytgcgaekomegobaa

