/- value.Of at any term. -/
import Derived.Test.YtjdjpbdfchhcfaaGreatKE15
import Derived.Test.YtjdjpbdfchhcfaaGreatKE17
import Derived.Test.YtjdjpbdfchhcfaaGreatKE13
import Derived.Test.YtjdjpbdfchhcfaaGreatKE9
import Derived.Test.YtjdjpbdfchhcfaaGreatKE6
namespace Go.Proofs.YtjdjpbdfchhcfaaGreat
open Go.RowKit

set_option maxRecDepth 100000 in
set_option maxHeartbeats 1000000 in
theorem Of_err (t : Tm) (cs : Array Value) (B : Nat → Prop) (w : World) (h : t.In w B cs) (hB : Sub B w) (he : t.all.e ≠ 0) :
    Calls Tryz.prog 110 #[.agg cs] w fun e w' => e = .returned (.tuple #[.nilIface, .int .i64 t.all.e]) ∧ Below w.heap.size w w' := by
  have HT : Hid (∀ W, Below w.heap.size w W → Wk W (w.heap.size + 1) 0 0 → Calls Tryz.prog 126 #[.pointer (some ⟨w.heap.size + 1, 0, none⟩), .agg cs, .int .i64 1] W fun e w' => e = .returned (.int .i64 t.all.e) ∧ Below (w.heap.size + 1) W w') := fun W hW hk =>
    (term_any t.sz t (Nat.le_refl _) (w.heap.size + 1) cs 0 0 1 W hk (t.In_same (hB.same hW) (fun k hk => Nat.lt_of_lt_of_le (hB k hk) (Nat.le_succ _)) cs h) (by decide) (by decide) (by decide) (by decide)).mono fun e w' h => ⟨h.1, h.2.2⟩
  obtain ⟨k1, b1, i1, f1, tx1, ab1, nb1, cb1, rf1, al1, nl1, cl1, af1, nf1, cf1, cc1, vr1, rfl⟩ := Tm.In_tc' h
  have he' := ne_bool he
  have HK : Hid (∀ o, Wk ((w.alloc o).alloc (.cells #[.int .i64 0, .int .i64 0] 164)) (w.heap.size + 1) 0 0) := fun o => by
    have := Wk_new (w.alloc o); simpa using this
  clear h he
  unfold tcells at HT ⊢
  go_enter Tryz.func110, Tryz.ntmps110
  go_wp2_with (go_at_call 126; refine (HT.out _ (((Below.refl _ _).alloc (Nat.le_refl _) _).alloc (by simp) _) (HK.out _)).mono ?_; rintro e w1 ⟨rfl, hb1⟩)
  go_ret2
  exact ⟨rfl, (((Below.refl _ _).alloc (Nat.le_refl _) _).alloc (by simp) _).trans (hb1.mono (by omega))⟩

set_option maxRecDepth 100000 in
set_option maxHeartbeats 1000000 in
theorem Of_ok (t : Tm) (cs : Array Value) (B : Nat → Prop) (w : World) (h : t.In w B cs) (hB : Sub B w) (he : t.all.e = 0) :
    Calls Tryz.prog 110 #[.agg cs] w fun e w' => ∃ v, e = .returned (.tuple #[v, .int .i64 0]) ∧ Below w.heap.size w w' ∧ t.V w' (Fr w w') v := by
  have HT : Hid (∀ W, Below w.heap.size w W → Wk W (w.heap.size + 1) 0 0 → Calls Tryz.prog 126 #[.pointer (some ⟨w.heap.size + 1, 0, none⟩), .agg cs, .int .i64 1] W fun e w' => e = .returned (.int .i64 t.all.e) ∧ Below (w.heap.size + 1) W w') := fun W hW hk =>
    (term_any t.sz t (Nat.le_refl _) (w.heap.size + 1) cs 0 0 1 W hk (t.In_same (hB.same hW) (fun k hk => Nat.lt_of_lt_of_le (hB k hk) (Nat.le_succ _)) cs h) (by decide) (by decide) (by decide) (by decide)).mono fun e w' h => ⟨h.1, h.2.2⟩
  have HV : Hid (∀ W, Below w.heap.size w W → Calls Tryz.prog 127 #[.agg cs] W fun e w' => ∃ v, e = .returned v ∧ Below W.heap.size W w' ∧ t.V w' (Fr W w') v) := fun W hW =>
    valueOf_any t.sz t (Nat.le_refl _) cs B W (t.In_same (hB.same hW) (fun _ h => h) cs h) (hB.later hW) (Tm.ok_all he)
  obtain ⟨k1, b1, i1, f1, tx1, ab1, nb1, cb1, rf1, al1, nl1, cl1, af1, nf1, cf1, cc1, vr1, rfl⟩ := Tm.In_tc' h
  have HK : Hid (∀ o, Wk ((w.alloc o).alloc (.cells #[.int .i64 0, .int .i64 0] 164)) (w.heap.size + 1) 0 0) := fun o => by
    have := Wk_new (w.alloc o); simpa using this
  rw [he] at HT
  have HX : Hid (∀ o p w1, Below (w.heap.size + 1) ((w.alloc o).alloc p) w1 → w1.heap[w.heap.size]? = some o ∧ Below w.heap.size w w1) := fun o p w1 h => by
    have hh : ((w.alloc o).alloc p).heap[w.heap.size]? = some o := by
      rw [((Below.refl (w.alloc o).heap.size _).alloc (Nat.le_refl _) p).block w.heap.size (by simp)]; exact heap_alloc_new w o
    exact ⟨by rw [h.block w.heap.size (by omega)]; exact hh, (((Below.refl _ _).alloc (Nat.le_refl _) _).alloc (by simp) _).trans (h.mono (by omega))⟩
  clear h he
  unfold tcells at HT HV ⊢
  go_enter Tryz.func110, Tryz.ntmps110
  go_wp2_with (first
    | (go_at_call 126; refine (HT.out _ (((Below.refl _ _).alloc (Nat.le_refl _) _).alloc (by simp) _) (HK.out _)).mono ?_; rintro e w1 ⟨rfl, hb1⟩; obtain ⟨hx1, hb1'⟩ := HX.out _ _ _ hb1; have HB1 : Hid _ := hb1'; obtain ⟨t0, t1, t2, t3, t4, t5, t6, t7, t8, t9, t10⟩ := tbox hx1; clear hb1 hx1 hb1')
    | (go_at_call 127; refine (HV.out _ HB1.out).mono ?_; rintro e w2 ⟨v, rfl, hb2, hv⟩; have HB2 : Hid _ := hb2; have HV2 : Hid _ := hv; clear hb2 hv))
  go_ret2
  exact ⟨v, rfl, below_to HB1.out HB2.out, t.V_same (Same.refl _ _) (fun k hk => ⟨Nat.le_trans HB1.out.size hk.1, hk.2⟩) v HV2.out⟩
end Go.Proofs.YtjdjpbdfchhcfaaGreat

/- value.termOf and value.entriesOf: the term of a value that can be, in new memory. -/
namespace Go.Proofs.YtjdjpbdfchhcfaaGreat
open Go.RowKit

mutual
def Tm.clean : Tm → Tm
  | .mk k b i f tx by' rf l fs c v => .mk k (if k = 2 then b else false) (if k = 3 then i else 0) (if k = 4 then f else 0) (if k = 5 then tx else ByteArray.empty) (if k = 6 then by' else ByteArray.empty) (if k = 7 then rf else 0) (if k = 8 then l.clean else .nil) (if k = 9 ∨ k = 10 then fs.clean else .nil) (if k = 10 then c else ByteArray.empty) (if k = 10 then v else 0)
def TmL.clean : TmL → TmL
  | .nil => .nil
  | .cons t l => .cons t.clean l.clean
def TmF.clean : TmF → TmF
  | .nil => .nil
  | .cons n t l => .cons n t.clean l.clean
end
mutual
def Tm.Bdd : Tm → Prop
  | .mk _ _ i f _ _ rf l fs _ v => (-9223372036854775808 ≤ i ∧ i ≤ 9223372036854775807) ∧ f < 18446744073709551616 ∧ (0 ≤ rf ∧ rf ≤ 18446744073709551615) ∧ (-9223372036854775808 ≤ v ∧ v ≤ 9223372036854775807) ∧ l.Bdd ∧ fs.Bdd
def TmL.Bdd : TmL → Prop
  | .nil => True
  | .cons t l => t.Bdd ∧ l.Bdd
def TmF.Bdd : TmF → Prop
  | .nil => True
  | .cons _ t l => t.Bdd ∧ l.Bdd
end
mutual
theorem Tm.In_bdd {w : World} {B : Nat → Prop} : (t : Tm) → ∀ cs, t.In w B cs → t.Bdd
  | .mk k b i f tx by' rf l fs c v, cs, h => by
    simp only [Tm.In] at h
    obtain ⟨ab, cb, al, cl, af, cf, rfl, hbd, hby, hl, hfs⟩ := h
    simp only [Tm.Bdd]
    exact ⟨⟨hbd.i0, hbd.i1⟩, hbd.f1, ⟨hbd.r0, hbd.r1⟩, ⟨hbd.v0, hbd.v1⟩, TmL.In_bdd l _ _ hl, TmF.In_bdd fs _ _ hfs⟩
theorem TmL.In_bdd {w : World} {B : Nat → Prop} : (l : TmL) → ∀ a j, l.In w B a j → l.Bdd
  | .nil, _, _, _ => trivial
  | .cons t l, a, j, h => by
    simp only [TmL.In] at h
    obtain ⟨_, _, _, _, _, _, ht, hl⟩ := h
    exact ⟨Tm.In_bdd t _ ht, TmL.In_bdd l _ _ hl⟩
theorem TmF.In_bdd {w : World} {B : Nat → Prop} : (l : TmF) → ∀ a j, l.In w B a j → l.Bdd
  | .nil, _, _, _ => trivial
  | .cons n t l, a, j, h => by
    simp only [TmF.In] at h
    obtain ⟨_, _, _, _, _, _, _, _, ht, hl⟩ := h
    exact ⟨Tm.In_bdd t _ ht, TmF.In_bdd l _ _ hl⟩
end
theorem TmL.clean_len : (l : TmL) → l.clean.len = l.len
  | .nil => rfl
  | .cons t l => by simp only [TmL.clean, TmL.len, TmL.clean_len l]
theorem TmF.clean_len : (l : TmF) → l.clean.len = l.len
  | .nil => rfl
  | .cons n t l => by simp only [TmF.clean, TmF.len, TmF.clean_len l]

def TOfC (N : Nat) : Prop := ∀ (t : Tm), t.sz ≤ N → ∀ (v : Value) (B : Nat → Prop) (w : World), t.V w B v → Sub B w → t.Ok → t.Bdd →
  Calls Tryz.prog 97 #[v] w fun e w' => ∃ cs, e = .returned (.agg cs) ∧ Below w.heap.size w w' ∧ t.clean.In w' (FrS w w') cs
theorem TOfC.at {N : Nat} (HC : TOfC N) {t : Tm} (hN : t.sz ≤ N) {v : Value} {B : Nat → Prop} {w : World} (h : t.V w B v) (hB : Sub B w) (ho : t.Ok) (hb : t.Bdd) :
    ∀ W, Below w.heap.size w W → Calls Tryz.prog 97 #[v] W fun e w' => ∃ k b i f tx ab nb cb rf al nl cl af nf cf c vr, e = .returned (.agg (tcells k b i f tx (.slice ab nb cb) rf (.slice al nl cl) (.slice af nf cf) c vr)) ∧ Below W.heap.size W w' ∧ t.clean.In w' (FrS W w') (tcells k b i f tx (.slice ab nb cb) rf (.slice al nl cl) (.slice af nf cf) c vr) := by
  intro W hW
  refine (HC t hN v B W (t.V_same (hB.same hW) (fun _ h => h) v h) (hB.later hW) ho hb).mono ?_
  rintro e w' ⟨cs, rfl, hb, hv⟩
  obtain ⟨k1, b1, i1, f1, tx1, ab1, nb1, cb1, rf1, al1, nl1, cl1, af1, nf1, cf1, cc1, vr1, rfl⟩ := Tm.In_tc' hv
  exact ⟨k1, b1, i1, f1, tx1, ab1, nb1, cb1, rf1, al1, nl1, cl1, af1, nf1, cf1, cc1, vr1, rfl, hb, hv⟩
end Go.Proofs.YtjdjpbdfchhcfaaGreat

/- value.termOf at a list. -/
namespace Go.Proofs.YtjdjpbdfchhcfaaGreat
open Go.RowKit

theorem RW.eleven {w wr : World} {g n : Nat} {xs : List Value} (h : RW 29 w wr g n xs) (o : Nat) (ho : o + 11 ≤ n) :
    ((∃ u, wr.cell? ⟨g, o, none⟩ = some u) ∧ wr.frozen? ⟨g, o, none⟩ = false) ∧ ((∃ u, wr.cell? ⟨g, o + 1, none⟩ = some u) ∧ wr.frozen? ⟨g, o + 1, none⟩ = false) ∧ ((∃ u, wr.cell? ⟨g, o + 2, none⟩ = some u) ∧ wr.frozen? ⟨g, o + 2, none⟩ = false) ∧ ((∃ u, wr.cell? ⟨g, o + 3, none⟩ = some u) ∧ wr.frozen? ⟨g, o + 3, none⟩ = false) ∧ ((∃ u, wr.cell? ⟨g, o + 4, none⟩ = some u) ∧ wr.frozen? ⟨g, o + 4, none⟩ = false) ∧ ((∃ u, wr.cell? ⟨g, o + 5, none⟩ = some u) ∧ wr.frozen? ⟨g, o + 5, none⟩ = false) ∧ ((∃ u, wr.cell? ⟨g, o + 6, none⟩ = some u) ∧ wr.frozen? ⟨g, o + 6, none⟩ = false) ∧ ((∃ u, wr.cell? ⟨g, o + 7, none⟩ = some u) ∧ wr.frozen? ⟨g, o + 7, none⟩ = false) ∧ ((∃ u, wr.cell? ⟨g, o + 8, none⟩ = some u) ∧ wr.frozen? ⟨g, o + 8, none⟩ = false) ∧ ((∃ u, wr.cell? ⟨g, o + 9, none⟩ = some u) ∧ wr.frozen? ⟨g, o + 9, none⟩ = false) ∧ ((∃ u, wr.cell? ⟨g, o + 10, none⟩ = some u) ∧ wr.frozen? ⟨g, o + 10, none⟩ = false) :=
  ⟨h.own o (by omega), h.own (o + 1) (by omega), h.own (o + 2) (by omega), h.own (o + 3) (by omega), h.own (o + 4) (by omega), h.own (o + 5) (by omega), h.own (o + 6) (by omega), h.own (o + 7) (by omega), h.own (o + 8) (by omega), h.own (o + 9) (by omega), h.own (o + 10) (by omega)⟩
theorem box_writes {W : World} {g : Nat} {cs : Array Value} {e : TypeId} (h : W.heap[g]? = some (.cells cs e (0, 0))) : ∀ j, W.frozen? ⟨g, j, none⟩ = false := fun j => frozen_of_row _ _ j _ _ h

set_option maxRecDepth 100000 in
set_option maxHeartbeats 4000000 in
theorem tof_8 (N : Nat) (HC : TOfC N) (a : Option Addr) (L : TmL) (cl : Nat) (w : World) (hN : L.sz ≤ N) (B : Nat → Prop) (hB : Sub B w) (hL : L.V w B a 0) (hlen : L.len ≤ 4096) (ho : L.Ok) (hbd : L.Bdd) :
    Calls Tryz.prog 97 #[.iface 71 (.slice a L.len cl)] w fun e w' => ∃ a' cap, e = .returned (.agg (tcells 8 false 0 0 ByteArray.empty (.slice none 0 0) 0 (.slice a' L.len cap) (.slice none 0 0) ByteArray.empty 0)) ∧ Below w.heap.size w w' ∧ L.clean.In w' (FrS w w') a' 0 := by
  obtain ⟨i0, hi, hz0, hz1, hz2⟩ := info_parts Tryz.infoT
  have HCH : Hid (TOfC N) := HC
  clear HC
  obtain ⟨M, hM⟩ : ∃ M, M = madeCells (Value.agg (tcells 0 false 0 0 ByteArray.empty (.slice none 0 0) 0 (.slice none 0 0) (.slice none 0 0) ByteArray.empty 0)).cells (((L.len : Nat) : Int).toNat * i0.size) := ⟨_, rfl⟩
  have hMs : M.size = L.len * 11 := by rw [hM, size_madeCells, hz1]; simp
  have hmake : ∀ W : World, (Instr.makeSlice 26 (.int .i64 (L.len : Int)) (.int .i64 (L.len : Int))).run Tryz.prog W = .ok (.slice (some ⟨W.heap.size, 0, none⟩) L.len L.len) (W.alloc (.cells M 29)) := fun W => by
    have h := run_make (P := Tryz.prog) W 26 29 i0 _ Tryz.undT hi hz0 .i64 .i64 (L.len : Int) (L.len : Int) (by omega) (by omega) (by rw [hz2]; omega) (by omega)
    rw [← hM] at h; simpa using h
  clear hM hi hz0 hz1 hz2
  have H0 : Hid (∀ o p, RW 29 w (((w.alloc o).alloc p).alloc (.cells M 29)) (w.heap.size + 1 + 1) (L.len * 11) [] ∧ TPre (((w.alloc o).alloc p).alloc (.cells M 29)) (OwnS (w.heap.size + 1 + 1) (((w.alloc o).alloc p).alloc (.cells M 29)) (w.heap.size + 1 + 1)) L.clean [] L.clean ∧ L.V w B a 0 ∧ L.Ok ∧ L.Bdd ∧ (((w.alloc o).alloc p).alloc (.cells M 29)).heap[w.heap.size]? = some o ∧ (((w.alloc o).alloc p).alloc (.cells M 29)).heap[w.heap.size + 1]? = some p) := fun o p => by
    have hb : Below w.heap.size w ((w.alloc o).alloc p) := ((Below.refl _ _).alloc (Nat.le_refl _) _).alloc (by simp) _
    have h := RW.made (w := w) (w0 := (w.alloc o).alloc p) hb M 29
    rw [hMs] at h
    refine ⟨by simpa using h, (TPre_nil _ _).2 rfl, hL, ho, hbd, ?_, ?_⟩
    · rw [Below.heap_alloc _ _ _ (by simp; omega), Below.heap_alloc _ _ _ (by simp)]; exact heap_alloc_new w o
    · rw [Below.heap_alloc _ _ _ (by simp)]; have := heap_alloc_new (w.alloc o) p; simpa using this
  clear hL ho hbd
  go_enter Tryz.func97, Tryz.ntmps97
  go_wp2_with (go_at_call 101; refine (kindOf_list _ _).mono ?_; rintro e w' ⟨rfl, rfl⟩)
  go_loopw [60] (fun x wr => ∃ (k : Nat) (l : TmL) (xs : List (Array Value)), x = .int .i64 k ∧ l.len + k = L.len ∧ l.sz ≤ N ∧ (xs.flatMap (·.toList)).length = k * 11 ∧ Hid (RW 29 w wr (w.heap.size + 1 + 1) (L.len * 11) (xs.flatMap (·.toList)) ∧ TPre wr (OwnS (w.heap.size + 1 + 1) wr (w.heap.size + 1 + 1)) L.clean xs l.clean ∧ l.V w B a k ∧ l.Ok ∧ l.Bdd ∧ wr.heap[w.heap.size]? = some (.cells #[.int .i64 0, .bool false, .int .i64 0, .float .f64 0, .string ByteArray.empty, .slice none 0 0, .int .u64 0, .slice none 0 0, .slice none 0 0, .string ByteArray.empty, .int .i64 0] 29 (0, 0)) ∧ wr.heap[w.heap.size + 1]? = some (.cells #[.int .i64 8, .bool false, .int .i64 0, .float .f64 0, .string ByteArray.empty, .slice none 0 0, .int .u64 0, .slice (some ⟨w.heap.size + 1 + 1, 0, none⟩) L.len L.len, .slice none 0 0, .string ByteArray.empty, .int .i64 0] 29 (0, 0)))) (fun x _ => L.len - (intOf x).toNat)
  case atStart => exact ⟨0, L, [], rfl, rfl, hN, rfl, H0.out _ _⟩
  case round =>
    obtain ⟨k, l, xs, rfl, hl, hlN, hxs, HR⟩ := hrel
    clear H0
    cases l with
    | nil =>
      have h1 : L.len ≤ k := by simp [TmL.len] at hl; omega
      obtain ⟨r0, r1, r2, r3, r4, r5, r6, r7, r8, r9, r10⟩ := tbox HR.out.2.2.2.2.2.1
      obtain ⟨t0, t1, t2, t3, t4, t5, t6, t7, t8, t9, t10⟩ := tbox HR.out.2.2.2.2.2.2
      have hf := box_writes HR.out.2.2.2.2.2.1
      have f0 := hf 0; have f1 := hf 1; have f2 := hf 2; have f3 := hf 3; have f4 := hf 4; have f5 := hf 5; have f6 := hf 6; have f7 := hf 7; have f8 := hf 8; have f9 := hf 9; have f10 := hf 10
      clear hl hf
      have HE : Hid (Below w.heap.size w (setN wr w.heap.size 0 [.int .i64 8, .bool false, .int .i64 0, .float .f64 0, .string ByteArray.empty, .slice none 0 0, .int .u64 0, .slice (some ⟨w.heap.size + 1 + 1, 0, none⟩) L.len L.len, .slice none 0 0, .string ByteArray.empty, .int .i64 0]) ∧ L.clean.In (setN wr w.heap.size 0 [.int .i64 8, .bool false, .int .i64 0, .float .f64 0, .string ByteArray.empty, .slice none 0 0, .int .u64 0, .slice (some ⟨w.heap.size + 1 + 1, 0, none⟩) L.len L.len, .slice none 0 0, .string ByteArray.empty, .int .i64 0]) (FrS w (setN wr w.heap.size 0 [.int .i64 8, .bool false, .int .i64 0, .float .f64 0, .string ByteArray.empty, .slice none 0 0, .int .u64 0, .slice (some ⟨w.heap.size + 1 + 1, 0, none⟩) L.len L.len, .slice none 0 0, .string ByteArray.empty, .int .i64 0])) (some ⟨w.heap.size + 1 + 1, 0, none⟩) 0) := by
        refine ⟨setN_below (Nat.le_refl _) _ _ _ _ HR.out.1.bel, ?_⟩
        have h := TPre.done (B' := fun k => w.heap.size + 1 + 1 ≤ k ∧ k < wr.heap.size ∧ Soft wr k) (Same.refl _ wr) (fun k hk => ⟨hk.1, hk.2.1, hk.2.2.2⟩) (w.heap.size + 1 + 1) ⟨Nat.le_refl _, HR.out.1.lt.2, HR.out.1.soft⟩ L.clean xs 0 HR.out.2.1 (fun i x hx => by rw [Nat.zero_mul, Nat.zero_add]; exact HR.out.1.got i x hx)
        exact L.clean.In_same (fun k hk => setN_other (by have := hk.1; omega) _ _ _) (fun k hk => ⟨by have := hk.1; omega, by rw [setN_size]; exact hk.2.1, hk.2.2.same (setN_other (by have := hk.1; omega) _ _ _)⟩) _ _ h
      go_wp2_with fail
      refine bodyPost_ret (v := .agg (tcells 8 false 0 0 ByteArray.empty (.slice none 0 0) 0 (.slice (some ⟨w.heap.size + 1 + 1, 0, none⟩) L.len L.len) (.slice none 0 0) ByteArray.empty 0)) (by simp [results, Tryz.results97, go_sem, tcells, r0, r1, r2, r3, r4, r5, r6, r7, r8, r9, r10]) rfl ⟨_, _, rfl, HE.out.1, HE.out.2⟩
    | cons t l =>
      obtain ⟨hrw, hpre, hsrc, hok, hbdd, hR, hT⟩ := HR.out
      simp only [TmL.V] at hsrc
      obtain ⟨g1, o1, v1, rfl, hg1, hc, ht, hl'⟩ := hsrc
      have hk1 : k < L.len := by simp only [TmL.len] at hl; omega
      have HL : Hid (l.len + (k + 1) = L.len) := by show _ = _; simp only [TmL.len] at hl; omega
      have htN : t.sz ≤ N ∧ l.sz ≤ N := by simp [TmL.sz] at hlN; omega
      have hs : Same B w wr := hB.same hrw.bel
      have HO := HCH.out.at htN.1 (t.V_same hs (fun _ h => h) v1 ht) (hB.later hrw.bel) hok.head.1 hbdd.1
      have HO : Hid _ := HO
      have e0 : wr.cell? ⟨g1, o1 + k, none⟩ = some v1 := by rw [hs.cell (p := ⟨g1, o1 + k, none⟩) hg1]; exact hc
      have HN : Hid (l.V w B (some ⟨g1, o1, none⟩) (k + 1) ∧ l.Ok ∧ l.Bdd) := ⟨hl', hok.head.2, hbdd.2⟩
      have HS : Hid (∀ w1, Below wr.heap.size wr w1 → ((∃ u, w1.cell? ⟨w.heap.size + 1 + 1, k * 11, none⟩ = some u) ∧ w1.frozen? ⟨w.heap.size + 1 + 1, k * 11, none⟩ = false) ∧ ((∃ u, w1.cell? ⟨w.heap.size + 1 + 1, k * 11 + 1, none⟩ = some u) ∧ w1.frozen? ⟨w.heap.size + 1 + 1, k * 11 + 1, none⟩ = false) ∧ ((∃ u, w1.cell? ⟨w.heap.size + 1 + 1, k * 11 + 2, none⟩ = some u) ∧ w1.frozen? ⟨w.heap.size + 1 + 1, k * 11 + 2, none⟩ = false) ∧ ((∃ u, w1.cell? ⟨w.heap.size + 1 + 1, k * 11 + 3, none⟩ = some u) ∧ w1.frozen? ⟨w.heap.size + 1 + 1, k * 11 + 3, none⟩ = false) ∧ ((∃ u, w1.cell? ⟨w.heap.size + 1 + 1, k * 11 + 4, none⟩ = some u) ∧ w1.frozen? ⟨w.heap.size + 1 + 1, k * 11 + 4, none⟩ = false) ∧ ((∃ u, w1.cell? ⟨w.heap.size + 1 + 1, k * 11 + 5, none⟩ = some u) ∧ w1.frozen? ⟨w.heap.size + 1 + 1, k * 11 + 5, none⟩ = false) ∧ ((∃ u, w1.cell? ⟨w.heap.size + 1 + 1, k * 11 + 6, none⟩ = some u) ∧ w1.frozen? ⟨w.heap.size + 1 + 1, k * 11 + 6, none⟩ = false) ∧ ((∃ u, w1.cell? ⟨w.heap.size + 1 + 1, k * 11 + 7, none⟩ = some u) ∧ w1.frozen? ⟨w.heap.size + 1 + 1, k * 11 + 7, none⟩ = false) ∧ ((∃ u, w1.cell? ⟨w.heap.size + 1 + 1, k * 11 + 8, none⟩ = some u) ∧ w1.frozen? ⟨w.heap.size + 1 + 1, k * 11 + 8, none⟩ = false) ∧ ((∃ u, w1.cell? ⟨w.heap.size + 1 + 1, k * 11 + 9, none⟩ = some u) ∧ w1.frozen? ⟨w.heap.size + 1 + 1, k * 11 + 9, none⟩ = false) ∧ ((∃ u, w1.cell? ⟨w.heap.size + 1 + 1, k * 11 + 10, none⟩ = some u) ∧ w1.frozen? ⟨w.heap.size + 1 + 1, k * 11 + 10, none⟩ = false)) := fun w1 h => (HR.out.1.call h).eleven (k * 11) (by omega)
      have HX : Hid (∀ W, Below wr.heap.size wr W → W.heap[w.heap.size]? = some (.cells #[.int .i64 0, .bool false, .int .i64 0, .float .f64 0, .string ByteArray.empty, .slice none 0 0, .int .u64 0, .slice none 0 0, .slice none 0 0, .string ByteArray.empty, .int .i64 0] 29 (0, 0)) ∧ W.heap[w.heap.size + 1]? = some (.cells #[.int .i64 8, .bool false, .int .i64 0, .float .f64 0, .string ByteArray.empty, .slice none 0 0, .int .u64 0, .slice (some ⟨w.heap.size + 1 + 1, 0, none⟩) L.len L.len, .slice none 0 0, .string ByteArray.empty, .int .i64 0] 29 (0, 0)) ∧ W.cell? ⟨w.heap.size + 1, 7, none⟩ = some (.slice (some ⟨w.heap.size + 1 + 1, 0, none⟩) L.len L.len)) := fun W h => by
        have h0 := hrw.lt
        have e1 := h.block (w.heap.size + 1) (by omega)
        exact ⟨by rw [h.block w.heap.size (by omega)]; exact hR, by rw [e1]; exact hT, (tbox (by rw [e1]; exact hT)).2.2.2.2.2.2.2.1⟩
      have HXs : Hid (∀ w1 vs, Below wr.heap.size wr w1 → (setN w1 (w.heap.size + 1 + 1) (k * 11) vs).heap[w.heap.size]? = some (.cells #[.int .i64 0, .bool false, .int .i64 0, .float .f64 0, .string ByteArray.empty, .slice none 0 0, .int .u64 0, .slice none 0 0, .slice none 0 0, .string ByteArray.empty, .int .i64 0] 29 (0, 0)) ∧ (setN w1 (w.heap.size + 1 + 1) (k * 11) vs).heap[w.heap.size + 1]? = some (.cells #[.int .i64 8, .bool false, .int .i64 0, .float .f64 0, .string ByteArray.empty, .slice none 0 0, .int .u64 0, .slice (some ⟨w.heap.size + 1 + 1, 0, none⟩) L.len L.len, .slice none 0 0, .string ByteArray.empty, .int .i64 0] 29 (0, 0)) ∧ (setN w1 (w.heap.size + 1 + 1) (k * 11) vs).cell? ⟨w.heap.size + 1, 7, none⟩ = some (.slice (some ⟨w.heap.size + 1 + 1, 0, none⟩) L.len L.len)) := fun w1 vs h => by
        have hh := HX.out w1 h
        have e1 := setN_other (g := w.heap.size + 1 + 1) (k := w.heap.size + 1) (by omega) vs w1 (k * 11)
        exact ⟨by rw [setN_other (by omega)]; exact hh.1, by rw [e1]; exact hh.2.1, (tbox (by rw [e1]; exact hh.2.1)).2.2.2.2.2.2.2.1⟩
      have HNew : Hid (∀ w2 cs, Below wr.heap.size wr w2 → t.clean.In w2 (FrS wr w2) cs → cs.size = 11 → RW 29 w (setN w2 (w.heap.size + 1 + 1) (k * 11) cs.toList) (w.heap.size + 1 + 1) (L.len * 11) ((xs ++ [cs]).flatMap (·.toList)) ∧ TPre (setN w2 (w.heap.size + 1 + 1) (k * 11) cs.toList) (OwnS (w.heap.size + 1 + 1) (setN w2 (w.heap.size + 1 + 1) (k * 11) cs.toList) (w.heap.size + 1 + 1)) L.clean (xs ++ [cs]) l.clean ∧ ((xs ++ [cs]).flatMap (·.toList)).length = (k + 1) * 11) := fun w2 cs hb hv hz => by
        have hz' : cs.toList.length = 11 := by rw [Array.length_toList]; exact hz
        have h1 := (HR.out.1.call hb).set cs.toList (by rw [hxs, hz']; omega)
        rw [hxs] at h1
        have e2 : (xs ++ [cs]).flatMap (·.toList) = xs.flatMap (·.toList) ++ cs.toList := by rw [List.flatMap_append]; simp
        rw [e2]
        exact ⟨h1, TPre.stepS (o := k * 11) HR.out.2.1 hb hv hz ⟨Nat.le_refl _, HR.out.1.lt.2⟩ _, by rw [List.length_append, hxs, hz']; omega⟩
      have c7 := (HX.out wr (Below.refl _ _)).2.2
      have hi0 : (0 : Int) ≤ (k : Int) := Int.natCast_nonneg _
      have hi1 : (k : Int) < (L.len : Int) := by omega
      unfold tcells at HO
      clear hl hlN hc ht hl' hok hs hrw hpre hbdd hR hT
      go_wp2_with fail
      go_region_held3 (fun W => W.cell? ⟨w.heap.size + 1, 7, none⟩ = some (.slice (some ⟨w.heap.size + 1 + 1, 0, none⟩) L.len L.len))
        (first | ((repeat rw [World.cell?_setCell_other _ _ _ _ (by simp)]); exact (HX.out w1 HB1.out).2.2) | exact (HX.out _ (Below.refl wr.heap.size wr)).2.2 | exact (HX.out _ (Below.refl wr.heap.size wr).drew).2.2)
        ((first
          | (go_at_call 97; refine (HO.out _ ?_).mono ?_; exact (Below.refl _ _).drew; rintro e w1 ⟨k1, b1, i1, f1, tx1, ab1, nb1, cb1, rf1, al1, nl1, cl1, af1, nf1, cf1, cc1, vr1, rfl, hb1, hv1⟩; have HB1 : Hid (Below wr.heap.size wr w1) := (Below.refl _ _).drew.trans hb1; have HV1 : Hid _ := hv1; obtain ⟨⟨⟨u0, hu0⟩, hf0⟩, ⟨⟨u1, hu1⟩, hf1⟩, ⟨⟨u2, hu2⟩, hf2⟩, ⟨⟨u3, hu3⟩, hf3⟩, ⟨⟨u4, hu4⟩, hf4⟩, ⟨⟨u5, hu5⟩, hf5⟩, ⟨⟨u6, hu6⟩, hf6⟩, ⟨⟨u7, hu7⟩, hf7⟩, ⟨⟨u8, hu8⟩, hf8⟩, ⟨⟨u9, hu9⟩, hf9⟩, ⟨⟨u10, hu10⟩, hf10⟩⟩ := HS.out w1 HB1.out; clear hb1 hv1)))
      have HNw := HNew.out w1 #[.int .i64 k1, .bool b1, .int .i64 i1, .float .f64 f1, .string tx1, .slice ab1 nb1 cb1, .int .u64 rf1, .slice al1 nl1 cl1, .slice af1 nf1 cf1, .string cc1, .int .i64 vr1] HB1.out (t.clean.In_same (Same.refl _ _) (fun k hk => hk) _ HV1.out) rfl
      have HNx := HXs.out w1 [.int .i64 k1, .bool b1, .int .i64 i1, .float .f64 f1, .string tx1, .slice ab1 nb1 cb1, .int .u64 rf1, .slice al1 nl1 cl1, .slice af1 nf1 cf1, .string cc1, .int .i64 vr1] HB1.out
      have HNw : Hid _ := HNw
      have HNx : Hid _ := HNx
      go_wp2_with fail
      go_roundw
      case rel => exact ⟨k + 1, l, _, by go_num, HL.out, htN.2, HNw.out.2.2, HNw.out.1, HNw.out.2.1, HN.out.1, HN.out.2.1, HN.out.2.2, HNx.out.1, HNx.out.2.1⟩
      case measure => simp [intOf]; omega
end Go.Proofs.YtjdjpbdfchhcfaaGreat

/- value.entriesOf: the entries of a dict that can be, in new memory. -/
namespace Go.Proofs.YtjdjpbdfchhcfaaGreat
open Go.RowKit

theorem cell_far {w : World} {g o : Nat} {p : Addr} (h : p.block ≠ g) (v : Value) : (w.setCell ⟨g, o, none⟩ v).cell? p = w.cell? p := World.cell?_setCell_other _ _ _ _ (by intro e; exact h (by rw [← e]))

theorem RW.twelve {w wr : World} {g n : Nat} {xs : List Value} (h : RW 124 w wr g n xs) (o : Nat) (ho : o + 12 ≤ n) :
    ((∃ u, wr.cell? ⟨g, o, none⟩ = some u) ∧ wr.frozen? ⟨g, o, none⟩ = false) ∧ ((∃ u, wr.cell? ⟨g, o + 1, none⟩ = some u) ∧ wr.frozen? ⟨g, o + 1, none⟩ = false) ∧ ((∃ u, wr.cell? ⟨g, o + 2, none⟩ = some u) ∧ wr.frozen? ⟨g, o + 2, none⟩ = false) ∧ ((∃ u, wr.cell? ⟨g, o + 3, none⟩ = some u) ∧ wr.frozen? ⟨g, o + 3, none⟩ = false) ∧ ((∃ u, wr.cell? ⟨g, o + 4, none⟩ = some u) ∧ wr.frozen? ⟨g, o + 4, none⟩ = false) ∧ ((∃ u, wr.cell? ⟨g, o + 5, none⟩ = some u) ∧ wr.frozen? ⟨g, o + 5, none⟩ = false) ∧ ((∃ u, wr.cell? ⟨g, o + 6, none⟩ = some u) ∧ wr.frozen? ⟨g, o + 6, none⟩ = false) ∧ ((∃ u, wr.cell? ⟨g, o + 7, none⟩ = some u) ∧ wr.frozen? ⟨g, o + 7, none⟩ = false) ∧ ((∃ u, wr.cell? ⟨g, o + 8, none⟩ = some u) ∧ wr.frozen? ⟨g, o + 8, none⟩ = false) ∧ ((∃ u, wr.cell? ⟨g, o + 9, none⟩ = some u) ∧ wr.frozen? ⟨g, o + 9, none⟩ = false) ∧ ((∃ u, wr.cell? ⟨g, o + 10, none⟩ = some u) ∧ wr.frozen? ⟨g, o + 10, none⟩ = false) ∧ ((∃ u, wr.cell? ⟨g, o + 11, none⟩ = some u) ∧ wr.frozen? ⟨g, o + 11, none⟩ = false) :=
  ⟨h.own o (by omega), h.own (o + 1) (by omega), h.own (o + 2) (by omega), h.own (o + 3) (by omega), h.own (o + 4) (by omega), h.own (o + 5) (by omega), h.own (o + 6) (by omega), h.own (o + 7) (by omega), h.own (o + 8) (by omega), h.own (o + 9) (by omega), h.own (o + 10) (by omega), h.own (o + 11) (by omega)⟩
theorem Tryz.infoEn : (Tryz.prog.info? 124).map (fun i => (i.zero, i.size, i.bytes)) = some (some (.agg #[.string ByteArray.empty, .int .i64 0, .bool false, .int .i64 0, .float .f64 0, .string ByteArray.empty, .slice none 0 0, .int .u64 0, .slice none 0 0, .slice none 0 0, .string ByteArray.empty, .int .i64 0]), 12, 168) := by kernel_rfl
theorem Tryz.undEs : Tryz.prog.underlying 27 = some (.slice 124) := by kernel_rfl

set_option maxRecDepth 100000 in
set_option maxHeartbeats 4000000 in
theorem entriesOf_any (N : Nat) (HC : TOfC N) (al : Option Addr) (L : TmF) (cl : Nat) (w : World) (hN : L.sz ≤ N) (B : Nat → Prop) (hB : Sub B w) (hL : L.V w B al 0) (hlen : L.len ≤ 4096) (hnm : L.Nm) (ho : L.Ok) (hbd : L.Bdd) :
    Calls Tryz.prog 115 #[.slice al L.len cl] w fun e w' => ∃ a cap, e = .returned (.slice a L.len cap) ∧ Below w.heap.size w w' ∧ L.clean.In w' (FrS w w') a 0 := by
  obtain ⟨i0, hi, hz0, hz1, hz2⟩ := info_parts Tryz.infoEn
  have HCH : Hid (TOfC N) := HC
  clear HC
  obtain ⟨M, hM⟩ : ∃ M, M = madeCells (Value.agg #[.string ByteArray.empty, .int .i64 0, .bool false, .int .i64 0, .float .f64 0, .string ByteArray.empty, .slice none 0 0, .int .u64 0, .slice none 0 0, .slice none 0 0, .string ByteArray.empty, .int .i64 0]).cells (((L.len : Nat) : Int).toNat * i0.size) := ⟨_, rfl⟩
  have hMs : M.size = L.len * 12 := by rw [hM, size_madeCells, hz1]; simp
  have hmake : ∀ W : World, (Instr.makeSlice 27 (.int .i64 (L.len : Int)) (.int .i64 (L.len : Int))).run Tryz.prog W = .ok (.slice (some ⟨W.heap.size, 0, none⟩) L.len L.len) (W.alloc (.cells M 124)) := fun W => by
    have h := run_make (P := Tryz.prog) W 27 124 i0 _ Tryz.undEs hi hz0 .i64 .i64 (L.len : Int) (L.len : Int) (by omega) (by omega) (by rw [hz2]; omega) (by omega)
    rw [← hM] at h; simpa using h
  clear hM hi hz0 hz1 hz2
  have H0 : Hid (RW 124 w (w.alloc (.cells M 124)) w.heap.size (L.len * 12) (ecells []) ∧ EPre (w.alloc (.cells M 124)) (OwnS w.heap.size (w.alloc (.cells M 124)) w.heap.size) L.clean [] L.clean ∧ L.V w B al 0 ∧ L.Ok ∧ L.Nm ∧ L.Bdd) := by
    have h := RW.made (w := w) (w0 := w) (Below.refl _ _) M 124
    rw [hMs] at h
    exact ⟨h, (EPre_nil _ _).2 rfl, hL, ho, hnm, hbd⟩
  clear hL ho hnm hbd
  go_enter Tryz.func115, Tryz.ntmps115
  go_wp2_with fail
  go_loopw [11] (fun x wr => ∃ (k : Nat) (l : TmF) (xs : List (ByteArray × Array Value)), x = .int .i64 k ∧ l.len + k = L.len ∧ l.sz ≤ N ∧ (ecells xs).length = k * 12 ∧ Hid (RW 124 w wr w.heap.size (L.len * 12) (ecells xs) ∧ EPre wr (OwnS w.heap.size wr w.heap.size) L.clean xs l.clean ∧ l.V w B al k ∧ l.Ok ∧ l.Nm ∧ l.Bdd)) (fun x _ => L.len - (intOf x).toNat)
  case atStart => exact ⟨0, L, [], rfl, rfl, hN, rfl, H0.out⟩
  case round =>
    obtain ⟨k, l, xs, rfl, hl, hlN, hxs, HR⟩ := hrel
    clear H0
    cases l with
    | nil =>
      have h1 : L.len ≤ k := by simp [TmF.len] at hl; omega
      clear hl
      go_wp2_with fail
      go_ret
      exact ⟨_, _, rfl, HR.out.1.bel, HR.out.2.1.finS HR.out.1⟩
    | cons n t l =>
      obtain ⟨hrw, hpre, hsrc, hok, hnm, hbdd⟩ := HR.out
      simp only [TmF.V] at hsrc
      obtain ⟨g1, o1, v1, rfl, hg1, hnc, hvc, _, ht, hl'⟩ := hsrc
      have hk1 : k < L.len := by simp only [TmF.len] at hl; omega
      have HL : Hid (l.len + (k + 1) = L.len) := by show _ = _; simp only [TmF.len] at hl; omega
      have htN : t.sz ≤ N ∧ l.sz ≤ N := by simp [TmF.sz] at hlN; omega
      have hs : Same B w wr := hB.same hrw.bel
      have HO := HCH.out.at htN.1 (t.V_same hs (fun _ h => h) v1 ht) (hB.later hrw.bel) hok.head.1 hbdd.1
      have HO : Hid _ := HO
      have en : wr.cell? ⟨g1, o1 + k * 2, none⟩ = some (.string n) := by rw [hs.cell (p := ⟨g1, o1 + k * 2, none⟩) hg1]; exact hnc
      have ev : wr.cell? ⟨g1, o1 + k * 2 + 1, none⟩ = some v1 := by rw [hs.cell (p := ⟨g1, o1 + k * 2 + 1, none⟩) hg1]; exact hvc
      have HN : Hid (l.V w B (some ⟨g1, o1, none⟩) (k + 1) ∧ l.Ok ∧ l.Nm ∧ l.Bdd) := ⟨hl', hok.head.2, hnm.head.2, hbdd.2⟩
      have hn32 : n.size ≤ 140737488355328 := by have := hnm.head.1; omega
      have HS : Hid (∀ w1, Below wr.heap.size wr w1 → ((∃ u, w1.cell? ⟨w.heap.size, k * 12, none⟩ = some u) ∧ w1.frozen? ⟨w.heap.size, k * 12, none⟩ = false) ∧ ((∃ u, w1.cell? ⟨w.heap.size, k * 12 + 1, none⟩ = some u) ∧ w1.frozen? ⟨w.heap.size, k * 12 + 1, none⟩ = false) ∧ ((∃ u, w1.cell? ⟨w.heap.size, k * 12 + 2, none⟩ = some u) ∧ w1.frozen? ⟨w.heap.size, k * 12 + 2, none⟩ = false) ∧ ((∃ u, w1.cell? ⟨w.heap.size, k * 12 + 3, none⟩ = some u) ∧ w1.frozen? ⟨w.heap.size, k * 12 + 3, none⟩ = false) ∧ ((∃ u, w1.cell? ⟨w.heap.size, k * 12 + 4, none⟩ = some u) ∧ w1.frozen? ⟨w.heap.size, k * 12 + 4, none⟩ = false) ∧ ((∃ u, w1.cell? ⟨w.heap.size, k * 12 + 5, none⟩ = some u) ∧ w1.frozen? ⟨w.heap.size, k * 12 + 5, none⟩ = false) ∧ ((∃ u, w1.cell? ⟨w.heap.size, k * 12 + 6, none⟩ = some u) ∧ w1.frozen? ⟨w.heap.size, k * 12 + 6, none⟩ = false) ∧ ((∃ u, w1.cell? ⟨w.heap.size, k * 12 + 7, none⟩ = some u) ∧ w1.frozen? ⟨w.heap.size, k * 12 + 7, none⟩ = false) ∧ ((∃ u, w1.cell? ⟨w.heap.size, k * 12 + 8, none⟩ = some u) ∧ w1.frozen? ⟨w.heap.size, k * 12 + 8, none⟩ = false) ∧ ((∃ u, w1.cell? ⟨w.heap.size, k * 12 + 9, none⟩ = some u) ∧ w1.frozen? ⟨w.heap.size, k * 12 + 9, none⟩ = false) ∧ ((∃ u, w1.cell? ⟨w.heap.size, k * 12 + 10, none⟩ = some u) ∧ w1.frozen? ⟨w.heap.size, k * 12 + 10, none⟩ = false) ∧ ((∃ u, w1.cell? ⟨w.heap.size, k * 12 + 11, none⟩ = some u) ∧ w1.frozen? ⟨w.heap.size, k * 12 + 11, none⟩ = false)) := fun w1 h => (HR.out.1.call h).twelve (k * 12) (by omega)
      have hfar : wr.heap.size ≠ w.heap.size := by have := HR.out.1.lt.2; omega
      have HS2 : Hid (∀ W : World, W.heap[wr.heap.size]? = some (.cells #[.string n, v1] 126 (0, 0)) → W.cell? ⟨wr.heap.size, 0, none⟩ = some (.string n) ∧ W.cell? ⟨wr.heap.size, 1, none⟩ = some v1) := fun W h => by
        have hh := fun j => cell_of_row W wr.heap.size j _ _ _ h
        exact ⟨hh 0, hh 1⟩
      have HX : Hid (∀ W, Below (wr.alloc (.cells #[.string n, v1] 126)).heap.size (wr.alloc (.cells #[.string n, v1] 126)) W → (W.cell? ⟨wr.heap.size, 0, none⟩ = some (.string n) ∧ W.cell? ⟨wr.heap.size, 1, none⟩ = some v1) ∧ Below wr.heap.size wr W) := fun W h => ⟨HS2.out W (by rw [h.block wr.heap.size (by simp)]; exact heap_alloc_new wr _), ((Below.refl _ _).alloc (Nat.le_refl _) _).trans (h.mono (by simp))⟩
      have HNew : Hid (∀ w2 cs, Below wr.heap.size wr w2 → t.clean.In w2 (FrS wr w2) cs → cs.size = 11 → RW 124 w (setN w2 w.heap.size (k * 12) (.string n :: cs.toList)) w.heap.size (L.len * 12) (ecells (xs ++ [(n, cs)])) ∧ EPre (setN w2 w.heap.size (k * 12) (.string n :: cs.toList)) (OwnS w.heap.size (setN w2 w.heap.size (k * 12) (.string n :: cs.toList)) w.heap.size) L.clean (xs ++ [(n, cs)]) l.clean ∧ (ecells (xs ++ [(n, cs)])).length = (k + 1) * 12) := fun w2 cs hb hv hz => by
        have hz' : (Value.string n :: cs.toList).length = 12 := by rw [List.length_cons, Array.length_toList, hz]
        have h1 := (HR.out.1.call hb).set (.string n :: cs.toList) (by rw [hxs, hz']; omega)
        rw [hxs] at h1
        have e2 : ecells (xs ++ [(n, cs)]) = ecells xs ++ (.string n :: cs.toList) := by unfold ecells; rw [List.flatMap_append]; simp
        rw [e2]
        exact ⟨h1, EPre.stepS (o := k * 12) HR.out.2.1 hn32 hb hv hz ⟨Nat.le_refl _, HR.out.1.lt.2⟩ _, by rw [List.length_append, hxs, hz']; omega⟩
      have hi0 : (0 : Int) ≤ (k : Int) := Int.natCast_nonneg _
      have hi1 : (k : Int) < (L.len : Int) := by omega
      have hsh := t.V_shape v1 ht
      unfold tcells at HO
      clear hl hlN ht hl' hok hs hrw hpre hbdd hnc hvc hnm HS2
      rcases hsh with rfl | ⟨T, x, rfl⟩
      · go_wp2_with fail
        go_region_held3 (fun W => W.cell? ⟨wr.heap.size, 0, none⟩ = some (.string n) ∧ W.cell? ⟨wr.heap.size, 1, none⟩ = some .nilIface)
          (first | (refine ⟨?_, ?_⟩ <;> ((repeat rw [cell_far hfar]); first | with_reducible exact (HX.out w2 HB2.out).1.1 | with_reducible exact (HX.out w2 HB2.out).1.2)) | with_reducible exact (HX.out _ HB1.out).1 | with_reducible exact (HX.out _ (Below.refl _ _)).1 | with_reducible exact (HX.out _ (Below.refl _ _).drew).1)
          ((first
            | (go_at_call 59; refine (sClone_any n _ hn32).mono ?_; rintro e w1 ⟨rfl, hb1⟩; have HB1 : Hid (Below (wr.alloc (.cells #[.string n, .nilIface] 126)).heap.size (wr.alloc (.cells #[.string n, .nilIface] 126)) w1) := below_to (Below.refl _ _).drew hb1; clear hb1)
            | (go_at_call 97; refine (HO.out _ ?_).mono ?_; exact (HX.out _ HB1.out).2; rintro e w2 ⟨k1, b1, i1, f1, tx1, ab1, nb1, cb1, rf1, al1, nl1, cl1, af1, nf1, cf1, cc1, vr1, rfl, hb2, hv2⟩; have HB2 : Hid (Below (wr.alloc (.cells #[.string n, .nilIface] 126)).heap.size (wr.alloc (.cells #[.string n, .nilIface] 126)) w2) := below_to HB1.out hb2; have HV2 : Hid (t.clean.In w2 (FrS wr w2) #[.int .i64 k1, .bool b1, .int .i64 i1, .float .f64 f1, .string tx1, .slice ab1 nb1 cb1, .int .u64 rf1, .slice al1 nl1 cl1, .slice af1 nf1 cf1, .string cc1, .int .i64 vr1]) := t.clean.In_same (Same.refl _ _) (fun k hk => ⟨Nat.le_trans (HX.out _ HB1.out).2.size hk.1, hk.2⟩) _ hv2; obtain ⟨⟨⟨u0, hu0⟩, hf0⟩, ⟨⟨u1, hu1⟩, hf1⟩, ⟨⟨u2, hu2⟩, hf2⟩, ⟨⟨u3, hu3⟩, hf3⟩, ⟨⟨u4, hu4⟩, hf4⟩, ⟨⟨u5, hu5⟩, hf5⟩, ⟨⟨u6, hu6⟩, hf6⟩, ⟨⟨u7, hu7⟩, hf7⟩, ⟨⟨u8, hu8⟩, hf8⟩, ⟨⟨u9, hu9⟩, hf9⟩, ⟨⟨u10, hu10⟩, hf10⟩, ⟨⟨u11, hu11⟩, hf11⟩⟩ := HS.out w2 (HX.out _ HB2.out).2; clear hb2 hv2)))
        have HNw := HNew.out w2 #[.int .i64 k1, .bool b1, .int .i64 i1, .float .f64 f1, .string tx1, .slice ab1 nb1 cb1, .int .u64 rf1, .slice al1 nl1 cl1, .slice af1 nf1 cf1, .string cc1, .int .i64 vr1] (HX.out _ HB2.out).2 HV2.out rfl
        have HNw : Hid _ := HNw
        go_wp2_with fail
        go_roundw
        case rel => exact ⟨k + 1, l, _, by go_num, HL.out, htN.2, HNw.out.2.2, HNw.out.1, HNw.out.2.1, HN.out.1, HN.out.2.1, HN.out.2.2.1, HN.out.2.2.2⟩
        case measure => simp [intOf]; omega
      · go_wp2_with fail
        go_region_held3 (fun W => W.cell? ⟨wr.heap.size, 0, none⟩ = some (.string n) ∧ W.cell? ⟨wr.heap.size, 1, none⟩ = some (.iface T x))
          (first | (refine ⟨?_, ?_⟩ <;> ((repeat rw [cell_far hfar]); first | with_reducible exact (HX.out w2 HB2.out).1.1 | with_reducible exact (HX.out w2 HB2.out).1.2)) | with_reducible exact (HX.out _ HB1.out).1 | with_reducible exact (HX.out _ (Below.refl _ _)).1 | with_reducible exact (HX.out _ (Below.refl _ _).drew).1)
          ((first
            | (go_at_call 59; refine (sClone_any n _ hn32).mono ?_; rintro e w1 ⟨rfl, hb1⟩; have HB1 : Hid (Below (wr.alloc (.cells #[.string n, (.iface T x)] 126)).heap.size (wr.alloc (.cells #[.string n, (.iface T x)] 126)) w1) := below_to (Below.refl _ _).drew hb1; clear hb1)
            | (go_at_call 97; refine (HO.out _ ?_).mono ?_; exact (HX.out _ HB1.out).2; rintro e w2 ⟨k1, b1, i1, f1, tx1, ab1, nb1, cb1, rf1, al1, nl1, cl1, af1, nf1, cf1, cc1, vr1, rfl, hb2, hv2⟩; have HB2 : Hid (Below (wr.alloc (.cells #[.string n, (.iface T x)] 126)).heap.size (wr.alloc (.cells #[.string n, (.iface T x)] 126)) w2) := below_to HB1.out hb2; have HV2 : Hid (t.clean.In w2 (FrS wr w2) #[.int .i64 k1, .bool b1, .int .i64 i1, .float .f64 f1, .string tx1, .slice ab1 nb1 cb1, .int .u64 rf1, .slice al1 nl1 cl1, .slice af1 nf1 cf1, .string cc1, .int .i64 vr1]) := t.clean.In_same (Same.refl _ _) (fun k hk => ⟨Nat.le_trans (HX.out _ HB1.out).2.size hk.1, hk.2⟩) _ hv2; obtain ⟨⟨⟨u0, hu0⟩, hf0⟩, ⟨⟨u1, hu1⟩, hf1⟩, ⟨⟨u2, hu2⟩, hf2⟩, ⟨⟨u3, hu3⟩, hf3⟩, ⟨⟨u4, hu4⟩, hf4⟩, ⟨⟨u5, hu5⟩, hf5⟩, ⟨⟨u6, hu6⟩, hf6⟩, ⟨⟨u7, hu7⟩, hf7⟩, ⟨⟨u8, hu8⟩, hf8⟩, ⟨⟨u9, hu9⟩, hf9⟩, ⟨⟨u10, hu10⟩, hf10⟩, ⟨⟨u11, hu11⟩, hf11⟩⟩ := HS.out w2 (HX.out _ HB2.out).2; clear hb2 hv2)))
        have HNw := HNew.out w2 #[.int .i64 k1, .bool b1, .int .i64 i1, .float .f64 f1, .string tx1, .slice ab1 nb1 cb1, .int .u64 rf1, .slice al1 nl1 cl1, .slice af1 nf1 cf1, .string cc1, .int .i64 vr1] (HX.out _ HB2.out).2 HV2.out rfl
        have HNw : Hid _ := HNw
        go_wp2_with fail
        go_roundw
        case rel => exact ⟨k + 1, l, _, by go_num, HL.out, htN.2, HNw.out.2.2, HNw.out.1, HNw.out.2.1, HN.out.1, HN.out.2.1, HN.out.2.2.1, HN.out.2.2.2⟩
        case measure => simp [intOf]; omega
end Go.Proofs.YtjdjpbdfchhcfaaGreat

/- value.Same at two terms' values; two terms in boxes. -/
namespace Go.Proofs.YtjdjpbdfchhcfaaGreat
open Go.RowKit

theorem same_ok {s t : Tm} (h : s.all.e = 0 ∧ t.all.e = 0) : s.ordE t = 0 ∧ s.ordN t = s.cmp t := by
  unfold Tm.ordE Tm.ordN; rw [if_neg (by omega), if_neg (by omega)]; exact ⟨h.2, rfl⟩
theorem same_err {s t : Tm} (h : s.ordE t ≠ 0) : ¬ (s.all.e = 0 ∧ t.all.e = 0) := fun g => h (same_ok g).1
theorem ok_both {s t : Tm} (h : s.ordE t = 0) : s.all.e = 0 ∧ t.all.e = 0 := by
  unfold Tm.ordE at h; split at h
  · exact absurd h (by assumption)
  · exact ⟨Decidable.not_not.1 (by assumption), h⟩

set_option maxRecDepth 100000 in
set_option maxHeartbeats 1000000 in
theorem Same_any (s t : Tm) (va vb : Value) (B : Nat) (w : World) (hB : B ≤ w.heap.size) (hs : s.V w (Lo B) va) (ht : t.V w (Lo B) vb) :
    Calls Tryz.prog 107 #[va, vb] w fun e w' => e = .returned (.bool (s.sameB t)) ∧ Below w.heap.size w w' := by
  have HO : Hid (∀ w0, w0 = w → Calls Tryz.prog 123 #[va, vb] w0 fun e w' => e = .returned (.tuple #[.int .i64 (s.ordN t), .int .i64 (s.ordE t)]) ∧ Below w0.heap.size w0 w') := by
    rintro w0 rfl; exact Order_any s t va vb B w0 hB hs ht
  clear hs ht hB
  have H : Hid ((s.ordE t ≠ 0 → s.sameB t = false) ∧ (s.ordE t = 0 → s.sameB t = decide (s.ordN t = 0))) := by
    refine ⟨fun h => ?_, fun h => ?_⟩
    · unfold Tm.sameB; exact decide_eq_false fun g => same_err h ⟨g.1, g.2.1⟩
    · have g := ok_both h
      unfold Tm.sameB; rw [(same_ok g).2]; simp [g.1, g.2]
  by_cases h1 : s.ordE t = 0
  · have G : Hid (s.sameB t = decide (s.ordN t = 0)) := H.out.2 h1
    go_enter Tryz.func107, Tryz.ntmps107
    go_wp2_with fail
    refine (HO.out _ rfl).mono ?_
    rintro e w1 ⟨rfl, hb1⟩
    have HB1 : Hid (Below w.heap.size w w1) := hb1
    clear hb1
    go_wp2_with fail
    go_ret
    exact ⟨by simp [G.out]; try rfl, HB1.out⟩
  · have h1' := ne_bool h1
    have G : Hid (s.sameB t = false) := H.out.1 h1
    go_enter Tryz.func107, Tryz.ntmps107
    go_wp2_with fail
    refine (HO.out _ rfl).mono ?_
    rintro e w1 ⟨rfl, hb1⟩
    have HB1 : Hid (Below w.heap.size w w1) := hb1
    clear hb1
    go_wp2_with fail
    go_ret
    exact ⟨by simp [G.out], HB1.out⟩

end Go.Proofs.YtjdjpbdfchhcfaaGreat

/- value.termOf, kind by kind. -/
namespace Go.Proofs.YtjdjpbdfchhcfaaGreat
open Go.RowKit

theorem boxes_at {w : World} {o p : Obj} {w1 : World} (h : Below ((w.alloc o).alloc p).heap.size ((w.alloc o).alloc p) w1) : w1.heap[w.heap.size]? = some o ∧ w1.heap[w.heap.size + 1]? = some p ∧ Below w.heap.size w w1 ∧ w.heap.size + 2 ≤ w1.heap.size := by
  refine ⟨?_, ?_, below_to (((Below.refl _ _).alloc (Nat.le_refl _) _).alloc (by simp) _) h, by have := h.size; simpa using this⟩
  · rw [h.block w.heap.size (by simp; omega), Below.heap_alloc _ _ _ (by simp)]; exact heap_alloc_new w o
  · rw [h.block (w.heap.size + 1) (by simp)]; have := heap_alloc_new (w.alloc o) p; simpa using this

set_option maxRecDepth 100000 in
set_option maxHeartbeats 1000000 in
theorem tof_1 (w : World) : Calls Tryz.prog 97 #[.nilIface] w fun e w' => e = .returned (.agg (tcells 1 false 0 0 ByteArray.empty (.slice none 0 0) 0 (.slice none 0 0) (.slice none 0 0) ByteArray.empty 0)) ∧ Below w.heap.size w w' := by
  go_enter Tryz.func97, Tryz.ntmps97
  go_wp2_with (go_at_call 101; refine (kindOf_nil _).mono ?_; rintro e w' ⟨rfl, rfl⟩)
  refine bodyPost_ret (v := .agg (tcells 1 false 0 0 ByteArray.empty (.slice none 0 0) 0 (.slice none 0 0) (.slice none 0 0) ByteArray.empty 0)) (by simp [results, Tryz.results97, go_sem, tcells] <;> rfl) rfl ⟨rfl, ?_⟩
  exact (((Below.refl _ _).alloc (Nat.le_refl _) _).alloc (by simp) _)
set_option maxRecDepth 100000 in
set_option maxHeartbeats 1000000 in
theorem tof_2 (b : Bool) (w : World) : Calls Tryz.prog 97 #[.iface 4 (.bool b)] w fun e w' => e = .returned (.agg (tcells 2 b 0 0 ByteArray.empty (.slice none 0 0) 0 (.slice none 0 0) (.slice none 0 0) ByteArray.empty 0)) ∧ Below w.heap.size w w' := by
  go_enter Tryz.func97, Tryz.ntmps97
  go_wp2_with (go_at_call 101; refine (kindOf_bool _ _).mono ?_; rintro e w' ⟨rfl, rfl⟩)
  refine bodyPost_ret (v := .agg (tcells 2 b 0 0 ByteArray.empty (.slice none 0 0) 0 (.slice none 0 0) (.slice none 0 0) ByteArray.empty 0)) (by simp [results, Tryz.results97, go_sem, tcells] <;> rfl) rfl ⟨rfl, ?_⟩
  exact (((Below.refl _ _).alloc (Nat.le_refl _) _).alloc (by simp) _)
set_option maxRecDepth 100000 in
set_option maxHeartbeats 1000000 in
theorem tof_3 (i : Int) (w : World) : Calls Tryz.prog 97 #[.iface 2 (.int .i64 i)] w fun e w' => e = .returned (.agg (tcells 3 false i 0 ByteArray.empty (.slice none 0 0) 0 (.slice none 0 0) (.slice none 0 0) ByteArray.empty 0)) ∧ Below w.heap.size w w' := by
  go_enter Tryz.func97, Tryz.ntmps97
  go_wp2_with (go_at_call 101; refine (kindOf_int _ _).mono ?_; rintro e w' ⟨rfl, rfl⟩)
  refine bodyPost_ret (v := .agg (tcells 3 false i 0 ByteArray.empty (.slice none 0 0) 0 (.slice none 0 0) (.slice none 0 0) ByteArray.empty 0)) (by simp [results, Tryz.results97, go_sem, tcells] <;> rfl) rfl ⟨rfl, ?_⟩
  exact (((Below.refl _ _).alloc (Nat.le_refl _) _).alloc (by simp) _)
set_option maxRecDepth 100000 in
set_option maxHeartbeats 1000000 in
theorem tof_4 (f : Nat) (w : World) : Calls Tryz.prog 97 #[.iface 22 (.float .f64 f)] w fun e w' => e = .returned (.agg (tcells 4 false 0 f ByteArray.empty (.slice none 0 0) 0 (.slice none 0 0) (.slice none 0 0) ByteArray.empty 0)) ∧ Below w.heap.size w w' := by
  go_enter Tryz.func97, Tryz.ntmps97
  go_wp2_with (go_at_call 101; refine (kindOf_float _ _).mono ?_; rintro e w' ⟨rfl, rfl⟩)
  refine bodyPost_ret (v := .agg (tcells 4 false 0 f ByteArray.empty (.slice none 0 0) 0 (.slice none 0 0) (.slice none 0 0) ByteArray.empty 0)) (by simp [results, Tryz.results97, go_sem, tcells] <;> rfl) rfl ⟨rfl, ?_⟩
  exact (((Below.refl _ _).alloc (Nat.le_refl _) _).alloc (by simp) _)
set_option maxRecDepth 100000 in
set_option maxHeartbeats 1000000 in
theorem tof_7 (rf : Int) (w : World) : Calls Tryz.prog 97 #[.iface 25 (.int .u64 rf)] w fun e w' => e = .returned (.agg (tcells 7 false 0 0 ByteArray.empty (.slice none 0 0) rf (.slice none 0 0) (.slice none 0 0) ByteArray.empty 0)) ∧ Below w.heap.size w w' := by
  go_enter Tryz.func97, Tryz.ntmps97
  go_wp2_with (go_at_call 101; refine (kindOf_ref _ _).mono ?_; rintro e w' ⟨rfl, rfl⟩)
  refine bodyPost_ret (v := .agg (tcells 7 false 0 0 ByteArray.empty (.slice none 0 0) rf (.slice none 0 0) (.slice none 0 0) ByteArray.empty 0)) (by simp [results, Tryz.results97, go_sem, tcells] <;> rfl) rfl ⟨rfl, ?_⟩
  exact (((Below.refl _ _).alloc (Nat.le_refl _) _).alloc (by simp) _)
set_option maxRecDepth 100000 in
set_option maxHeartbeats 1000000 in
theorem tof_5 (s : ByteArray) (w : World) (hs : s.size ≤ 140737488355328) : Calls Tryz.prog 97 #[.iface 9 (.string s)] w fun e w' => e = .returned (.agg (tcells 5 false 0 0 s (.slice none 0 0) 0 (.slice none 0 0) (.slice none 0 0) ByteArray.empty 0)) ∧ Below w.heap.size w w' := by
  go_enter Tryz.func97, Tryz.ntmps97
  go_wp2_with (first
    | (go_at_call 101; refine (kindOf_text _ _).mono ?_; rintro e w' ⟨rfl, rfl⟩)
    | (go_at_call 59; refine (sClone_any s _ hs).mono ?_; rintro e w1 ⟨rfl, hb1⟩; obtain ⟨hR, hT, hbw, hsz⟩ := boxes_at hb1; obtain ⟨r0, r1, r2, r3, r4, r5, r6, r7, r8, r9, r10⟩ := tbox hR; obtain ⟨t0, t1, t2, t3, t4, t5, t6, t7, t8, t9, t10⟩ := tbox hT; have hf := box_writes hR; have f0 := hf 0; have f1 := hf 1; have f2 := hf 2; have f3 := hf 3; have f4 := hf 4; have f5 := hf 5; have f6 := hf 6; have f7 := hf 7; have f8 := hf 8; have f9 := hf 9; have f10 := hf 10; have g4 := box_writes hT 4; have HB1 : Hid (Below w.heap.size w w1) := hbw; skip; clear hb1 hR hT hf hbw))
  have HE : Hid (Below w.heap.size w (setN (w1.setCell ⟨w.heap.size + 1, 4, none⟩ (.string s)) w.heap.size 0 [.int .i64 5, .bool false, .int .i64 0, .float .f64 0, .string s, .slice none 0 0, .int .u64 0, .slice none 0 0, .slice none 0 0, .string ByteArray.empty, .int .i64 0])) := setN_below (Nat.le_refl _) _ _ _ _ (HB1.out.setCell (p := ⟨w.heap.size + 1, 4, none⟩) (Nat.le_succ _) _)
  have HSm : Hid (∀ k, w.heap.size + 2 ≤ k → (setN (w1.setCell ⟨w.heap.size + 1, 4, none⟩ (.string s)) w.heap.size 0 [.int .i64 5, .bool false, .int .i64 0, .float .f64 0, .string s, .slice none 0 0, .int .u64 0, .slice none 0 0, .slice none 0 0, .string ByteArray.empty, .int .i64 0]).heap[k]? = w1.heap[k]?) := fun k hk => by
    rw [setN_other (by omega), heap_setCell_other _ _ _ _ (by show k ≠ w.heap.size + 1; omega)]
  have HZ : Hid ((setN (w1.setCell ⟨w.heap.size + 1, 4, none⟩ (.string s)) w.heap.size 0 [.int .i64 5, .bool false, .int .i64 0, .float .f64 0, .string s, .slice none 0 0, .int .u64 0, .slice none 0 0, .slice none 0 0, .string ByteArray.empty, .int .i64 0]).heap.size = w1.heap.size) := by show _ = _; rw [setN_size]; simp
  refine bodyPost_ret (v := .agg (tcells 5 false 0 0 s (.slice none 0 0) 0 (.slice none 0 0) (.slice none 0 0) ByteArray.empty 0)) (by simp [results, Tryz.results97, go_sem, tcells, r0, r1, r2, r3, r4, r5, r6, r7, r8, r9, r10] <;> rfl) rfl ⟨rfl, HE.out⟩
set_option maxRecDepth 100000 in
set_option maxHeartbeats 1000000 in
theorem tof_6 (ab : Option Addr) (L : ByteArray) (cb : Nat) (B : Nat → Prop) (w : World) (hB : Sub B w) (hl : BytesAt w B ab L) (hs : L.size ≤ 140737488355328) : Calls Tryz.prog 97 #[.iface 23 (.slice ab L.size cb)] w fun e w' => ∃ a cap, e = .returned (.agg (tcells 6 false 0 0 ByteArray.empty (.slice a L.size cap) 0 (.slice none 0 0) (.slice none 0 0) ByteArray.empty 0)) ∧ Below w.heap.size w w' ∧ BytesAt w' (FrS w w') a L := by
  have HC : Hid (∀ W, Below w.heap.size w W → Calls Tryz.prog 99 #[.slice ab L.size cb] W fun e w' => ∃ a cap, e = .returned (.slice a L.size cap) ∧ Below W.heap.size W w' ∧ BytesLV w' (Fr W w') a L cap) := fun W hW => bClone_any L ab cb B W (hB.later hW) (hl.same (hB.same hW) (fun _ h => h)) hs
  clear hl
  go_enter Tryz.func97, Tryz.ntmps97
  go_wp2_with (first
    | (go_at_call 101; refine (kindOf_bytes _ _).mono ?_; rintro e w' ⟨rfl, rfl⟩)
    | (go_at_call 99; refine (HC.out _ (((Below.refl _ _).alloc (Nat.le_refl _) _).alloc (by simp) _)).mono ?_; rintro e w1 ⟨a, cap, rfl, hb1, hl1⟩; obtain ⟨hR, hT, hbw, hsz⟩ := boxes_at hb1; obtain ⟨r0, r1, r2, r3, r4, r5, r6, r7, r8, r9, r10⟩ := tbox hR; obtain ⟨t0, t1, t2, t3, t4, t5, t6, t7, t8, t9, t10⟩ := tbox hT; have hf := box_writes hR; have f0 := hf 0; have f1 := hf 1; have f2 := hf 2; have f3 := hf 3; have f4 := hf 4; have f5 := hf 5; have f6 := hf 6; have f7 := hf 7; have f8 := hf 8; have f9 := hf 9; have f10 := hf 10; have g5 := box_writes hT 5; have HB1 : Hid (Below w.heap.size w w1) := hbw; have HL1 : Hid (BytesAt w1 (fun k => w.heap.size + 2 ≤ k ∧ k < w1.heap.size ∧ Soft w1 k) a L) := hl1.soft.same (Same.refl _ _) (fun k hk => ⟨by have := hk.1.1; simpa using this, hk.1.2, hk.2⟩); clear hl1; clear hb1 hR hT hf hbw))
  have HE : Hid (Below w.heap.size w (setN (w1.setCell ⟨w.heap.size + 1, 5, none⟩ (.slice a L.size cap)) w.heap.size 0 [.int .i64 6, .bool false, .int .i64 0, .float .f64 0, .string ByteArray.empty, .slice a L.size cap, .int .u64 0, .slice none 0 0, .slice none 0 0, .string ByteArray.empty, .int .i64 0])) := setN_below (Nat.le_refl _) _ _ _ _ (HB1.out.setCell (p := ⟨w.heap.size + 1, 5, none⟩) (Nat.le_succ _) _)
  have HSm : Hid (∀ k, w.heap.size + 2 ≤ k → (setN (w1.setCell ⟨w.heap.size + 1, 5, none⟩ (.slice a L.size cap)) w.heap.size 0 [.int .i64 6, .bool false, .int .i64 0, .float .f64 0, .string ByteArray.empty, .slice a L.size cap, .int .u64 0, .slice none 0 0, .slice none 0 0, .string ByteArray.empty, .int .i64 0]).heap[k]? = w1.heap[k]?) := fun k hk => by
    rw [setN_other (by omega), heap_setCell_other _ _ _ _ (by show k ≠ w.heap.size + 1; omega)]
  have HZ : Hid ((setN (w1.setCell ⟨w.heap.size + 1, 5, none⟩ (.slice a L.size cap)) w.heap.size 0 [.int .i64 6, .bool false, .int .i64 0, .float .f64 0, .string ByteArray.empty, .slice a L.size cap, .int .u64 0, .slice none 0 0, .slice none 0 0, .string ByteArray.empty, .int .i64 0]).heap.size = w1.heap.size) := by show _ = _; rw [setN_size]; simp
  have HF : Hid (BytesAt (setN (w1.setCell ⟨w.heap.size + 1, 5, none⟩ (.slice a L.size cap)) w.heap.size 0 [.int .i64 6, .bool false, .int .i64 0, .float .f64 0, .string ByteArray.empty, .slice a L.size cap, .int .u64 0, .slice none 0 0, .slice none 0 0, .string ByteArray.empty, .int .i64 0]) (FrS w (setN (w1.setCell ⟨w.heap.size + 1, 5, none⟩ (.slice a L.size cap)) w.heap.size 0 [.int .i64 6, .bool false, .int .i64 0, .float .f64 0, .string ByteArray.empty, .slice a L.size cap, .int .u64 0, .slice none 0 0, .slice none 0 0, .string ByteArray.empty, .int .i64 0])) a L) := HL1.out.same (fun k hk => HSm.out k hk.1) (fun k hk => ⟨by have := hk.1; omega, by rw [HZ.out]; exact hk.2.1, hk.2.2.same (HSm.out k hk.1)⟩)
  refine bodyPost_ret (v := .agg (tcells 6 false 0 0 ByteArray.empty (.slice a L.size cap) 0 (.slice none 0 0) (.slice none 0 0) ByteArray.empty 0)) (by simp [results, Tryz.results97, go_sem, tcells, r0, r1, r2, r3, r4, r5, r6, r7, r8, r9, r10] <;> rfl) rfl ⟨a, cap, rfl, HE.out, HF.out⟩
set_option maxRecDepth 100000 in
set_option maxHeartbeats 1000000 in
theorem tof_9 (al : Option Addr) (L : TmF) (cl : Nat) (w : World) (h : ∀ W, Below w.heap.size w W → Calls Tryz.prog 115 #[.slice al L.len cl] W fun e w' => ∃ a cap, e = .returned (.slice a L.len cap) ∧ Below W.heap.size W w' ∧ L.clean.In w' (FrS W w') a 0) : Calls Tryz.prog 97 #[.iface 73 (.slice al L.len cl)] w fun e w' => ∃ a cap, e = .returned (.agg (tcells 9 false 0 0 ByteArray.empty (.slice none 0 0) 0 (.slice none 0 0) (.slice a L.len cap) ByteArray.empty 0)) ∧ Below w.heap.size w w' ∧ L.clean.In w' (FrS w w') a 0 := by
  have HC : Hid _ := h
  clear h
  go_enter Tryz.func97, Tryz.ntmps97
  go_wp2_with (first
    | (go_at_call 101; refine (kindOf_dict _ _).mono ?_; rintro e w' ⟨rfl, rfl⟩)
    | (go_at_call 115; refine (HC.out _ (((Below.refl _ _).alloc (Nat.le_refl _) _).alloc (by simp) _)).mono ?_; rintro e w1 ⟨a, cap, rfl, hb1, hl1⟩; obtain ⟨hR, hT, hbw, hsz⟩ := boxes_at hb1; obtain ⟨r0, r1, r2, r3, r4, r5, r6, r7, r8, r9, r10⟩ := tbox hR; obtain ⟨t0, t1, t2, t3, t4, t5, t6, t7, t8, t9, t10⟩ := tbox hT; have hf := box_writes hR; have f0 := hf 0; have f1 := hf 1; have f2 := hf 2; have f3 := hf 3; have f4 := hf 4; have f5 := hf 5; have f6 := hf 6; have f7 := hf 7; have f8 := hf 8; have f9 := hf 9; have f10 := hf 10; have g8 := box_writes hT 8; have HB1 : Hid (Below w.heap.size w w1) := hbw; have HL1 : Hid (L.clean.In w1 (fun k => w.heap.size + 2 ≤ k ∧ k < w1.heap.size ∧ Soft w1 k) a 0) := L.clean.In_same (Same.refl _ _) (fun k hk => ⟨by have := hk.1; simpa using this, hk.2⟩) _ _ hl1; clear hl1; clear hb1 hR hT hf hbw))
  have HE : Hid (Below w.heap.size w (setN (w1.setCell ⟨w.heap.size + 1, 8, none⟩ (.slice a L.len cap)) w.heap.size 0 [.int .i64 9, .bool false, .int .i64 0, .float .f64 0, .string ByteArray.empty, .slice none 0 0, .int .u64 0, .slice none 0 0, .slice a L.len cap, .string ByteArray.empty, .int .i64 0])) := setN_below (Nat.le_refl _) _ _ _ _ (HB1.out.setCell (p := ⟨w.heap.size + 1, 8, none⟩) (Nat.le_succ _) _)
  have HSm : Hid (∀ k, w.heap.size + 2 ≤ k → (setN (w1.setCell ⟨w.heap.size + 1, 8, none⟩ (.slice a L.len cap)) w.heap.size 0 [.int .i64 9, .bool false, .int .i64 0, .float .f64 0, .string ByteArray.empty, .slice none 0 0, .int .u64 0, .slice none 0 0, .slice a L.len cap, .string ByteArray.empty, .int .i64 0]).heap[k]? = w1.heap[k]?) := fun k hk => by
    rw [setN_other (by omega), heap_setCell_other _ _ _ _ (by show k ≠ w.heap.size + 1; omega)]
  have HZ : Hid ((setN (w1.setCell ⟨w.heap.size + 1, 8, none⟩ (.slice a L.len cap)) w.heap.size 0 [.int .i64 9, .bool false, .int .i64 0, .float .f64 0, .string ByteArray.empty, .slice none 0 0, .int .u64 0, .slice none 0 0, .slice a L.len cap, .string ByteArray.empty, .int .i64 0]).heap.size = w1.heap.size) := by show _ = _; rw [setN_size]; simp
  have HF : Hid (L.clean.In (setN (w1.setCell ⟨w.heap.size + 1, 8, none⟩ (.slice a L.len cap)) w.heap.size 0 [.int .i64 9, .bool false, .int .i64 0, .float .f64 0, .string ByteArray.empty, .slice none 0 0, .int .u64 0, .slice none 0 0, .slice a L.len cap, .string ByteArray.empty, .int .i64 0]) (FrS w (setN (w1.setCell ⟨w.heap.size + 1, 8, none⟩ (.slice a L.len cap)) w.heap.size 0 [.int .i64 9, .bool false, .int .i64 0, .float .f64 0, .string ByteArray.empty, .slice none 0 0, .int .u64 0, .slice none 0 0, .slice a L.len cap, .string ByteArray.empty, .int .i64 0])) a 0) := L.clean.In_same (fun k hk => HSm.out k hk.1) (fun k hk => ⟨by have := hk.1; omega, by rw [HZ.out]; exact hk.2.1, hk.2.2.same (HSm.out k hk.1)⟩) _ _ HL1.out
  refine bodyPost_ret (v := .agg (tcells 9 false 0 0 ByteArray.empty (.slice none 0 0) 0 (.slice none 0 0) (.slice a L.len cap) ByteArray.empty 0)) (by simp [results, Tryz.results97, go_sem, tcells, r0, r1, r2, r3, r4, r5, r6, r7, r8, r9, r10] <;> rfl) rfl ⟨a, cap, rfl, HE.out, HF.out⟩
end Go.Proofs.YtjdjpbdfchhcfaaGreat

/- value.termOf at a record. -/
namespace Go.Proofs.YtjdjpbdfchhcfaaGreat
open Go.RowKit

set_option maxRecDepth 100000 in
set_option maxHeartbeats 2000000 in
theorem tof_10 (g : Nat) (s : ByteArray) (vr : Int) (al : Option Addr) (L : TmF) (cl : Nat) (w : World) (hg : g < w.heap.size) (c0 : w.cell? ⟨g, 0, none⟩ = some (.string s)) (c1 : w.cell? ⟨g, 1, none⟩ = some (.int .i64 vr)) (c2 : w.cell? ⟨g, 2, none⟩ = some (.slice al L.len cl)) (hs : s.size ≤ 140737488355328)
    (h : ∀ W, Below w.heap.size w W → Calls Tryz.prog 115 #[.slice al L.len cl] W fun e w' => ∃ a cap, e = .returned (.slice a L.len cap) ∧ Below W.heap.size W w' ∧ L.clean.In w' (FrS W w') a 0) :
    Calls Tryz.prog 97 #[.iface 75 (.pointer (some ⟨g, 0, none⟩))] w fun e w' => ∃ a cap, e = .returned (.agg (tcells 10 false 0 0 ByteArray.empty (.slice none 0 0) 0 (.slice none 0 0) (.slice a L.len cap) s vr)) ∧ Below w.heap.size w w' ∧ L.clean.In w' (FrS w w') a 0 := by
  have HC : Hid _ := h
  clear h
  have HX : Hid (∀ W, Below w.heap.size w W → W.cell? ⟨g, 0, none⟩ = some (.string s) ∧ W.cell? ⟨g, 1, none⟩ = some (.int .i64 vr) ∧ W.cell? ⟨g, 2, none⟩ = some (.slice al L.len cl)) := fun W hW => ⟨by rw [hW.cell (p := ⟨g, 0, none⟩) hg]; exact c0, by rw [hW.cell (p := ⟨g, 1, none⟩) hg]; exact c1, by rw [hW.cell (p := ⟨g, 2, none⟩) hg]; exact c2⟩
  have HB0 : Hid (Below w.heap.size w ((w.alloc (.cells #[.int .i64 0, .bool false, .int .i64 0, .float .f64 0, .string ByteArray.empty, .slice none 0 0, .int .u64 0, .slice none 0 0, .slice none 0 0, .string ByteArray.empty, .int .i64 0] 29)).alloc (.cells #[.int .i64 10, .bool false, .int .i64 0, .float .f64 0, .string ByteArray.empty, .slice none 0 0, .int .u64 0, .slice none 0 0, .slice none 0 0, .string ByteArray.empty, .int .i64 0] 29))) := ((Below.refl _ _).alloc (Nat.le_refl _) _).alloc (by simp) _
  have hfar : g ≠ w.heap.size + 1 := by omega
  clear c0 c1 c2
  go_enter Tryz.func97, Tryz.ntmps97
  go_wp2_with (go_at_call 101; refine (kindOf_rec _ _).mono ?_; rintro e w' ⟨rfl, rfl⟩)
  go_region_held3 (fun W => W.cell? ⟨g, 0, none⟩ = some (.string s) ∧ W.cell? ⟨g, 1, none⟩ = some (.int .i64 vr) ∧ W.cell? ⟨g, 2, none⟩ = some (.slice al L.len cl))
    (first | (refine ⟨?_, ?_, ?_⟩ <;> ((repeat rw [cell_far hfar]); first | with_reducible exact (HX.out w2 HBw2.out).1 | with_reducible exact (HX.out w2 HBw2.out).2.1 | with_reducible exact (HX.out w2 HBw2.out).2.2)) | with_reducible exact HX.out w1 (below_to HB0.out HB1.out) | exact HX.out _ HB0.out | exact HX.out _ HB0.out.drew)
    ((first
      | (go_at_call 59; refine (sClone_any s _ hs).mono ?_; rintro e w1 ⟨rfl, hb1⟩; have HB1 : Hid (Below ((w.alloc (.cells #[.int .i64 0, .bool false, .int .i64 0, .float .f64 0, .string ByteArray.empty, .slice none 0 0, .int .u64 0, .slice none 0 0, .slice none 0 0, .string ByteArray.empty, .int .i64 0] 29)).alloc (.cells #[.int .i64 10, .bool false, .int .i64 0, .float .f64 0, .string ByteArray.empty, .slice none 0 0, .int .u64 0, .slice none 0 0, .slice none 0 0, .string ByteArray.empty, .int .i64 0] 29)).heap.size ((w.alloc (.cells #[.int .i64 0, .bool false, .int .i64 0, .float .f64 0, .string ByteArray.empty, .slice none 0 0, .int .u64 0, .slice none 0 0, .slice none 0 0, .string ByteArray.empty, .int .i64 0] 29)).alloc (.cells #[.int .i64 10, .bool false, .int .i64 0, .float .f64 0, .string ByteArray.empty, .slice none 0 0, .int .u64 0, .slice none 0 0, .slice none 0 0, .string ByteArray.empty, .int .i64 0] 29)) w1) := below_to (Below.refl _ _).drew hb1; clear hb1)
      | (go_at_call 115; refine (HC.out _ ?_).mono ?_; exact below_to HB0.out HB1.out; rintro e w2 ⟨a, cap, rfl, hb2, hl2⟩; have HB2 : Hid (Below ((w.alloc (.cells #[.int .i64 0, .bool false, .int .i64 0, .float .f64 0, .string ByteArray.empty, .slice none 0 0, .int .u64 0, .slice none 0 0, .slice none 0 0, .string ByteArray.empty, .int .i64 0] 29)).alloc (.cells #[.int .i64 10, .bool false, .int .i64 0, .float .f64 0, .string ByteArray.empty, .slice none 0 0, .int .u64 0, .slice none 0 0, .slice none 0 0, .string ByteArray.empty, .int .i64 0] 29)).heap.size ((w.alloc (.cells #[.int .i64 0, .bool false, .int .i64 0, .float .f64 0, .string ByteArray.empty, .slice none 0 0, .int .u64 0, .slice none 0 0, .slice none 0 0, .string ByteArray.empty, .int .i64 0] 29)).alloc (.cells #[.int .i64 10, .bool false, .int .i64 0, .float .f64 0, .string ByteArray.empty, .slice none 0 0, .int .u64 0, .slice none 0 0, .slice none 0 0, .string ByteArray.empty, .int .i64 0] 29)) w2) := below_to HB1.out hb2; obtain ⟨hR, hT, hbw, hsz⟩ := boxes_at HB2.out; obtain ⟨r0, r1, r2, r3, r4, r5, r6, r7, r8, r9, r10⟩ := tbox hR; obtain ⟨t0, t1, t2, t3, t4, t5, t6, t7, t8, t9, t10⟩ := tbox hT; have hf := box_writes hR; have f0 := hf 0; have f1 := hf 1; have f2 := hf 2; have f3 := hf 3; have f4 := hf 4; have f5 := hf 5; have f6 := hf 6; have f7 := hf 7; have f8 := hf 8; have f9 := hf 9; have f10 := hf 10; have g8 := box_writes hT 8; have g9 := box_writes hT 9; have g10 := box_writes hT 10; have HBw2 : Hid (Below w.heap.size w w2) := hbw; have HL2 : Hid (L.clean.In w2 (fun k => w.heap.size + 2 ≤ k ∧ k < w2.heap.size ∧ Soft w2 k) a 0) := L.clean.In_same (Same.refl _ _) (fun k hk => ⟨by have h1 := HB1.out.size; have h2 := hk.1; simp at h1; omega, hk.2⟩) _ _ hl2; clear hb2 hl2 hR hT hf hbw)))
  have HE : Hid (Below w.heap.size w (setN (((w2.setCell ⟨w.heap.size + 1, 9, none⟩ (.string s)).setCell ⟨w.heap.size + 1, 10, none⟩ (.int .i64 vr)).setCell ⟨w.heap.size + 1, 8, none⟩ (.slice a L.len cap)) w.heap.size 0 [.int .i64 10, .bool false, .int .i64 0, .float .f64 0, .string ByteArray.empty, .slice none 0 0, .int .u64 0, .slice none 0 0, .slice a L.len cap, .string s, .int .i64 vr])) := setN_below (Nat.le_refl _) _ _ _ _ (((HBw2.out.setCell (p := ⟨w.heap.size + 1, 9, none⟩) (Nat.le_succ _) _).setCell (p := ⟨w.heap.size + 1, 10, none⟩) (Nat.le_succ _) _).setCell (p := ⟨w.heap.size + 1, 8, none⟩) (Nat.le_succ _) _)
  have HSm : Hid (∀ k, w.heap.size + 2 ≤ k → (setN (((w2.setCell ⟨w.heap.size + 1, 9, none⟩ (.string s)).setCell ⟨w.heap.size + 1, 10, none⟩ (.int .i64 vr)).setCell ⟨w.heap.size + 1, 8, none⟩ (.slice a L.len cap)) w.heap.size 0 [.int .i64 10, .bool false, .int .i64 0, .float .f64 0, .string ByteArray.empty, .slice none 0 0, .int .u64 0, .slice none 0 0, .slice a L.len cap, .string s, .int .i64 vr]).heap[k]? = w2.heap[k]?) := fun k hk => by
    rw [setN_other (by omega), heap_setCell_other _ _ _ _ (by show k ≠ w.heap.size + 1; omega), heap_setCell_other _ _ _ _ (by show k ≠ w.heap.size + 1; omega), heap_setCell_other _ _ _ _ (by show k ≠ w.heap.size + 1; omega)]
  have HZ : Hid ((setN (((w2.setCell ⟨w.heap.size + 1, 9, none⟩ (.string s)).setCell ⟨w.heap.size + 1, 10, none⟩ (.int .i64 vr)).setCell ⟨w.heap.size + 1, 8, none⟩ (.slice a L.len cap)) w.heap.size 0 [.int .i64 10, .bool false, .int .i64 0, .float .f64 0, .string ByteArray.empty, .slice none 0 0, .int .u64 0, .slice none 0 0, .slice a L.len cap, .string s, .int .i64 vr]).heap.size = w2.heap.size) := by show _ = _; rw [setN_size]; simp
  have HF : Hid (L.clean.In (setN (((w2.setCell ⟨w.heap.size + 1, 9, none⟩ (.string s)).setCell ⟨w.heap.size + 1, 10, none⟩ (.int .i64 vr)).setCell ⟨w.heap.size + 1, 8, none⟩ (.slice a L.len cap)) w.heap.size 0 [.int .i64 10, .bool false, .int .i64 0, .float .f64 0, .string ByteArray.empty, .slice none 0 0, .int .u64 0, .slice none 0 0, .slice a L.len cap, .string s, .int .i64 vr]) (FrS w (setN (((w2.setCell ⟨w.heap.size + 1, 9, none⟩ (.string s)).setCell ⟨w.heap.size + 1, 10, none⟩ (.int .i64 vr)).setCell ⟨w.heap.size + 1, 8, none⟩ (.slice a L.len cap)) w.heap.size 0 [.int .i64 10, .bool false, .int .i64 0, .float .f64 0, .string ByteArray.empty, .slice none 0 0, .int .u64 0, .slice none 0 0, .slice a L.len cap, .string s, .int .i64 vr])) a 0) := L.clean.In_same (fun k hk => HSm.out k hk.1) (fun k hk => ⟨by have := hk.1; omega, by rw [HZ.out]; exact hk.2.1, hk.2.2.same (HSm.out k hk.1)⟩) _ _ HL2.out
  go_wp2_with fail
  refine bodyPost_ret (v := .agg (tcells 10 false 0 0 ByteArray.empty (.slice none 0 0) 0 (.slice none 0 0) (.slice a L.len cap) s vr)) (by simp [results, Tryz.results97, go_sem, tcells, r0, r1, r2, r3, r4, r5, r6, r7, r8, r9, r10] <;> rfl) rfl ⟨a, cap, rfl, HE.out, HF.out⟩

theorem Bd.leaf {k i : Int} {f : Nat} {tx c : ByteArray} {nb nl nf : Nat} {rf vr : Int} (h0 : 1 ≤ k ∧ k ≤ 10) (hi : -9223372036854775808 ≤ i ∧ i ≤ 9223372036854775807) (hf : f < 18446744073709551616) (hr : 0 ≤ rf ∧ rf ≤ 18446744073709551615) (hv : -9223372036854775808 ≤ vr ∧ vr ≤ 9223372036854775807) (h1 : tx.size ≤ 65536) (h2 : c.size ≤ 65536) (h3 : nb ≤ 65536) (h4 : nl ≤ 4096) (h5 : nf ≤ 4096) : Bd k i f tx nb rf nl nf c vr :=
  ⟨by omega, by omega, hi.1, hi.2, hf, hr.1, hr.2, hv.1, hv.2, by omega, by omega, by omega, by omega, by omega⟩
theorem empty_size : ByteArray.empty.size = 0 := rfl

section
variable {b : Bool} {i : Int} {f : Nat} {tx : ByteArray} {by' : ByteArray} {rf : Int} {l : TmL} {fs : TmF} {c : ByteArray} {v : Int}
theorem Tm.clean_1 : (Tm.mk 1 b i f tx by' rf l fs c v).clean = .mk 1 false 0 0 ByteArray.empty ByteArray.empty 0 .nil .nil ByteArray.empty 0 := by simp [Tm.clean]
theorem Tm.clean_2 : (Tm.mk 2 b i f tx by' rf l fs c v).clean = .mk 2 b 0 0 ByteArray.empty ByteArray.empty 0 .nil .nil ByteArray.empty 0 := by simp [Tm.clean]
theorem Tm.clean_3 : (Tm.mk 3 b i f tx by' rf l fs c v).clean = .mk 3 false i 0 ByteArray.empty ByteArray.empty 0 .nil .nil ByteArray.empty 0 := by simp [Tm.clean]
theorem Tm.clean_4 : (Tm.mk 4 b i f tx by' rf l fs c v).clean = .mk 4 false 0 f ByteArray.empty ByteArray.empty 0 .nil .nil ByteArray.empty 0 := by simp [Tm.clean]
theorem Tm.clean_5 : (Tm.mk 5 b i f tx by' rf l fs c v).clean = .mk 5 false 0 0 tx ByteArray.empty 0 .nil .nil ByteArray.empty 0 := by simp [Tm.clean]
theorem Tm.clean_6 : (Tm.mk 6 b i f tx by' rf l fs c v).clean = .mk 6 false 0 0 ByteArray.empty by' 0 .nil .nil ByteArray.empty 0 := by simp [Tm.clean]
theorem Tm.clean_7 : (Tm.mk 7 b i f tx by' rf l fs c v).clean = .mk 7 false 0 0 ByteArray.empty ByteArray.empty rf .nil .nil ByteArray.empty 0 := by simp [Tm.clean]
theorem Tm.clean_8 : (Tm.mk 8 b i f tx by' rf l fs c v).clean = .mk 8 false 0 0 ByteArray.empty ByteArray.empty 0 l.clean .nil ByteArray.empty 0 := by simp [Tm.clean]
theorem Tm.clean_9 : (Tm.mk 9 b i f tx by' rf l fs c v).clean = .mk 9 false 0 0 ByteArray.empty ByteArray.empty 0 .nil fs.clean ByteArray.empty 0 := by simp [Tm.clean]
theorem Tm.clean_10 : (Tm.mk 10 b i f tx by' rf l fs c v).clean = .mk 10 false 0 0 ByteArray.empty ByteArray.empty 0 .nil fs.clean c v := by simp [Tm.clean]
end

set_option maxHeartbeats 1000000 in
theorem termOf_any (N : Nat) : TOfC N := by
  induction N with
  | zero => intro t ht; cases t; simp [Tm.sz] at ht
  | succ N ih =>
    intro t hN v B w hv hB ho hbd
    cases t with
    | mk k b i f tx by' rf l fs c vr =>
      have hlN : l.sz ≤ N ∧ fs.sz ≤ N := by simp [Tm.sz] at hN; omega
      obtain ⟨p1, p2, p3, p4⟩ := ho.parts
      obtain ⟨q1, q2, q3, q4, q5⟩ := ho.bounds
      simp only [Tm.Bdd] at hbd
      obtain ⟨bi, bf, br, bv, bl, bfs⟩ := hbd
      simp only [Tm.V] at hv
      obtain ⟨h1, h2, h3, h4, h5, h6, h7, h8, h9, h10, h11, h12⟩ := hv
      have HF : ∀ (hk : k = 9 ∨ k = 10) (al : Option Addr) (cl : Nat), fs.V w B al 0 → ∀ W, Below w.heap.size w W → Calls Tryz.prog 115 #[.slice al fs.len cl] W fun e w' => ∃ a cap, e = .returned (.slice a fs.len cap) ∧ Below W.heap.size W w' ∧ fs.clean.In w' (FrS W w') a 0 := fun hk al cl hfs W hW =>
        entriesOf_any N ih al fs cl W hlN.2 B (hB.later hW) (fs.V_same (hB.same hW) (fun _ h => h) al 0 hfs) (TmF.nm (q4 hk)).1 (TmF.nm (q4 hk)).2 (p4 hk) bfs
      have z : ByteArray.empty.size ≤ 65536 := by rw [empty_size]; omega
      by_cases k1 : k = 1
      · subst k1; rw [h1 rfl]; refine (tof_1 w).mono ?_
        rintro e w' ⟨rfl, hb⟩
        refine ⟨_, rfl, hb, ?_⟩
        rw [Tm.clean_1]; simp only [Tm.In]
        exact ⟨none, 0, none, 0, none, 0, rfl, Bd.leaf (by decide) (by decide) (by decide) (by decide) (by decide) z z (by decide) (by decide) (by decide), fun j hj => absurd hj (Nat.not_lt_zero _), trivial, trivial⟩
      by_cases k2 : k = 2
      · subst k2; rw [h2 rfl]; refine (tof_2 b w).mono ?_
        rintro e w' ⟨rfl, hb⟩
        refine ⟨_, rfl, hb, ?_⟩
        rw [Tm.clean_2]; simp only [Tm.In]
        exact ⟨none, 0, none, 0, none, 0, rfl, Bd.leaf (by decide) (by decide) (by decide) (by decide) (by decide) z z (by decide) (by decide) (by decide), fun j hj => absurd hj (Nat.not_lt_zero _), trivial, trivial⟩
      by_cases k3 : k = 3
      · subst k3; rw [h3 rfl]; refine (tof_3 i w).mono ?_
        rintro e w' ⟨rfl, hb⟩
        refine ⟨_, rfl, hb, ?_⟩
        rw [Tm.clean_3]; simp only [Tm.In]
        exact ⟨none, 0, none, 0, none, 0, rfl, Bd.leaf (by decide) bi (by decide) (by decide) (by decide) z z (by decide) (by decide) (by decide), fun j hj => absurd hj (Nat.not_lt_zero _), trivial, trivial⟩
      by_cases k4 : k = 4
      · subst k4; rw [(h4 rfl).1]; refine (tof_4 f w).mono ?_
        rintro e w' ⟨rfl, hb⟩
        refine ⟨_, rfl, hb, ?_⟩
        rw [Tm.clean_4]; simp only [Tm.In]
        exact ⟨none, 0, none, 0, none, 0, rfl, Bd.leaf (by decide) (by decide) bf (by decide) (by decide) z z (by decide) (by decide) (by decide), fun j hj => absurd hj (Nat.not_lt_zero _), trivial, trivial⟩
      by_cases k5 : k = 5
      · subst k5; rw [(h5 rfl).1]; refine (tof_5 tx w (by have := q1 rfl; omega)).mono ?_
        rintro e w' ⟨rfl, hb⟩
        refine ⟨_, rfl, hb, ?_⟩
        rw [Tm.clean_5]; simp only [Tm.In]
        exact ⟨none, 0, none, 0, none, 0, rfl, Bd.leaf (by decide) (by decide) (by decide) (by decide) (by decide) (q1 rfl) z (by decide) (by decide) (by decide), fun j hj => absurd hj (Nat.not_lt_zero _), trivial, trivial⟩
      by_cases k6 : k = 6
      · subst k6
        obtain ⟨a, cap, rfl, _, hby⟩ := h6 rfl
        refine (tof_6 a by' cap B w hB hby (by have := q2 rfl; omega)).mono ?_
        rintro e w' ⟨a', cap', rfl, hb, hl⟩
        refine ⟨_, rfl, hb, ?_⟩
        rw [Tm.clean_6]; simp only [Tm.In]
        exact ⟨a', cap', none, 0, none, 0, rfl, Bd.leaf (by decide) (by decide) (by decide) (by decide) (by decide) z z (q2 rfl) (by decide) (by decide), hl, trivial, trivial⟩
      by_cases k7 : k = 7
      · subst k7; rw [h7 rfl]; refine (tof_7 rf w).mono ?_
        rintro e w' ⟨rfl, hb⟩
        refine ⟨_, rfl, hb, ?_⟩
        rw [Tm.clean_7]; simp only [Tm.In]
        exact ⟨none, 0, none, 0, none, 0, rfl, Bd.leaf (by decide) (by decide) (by decide) br (by decide) z z (by decide) (by decide) (by decide), fun j hj => absurd hj (Nat.not_lt_zero _), trivial, trivial⟩
      by_cases k8 : k = 8
      · subst k8
        obtain ⟨a, cap, rfl, _, hl⟩ := h8 rfl
        refine (tof_8 N ih a l cap w hlN.1 B hB hl (q3 rfl) (p3 rfl) bl).mono ?_
        rintro e w' ⟨a', cap', rfl, hb, hl'⟩
        refine ⟨_, rfl, hb, ?_⟩
        rw [Tm.clean_8]; simp only [Tm.In]
        refine ⟨none, 0, a', cap', none, 0, by simp [TmL.clean_len, TmF.len], Bd.leaf (by decide) (by decide) (by decide) (by decide) (by decide) z z (by decide) (by simp [TmL.clean_len]; exact q3 rfl) (by decide), fun j hj => absurd hj (Nat.not_lt_zero _), hl', trivial⟩
      by_cases k9 : k = 9
      · subst k9
        obtain ⟨a, cap, rfl, _, hl⟩ := h9 rfl
        refine (tof_9 a fs cap w (HF (.inl rfl) a cap hl)).mono ?_
        rintro e w' ⟨a', cap', rfl, hb, hl'⟩
        refine ⟨_, rfl, hb, ?_⟩
        rw [Tm.clean_9]; simp only [Tm.In]
        refine ⟨none, 0, none, 0, a', cap', by simp [TmF.clean_len, TmL.len], Bd.leaf (by decide) (by decide) (by decide) (by decide) (by decide) z z (by decide) (by decide) (by simp [TmF.clean_len]; exact (TmF.nm (q4 (.inl rfl))).1), fun j hj => absurd hj (Nat.not_lt_zero _), trivial, hl'⟩
      have k10 : k = 10 := by clear h1 h2 h3 h4 h5 h6 h7 h8 h9 h10 h11 h12 HF; omega
      subst k10
      obtain ⟨g, a, cap, rfl, hg, c0, c1, c2, _, _, hl⟩ := h10 rfl
      have hcs := head_len (q5 rfl)
      refine (tof_10 g c vr a fs cap w (hB g hg) c0 c1 c2 (by omega) (HF (.inr rfl) a cap hl)).mono ?_
      rintro e w' ⟨a', cap', rfl, hb, hl'⟩
      refine ⟨_, rfl, hb, ?_⟩
      rw [Tm.clean_10]; simp only [Tm.In]
      refine ⟨none, 0, none, 0, a', cap', by simp [TmF.clean_len, TmL.len], Bd.leaf (by decide) (by decide) (by decide) (by decide) bv z (by omega) (by decide) (by decide) (by simp [TmF.clean_len]; exact (TmF.nm (q4 (.inr rfl))).1), fun j hj => absurd hj (Nat.not_lt_zero _), trivial, hl'⟩
end Go.Proofs.YtjdjpbdfchhcfaaGreat

/- tenonmake.plain and tenonmake.entries: the term of a value, made by appending. -/
namespace Go.Proofs.YtjdjpbdfchhcfaaGreat
open Go.RowKit

end Go.Proofs.YtjdjpbdfchhcfaaGreat

/- Two boxes in new memory, each with a term's eleven cells. -/
namespace Go.Proofs.YtjdjpbdfchhcfaaGreat
open Go.RowKit

def two (w : World) (a b : Array Value) : World := (w.alloc (.cells a 29 (0, 0))).alloc (.cells b 29 (0, 0))
end Go.Proofs.YtjdjpbdfchhcfaaGreat

