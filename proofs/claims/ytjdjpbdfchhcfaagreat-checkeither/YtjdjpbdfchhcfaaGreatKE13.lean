/- value.valueOf and value.dictOf: the value of a term that can be, in new memory. -/
import Derived.Test.YtjdjpbdfchhcfaaGreatKE11
import Derived.Test.YtjdjpbdfchhcfaaGreatKE12
import Derived.Deep.RegionHeld3
namespace Go.Proofs.YtjdjpbdfchhcfaaGreat
open Go.RowKit

@[go_sem] theorem run_store_fl (P : Program) (w : World) (a : Addr) (m : Mode) (k : FloatKind) (n : Nat) : (store a (.float k n) m).run P w = stored P w a (.float k n) m := run_store P w a _ m rfl

theorem Tm.Ok.bounds {k : Int} {b : Bool} {i : Int} {f : Nat} {tx : ByteArray} {by' : ByteArray} {rf : Int} {l : TmL} {fs : TmF} {c : ByteArray} {v : Int} (h : Tm.Ok (.mk k b i f tx by' rf l fs c v)) :
    (k = 5 → tx.size ≤ 65536) ∧ (k = 6 → by'.size ≤ 65536) ∧ (k = 8 → l.len ≤ 4096) ∧ (k = 9 ∨ k = 10 → Sp.fieldsR fs.names = 0) ∧ (k = 10 → Sp.headR c v = 0) := by
  obtain ⟨n, p, d, h⟩ := h
  have ho : (Tm.mk k b i f tx by' rf l fs c v).own p n = 0 := by
    by_cases e : (Tm.mk k b i f tx by' rf l fs c v).own p n ≠ 0
    · rw [Tm.wk, if_pos e] at h; exact absurd h e
    · exact Decidable.not_not.1 e
  have he : Sp.ent k p n = 0 := Tm.own_ent _ _ _ ho
  simp only [Tm.own, he, ne_eq, not_true_eq_false, if_false] at ho
  refine ⟨fun e => ?_, fun e => ?_, fun e => ?_, fun e => ?_, fun e => ?_⟩
  · subst e; simp [Sp.len] at ho; omega
  · subst e; simp [Sp.len] at ho; omega
  · subst e; simp [Sp.len] at ho; omega
  · rcases e with rfl | rfl
    · simpa using ho
    · by_cases hh : Sp.headR c v = 0
      · simpa [hh] using ho
      · simp [hh] at ho
  · subst e
    by_cases hh : Sp.headR c v = 0
    · exact hh
    · simp [hh] at ho
theorem named_len : ∀ (l : List ByteArray) (a : ByteArray), Sp.named a l = true → ∀ n ∈ l, n.size ≤ 32
  | [], _, _, n, hn => by simp at hn
  | m :: l, a, h, n, hn => by
    simp only [Sp.named, Bool.and_eq_true] at h
    simp only [List.mem_cons] at hn
    rcases hn with rfl | hn
    · have := h.1.1; simp [Sp.isNm] at this; omega
    · exact named_len l m h.2 n hn
def TmF.Nm (l : TmF) : Prop := ∀ n ∈ l.names, n.size ≤ 32
theorem TmF.nm {l : TmF} (h : Sp.fieldsR l.names = 0) : l.len ≤ 4096 ∧ l.Nm := by
  unfold Sp.fieldsR at h
  split at h
  · omega
  · rename_i h1
    rw [TmF.names_len] at h1
    split at h
    · rename_i h2; exact ⟨by omega, named_len _ _ h2⟩
    · omega
theorem TmF.Nm.head {n : ByteArray} {t : Tm} {l : TmF} (h : TmF.Nm (.cons n t l)) : n.size ≤ 32 ∧ l.Nm := ⟨h n (by simp [TmF.names]), fun m hm => h m (by simp [TmF.names, hm])⟩
theorem head_len {c : ByteArray} {v : Int} (h : Sp.headR c v = 0) : c.size ≤ 32 := by
  unfold Sp.headR at h
  split at h
  · omega
  · rename_i h1
    have : Sp.isNm c = true := by simpa using h1
    simp [Sp.isNm] at this; omega

def VOfC (N : Nat) : Prop := ∀ (t : Tm), t.sz ≤ N → ∀ (cs : Array Value) (B : Nat → Prop) (w : World), t.In w B cs → Sub B w → t.Ok →
  Calls Tryz.prog 127 #[.agg cs] w fun e w' => ∃ v, e = .returned v ∧ Below w.heap.size w w' ∧ t.V w' (Fr w w') v
theorem VOfC.at {N : Nat} (HC : VOfC N) {t : Tm} (hN : t.sz ≤ N) {cs : Array Value} {B : Nat → Prop} {w : World} (h : t.In w B cs) (hB : Sub B w) (ho : t.Ok) :
    ∀ W, Below w.heap.size w W → Calls Tryz.prog 127 #[.agg cs] W fun e w' => ∃ v, e = .returned v ∧ Below W.heap.size W w' ∧ t.V w' (Fr W w') v ∧ (v = .nilIface ∨ ∃ T x, v = .iface T x) := by
  intro W hW
  refine (HC t hN cs B W (t.In_same (hB.same hW) (fun _ h => h) cs h) (hB.later hW) ho).mono ?_
  rintro e w' ⟨v, rfl, hb, hv⟩
  exact ⟨v, rfl, hb, hv, t.V_shape v hv⟩

theorem Tm.In_tc' {w : World} {B : Nat → Prop} {t : Tm} {cs : Array Value} (h : t.In w B cs) : ∃ k b i f tx ab nb cb rf al nl cl af nf cf c vr, cs = tcells k b i f tx (.slice ab nb cb) rf (.slice al nl cl) (.slice af nf cf) c vr := by
  cases t; simp only [Tm.In] at h; obtain ⟨_, _, _, _, _, _, rfl, _⟩ := h; exact ⟨_, _, _, _, _, _, _, _, _, _, _, _, _, _, _, _, _, rfl⟩

set_option maxRecDepth 100000 in
set_option maxHeartbeats 2000000 in
theorem vof_8 (N : Nat) (HC : VOfC N) (b : Bool) (i : Int) (f : Nat) (tx : ByteArray) (vb : Value) (rf : Int) (al : Option Addr) (L : TmL) (cl : Nat) (vf : Value) (c : ByteArray) (vr : Int) (w : World) (hN : L.sz ≤ N) (B : Nat → Prop) (hB : Sub B w) (hL : L.In w B al 0) (hlen : L.len ≤ 4096) (ho : L.Ok) :
    Calls Tryz.prog 127 #[.agg (tcells 8 b i f tx vb rf (.slice al L.len cl) vf c vr)] w fun e w' => ∃ a cap, e = .returned (.iface 71 (.slice a L.len cap)) ∧ Below w.heap.size w w' ∧ L.LV w' (Fr w w') a cap := by
  unfold tcells
  obtain ⟨i0, hi, hz0, hz1, hz2⟩ := info_parts Tryz.infoI
  have HCH : Hid (VOfC N) := HC
  clear HC
  obtain ⟨M, hM⟩ : ∃ M, M = madeCells (Value.nilIface).cells (((L.len : Nat) : Int).toNat * i0.size) := ⟨_, rfl⟩
  have hMs : M.size = L.len := by rw [hM, size_madeCells, hz1]; simp
  have hmake : ∀ W : World, (Instr.makeSlice 71 (.int .i64 (L.len : Int)) (.int .i64 (L.len : Int))).run Tryz.prog W = .ok (.slice (some ⟨W.heap.size, 0, none⟩) L.len L.len) (W.alloc (.cells M 20)) := fun W => by
    have h := run_make (P := Tryz.prog) W 71 20 i0 .nilIface Tryz.undL hi hz0 .i64 .i64 (L.len : Int) (L.len : Int) (by omega) (by omega) (by rw [hz2]; omega) (by omega)
    rw [← hM] at h; simpa using h
  clear hM hi hz0 hz1 hz2
  have H0 : Hid (∀ o, RW 20 w ((w.alloc o).alloc (.cells M 20)) (w.heap.size + 1) L.len [] ∧ VPre ((w.alloc o).alloc (.cells M 20)) (Own w.heap.size ((w.alloc o).alloc (.cells M 20)) (w.heap.size + 1)) L [] L ∧ L.In w B al 0 ∧ L.Ok) := fun o => by
    have h := RW.made (w := w) (w0 := w.alloc o) ((Below.refl _ _).alloc (Nat.le_refl _) _) M 20
    rw [hMs] at h
    exact ⟨by simpa using h, (VPre_nil _ _).2 rfl, hL, ho⟩
  clear hL ho
  go_enter Tryz.func127, Tryz.ntmps127
  go_wp2_with fail
  go_loopw [49] (fun x wr => ∃ (k : Nat) (l : TmL) (xs : List Value), x = .int .i64 k ∧ l.len + k = L.len ∧ l.sz ≤ N ∧ xs.length = k ∧ Hid (RW 20 w wr (w.heap.size + 1) L.len xs ∧ VPre wr (Own w.heap.size wr (w.heap.size + 1)) L xs l ∧ l.In w B al k ∧ l.Ok)) (fun x _ => L.len - (intOf x).toNat)
  case atStart => exact ⟨0, L, [], rfl, rfl, hN, rfl, H0.out _⟩
  case round =>
    obtain ⟨k, l, xs, rfl, hl, hlN, hxs, HR⟩ := hrel
    cases l with
    | nil =>
      have h1 : L.len ≤ k := by simp [TmL.len] at hl; omega
      clear hl
      go_wp2_with fail
      go_ret
      exact ⟨_, _, rfl, HR.out.1.bel, HR.out.2.1.fin HR.out.1 (by unfold maxLen; omega)⟩
    | cons t l =>
      obtain ⟨hrw, hpre, hsrc, hok⟩ := HR.out
      simp only [TmL.In] at hsrc
      obtain ⟨g1, o1, cs, rfl, hg1, hc, ht, hl'⟩ := hsrc
      have hk1 : k < L.len := by simp only [TmL.len] at hl; omega
      have HL : Hid (l.len + (k + 1) = L.len) := by show _ = _; simp only [TmL.len] at hl; omega
      have htN : t.sz ≤ N ∧ l.sz ≤ N := by simp [TmL.sz] at hlN; omega
      have hs : Same B w wr := hB.same hrw.bel
      have HO := HCH.out.at htN.1 (t.In_same hs (fun _ h => h) cs ht) (hB.later hrw.bel) hok.head.1
      have HO : Hid _ := HO
      obtain ⟨k1, b1, i1, f1, tx1, ab1, nb1, cb1, rf1, al1, nl1, cl1, af1, nf1, cf1, cc1, vr1, rfl⟩ := Tm.In_tc' ht
      obtain ⟨e0, e1, e2, e3, e4, e5, e6, e7, e8, e9, e10⟩ := eleven (w := wr) (g := g1) (o := o1 + k * 11) (fun x hx => by rw [hs.cell (p := ⟨g1, o1 + k * 11 + x, none⟩) hg1]; exact hc x hx)
      have HN : Hid (l.In w B (some ⟨g1, o1, none⟩) (k + 1) ∧ l.Ok) := ⟨hl', hok.head.2⟩
      unfold tcells at HO
      clear hl hlN hc ht hl' hok hs hrw hpre
      have HS : Hid (∀ w1, Below wr.heap.size wr w1 → (∃ u, w1.cell? ⟨w.heap.size + 1, k, none⟩ = some u) ∧ w1.frozen? ⟨w.heap.size + 1, k, none⟩ = false) := fun w1 h => (HR.out.1.call h).own k hk1
      have hi0 : (0 : Int) ≤ (k : Int) := Int.natCast_nonneg _
      have hi1 : (k : Int) < (L.len : Int) := by omega
      go_wp2_with fail
      refine (HO.out _ ((Below.refl _ _).alloc (Nat.le_refl _) _)).mono ?_
      rintro e w1 ⟨v, rfl, hb1, hv, hsh⟩
      have hb1' : Below wr.heap.size wr w1 := ((Below.refl _ _).alloc (Nat.le_refl _) _).trans (hb1.mono (by simp))
      obtain ⟨⟨u, hu⟩, hf⟩ := HS.out w1 hb1'
      have HV : Hid (t.V w1 (Fr wr w1) v) := t.V_same (Same.refl _ _) (fun k hk => ⟨by have := hk.1; simp at this; omega, hk.2⟩) v hv
      have HB1 : Hid (Below wr.heap.size wr w1) := hb1'
      have HNew : Hid (RW 20 w (w1.setCell ⟨w.heap.size + 1, k, none⟩ v) (w.heap.size + 1) L.len (xs ++ [v]) ∧ VPre (w1.setCell ⟨w.heap.size + 1, k, none⟩ v) (Own w.heap.size (w1.setCell ⟨w.heap.size + 1, k, none⟩ v) (w.heap.size + 1)) L (xs ++ [v]) l) := by
        have h1 := (HR.out.1.call HB1.out).set [v] (by simp; omega)
        rw [hxs] at h1
        exact ⟨h1, VPre.step (o := k) HR.out.2.1 HB1.out HV.out HR.out.1.lt [v]⟩
      clear hb1 hb1' hv
      rcases hsh with rfl | ⟨T, x, rfl⟩
      all_goals
        go_wp2_with fail
        go_roundw
        case rel => exact ⟨k + 1, l, _, by go_num, HL.out, htN.2, by simp [hxs], HNew.out.1, HNew.out.2, HN.out.1, HN.out.2⟩
        case measure => simp [intOf]; omega
end Go.Proofs.YtjdjpbdfchhcfaaGreat

/- value.dictOf and value.valueOf, whole. -/
namespace Go.Proofs.YtjdjpbdfchhcfaaGreat
open Go.RowKit

theorem Tryz.infoFd : (Tryz.prog.info? 126).map (fun i => (i.zero, i.size, i.bytes)) = some (some (.agg #[.string ByteArray.empty, .nilIface]), 2, 32) := by kernel_rfl

set_option maxRecDepth 100000 in
set_option maxHeartbeats 2000000 in
theorem dictOf_any (N : Nat) (HC : VOfC N) (al : Option Addr) (L : TmF) (cl : Nat) (w : World) (hN : L.sz ≤ N) (B : Nat → Prop) (hB : Sub B w) (hL : L.In w B al 0) (hlen : L.len ≤ 4096) (hnm : L.Nm) (ho : L.Ok) :
    Calls Tryz.prog 136 #[.slice al L.len cl] w fun e w' => ∃ a cap, e = .returned (.slice a L.len cap) ∧ Below w.heap.size w w' ∧ L.LV w' (Fr w w') a cap := by
  obtain ⟨i0, hi, hz0, hz1, hz2⟩ := info_parts Tryz.infoFd
  have HCH : Hid (VOfC N) := HC
  clear HC
  obtain ⟨M, hM⟩ : ∃ M, M = madeCells (Value.agg #[.string ByteArray.empty, .nilIface]).cells (((L.len : Nat) : Int).toNat * i0.size) := ⟨_, rfl⟩
  have hMs : M.size = L.len * 2 := by rw [hM, size_madeCells, hz1]; simp
  have hmake : ∀ W : World, (Instr.makeSlice 73 (.int .i64 (L.len : Int)) (.int .i64 (L.len : Int))).run Tryz.prog W = .ok (.slice (some ⟨W.heap.size, 0, none⟩) L.len L.len) (W.alloc (.cells M 126)) := fun W => by
    have h := run_make (P := Tryz.prog) W 73 126 i0 _ Tryz.undD hi hz0 .i64 .i64 (L.len : Int) (L.len : Int) (by omega) (by omega) (by rw [hz2]; omega) (by omega)
    rw [← hM] at h; simpa using h
  clear hM hi hz0 hz1 hz2
  have H0 : Hid (RW 126 w (w.alloc (.cells M 126)) w.heap.size (L.len * 2) [] ∧ FPre (w.alloc (.cells M 126)) (Own w.heap.size (w.alloc (.cells M 126)) w.heap.size) L [] L ∧ L.In w B al 0 ∧ L.Ok ∧ L.Nm) := by
    have h := RW.made (w := w) (w0 := w) (Below.refl _ _) M 126
    rw [hMs] at h
    exact ⟨h, (FPre_nil _ _).2 rfl, hL, ho, hnm⟩
  clear hL ho hnm
  go_enter Tryz.func136, Tryz.ntmps136
  go_wp2_with fail
  go_loopw [11] (fun x wr => ∃ (k : Nat) (l : TmF) (xs : List Value), x = .int .i64 k ∧ l.len + k = L.len ∧ l.sz ≤ N ∧ xs.length = k * 2 ∧ Hid (RW 126 w wr w.heap.size (L.len * 2) xs ∧ FPre wr (Own w.heap.size wr w.heap.size) L xs l ∧ l.In w B al k ∧ l.Ok ∧ l.Nm)) (fun x _ => L.len - (intOf x).toNat)
  case atStart => exact ⟨0, L, [], rfl, rfl, hN, rfl, H0.out⟩
  case round =>
    obtain ⟨k, l, xs, rfl, hl, hlN, hxs, HR⟩ := hrel
    cases l with
    | nil =>
      have h1 : L.len ≤ k := by simp [TmF.len] at hl; omega
      clear hl
      go_wp2_with fail
      go_ret
      exact ⟨_, _, rfl, HR.out.1.bel, HR.out.2.1.fin HR.out.1 (by unfold maxLen; omega)⟩
    | cons n t l =>
      obtain ⟨hrw, hpre, hsrc, hok, hnm⟩ := HR.out
      simp only [TmF.In] at hsrc
      obtain ⟨g1, o1, cs, rfl, hg1, hnc, _, hc, ht, hl'⟩ := hsrc
      have hk1 : k < L.len := by simp only [TmF.len] at hl; omega
      have HL : Hid (l.len + (k + 1) = L.len) := by show _ = _; simp only [TmF.len] at hl; omega
      have htN : t.sz ≤ N ∧ l.sz ≤ N := by simp [TmF.sz] at hlN; omega
      have hs : Same B w wr := hB.same hrw.bel
      have HO := HCH.out.at htN.1 (t.In_same hs (fun _ h => h) cs ht) (hB.later hrw.bel) hok.head.1
      have HO : Hid _ := HO
      obtain ⟨k1, b1, i1, f1, tx1, ab1, nb1, cb1, rf1, al1, nl1, cl1, af1, nf1, cf1, cc1, vr1, rfl⟩ := Tm.In_tc' ht
      obtain ⟨e0, e1, e2, e3, e4, e5, e6, e7, e8, e9, e10⟩ := eleven (w := wr) (g := g1) (o := o1 + k * 12 + 1) (fun x hx => by rw [hs.cell (p := ⟨g1, o1 + k * 12 + 1 + x, none⟩) hg1]; exact hc x hx)
      have en : wr.cell? ⟨g1, o1 + k * 12, none⟩ = some (.string n) := by rw [hs.cell (p := ⟨g1, o1 + k * 12, none⟩) hg1]; exact hnc
      have HN : Hid (l.In w B (some ⟨g1, o1, none⟩) (k + 1) ∧ l.Ok ∧ l.Nm) := ⟨hl', hok.head.2, hnm.head.2⟩
      have hn32 : n.size ≤ 140737488355328 := by have := hnm.head.1; omega
      unfold tcells at HO
      clear hl hlN hc ht hl' hok hs hrw hpre hnc hnm
      have HS : Hid (∀ w1, Below wr.heap.size wr w1 → ((∃ u, w1.cell? ⟨w.heap.size, k * 2, none⟩ = some u) ∧ w1.frozen? ⟨w.heap.size, k * 2, none⟩ = false) ∧ (∃ u, w1.cell? ⟨w.heap.size, k * 2 + 1, none⟩ = some u) ∧ w1.frozen? ⟨w.heap.size, k * 2 + 1, none⟩ = false) := fun w1 h => ⟨(HR.out.1.call h).own (k * 2) (by omega), (HR.out.1.call h).own (k * 2 + 1) (by omega)⟩
      have hi0 : (0 : Int) ≤ (k : Int) := Int.natCast_nonneg _
      have hi1 : (k : Int) < (L.len : Int) := by omega
      have HS12 : Hid (∀ W : World, W.heap[wr.heap.size]? = some (.cells #[.string n, .int .i64 k1, .bool b1, .int .i64 i1, .float .f64 f1, .string tx1, .slice ab1 nb1 cb1, .int .u64 rf1, .slice al1 nl1 cl1, .slice af1 nf1 cf1, .string cc1, .int .i64 vr1] 124 (0, 0)) → W.cell? ⟨wr.heap.size, 0, none⟩ = some (.string n) ∧ W.cell? ⟨wr.heap.size, 1, none⟩ = some (.int .i64 k1) ∧ W.cell? ⟨wr.heap.size, 2, none⟩ = some (.bool b1) ∧ W.cell? ⟨wr.heap.size, 3, none⟩ = some (.int .i64 i1) ∧ W.cell? ⟨wr.heap.size, 4, none⟩ = some (.float .f64 f1) ∧ W.cell? ⟨wr.heap.size, 5, none⟩ = some (.string tx1) ∧ W.cell? ⟨wr.heap.size, 6, none⟩ = some (.slice ab1 nb1 cb1) ∧ W.cell? ⟨wr.heap.size, 7, none⟩ = some (.int .u64 rf1) ∧ W.cell? ⟨wr.heap.size, 8, none⟩ = some (.slice al1 nl1 cl1) ∧ W.cell? ⟨wr.heap.size, 9, none⟩ = some (.slice af1 nf1 cf1) ∧ W.cell? ⟨wr.heap.size, 10, none⟩ = some (.string cc1) ∧ W.cell? ⟨wr.heap.size, 11, none⟩ = some (.int .i64 vr1)) := fun W h => by
        have hh := fun j => cell_of_row W wr.heap.size j _ _ _ h
        exact ⟨hh 0, hh 1, hh 2, hh 3, hh 4, hh 5, hh 6, hh 7, hh 8, hh 9, hh 10, hh 11⟩
      have HX : Hid (∀ W, Below (wr.alloc (.cells #[.string n, .int .i64 k1, .bool b1, .int .i64 i1, .float .f64 f1, .string tx1, .slice ab1 nb1 cb1, .int .u64 rf1, .slice al1 nl1 cl1, .slice af1 nf1 cf1, .string cc1, .int .i64 vr1] 124)).heap.size (wr.alloc (.cells #[.string n, .int .i64 k1, .bool b1, .int .i64 i1, .float .f64 f1, .string tx1, .slice ab1 nb1 cb1, .int .u64 rf1, .slice al1 nl1 cl1, .slice af1 nf1 cf1, .string cc1, .int .i64 vr1] 124)) W → W.heap[wr.heap.size]? = some (.cells #[.string n, .int .i64 k1, .bool b1, .int .i64 i1, .float .f64 f1, .string tx1, .slice ab1 nb1 cb1, .int .u64 rf1, .slice al1 nl1 cl1, .slice af1 nf1 cf1, .string cc1, .int .i64 vr1] 124 (0, 0)) ∧ Below wr.heap.size wr W) := fun W h => ⟨by rw [h.block wr.heap.size (by simp)]; exact heap_alloc_new wr _, ((Below.refl _ _).alloc (Nat.le_refl _) _).trans (h.mono (by simp))⟩
      have hwlt : w.heap.size < wr.heap.size := HR.out.1.lt.2
      have HNew : Hid (∀ w2 v, Below wr.heap.size wr w2 → t.V w2 (Fr wr w2) v → RW 126 w (setN w2 w.heap.size (k * 2) [.string n, v]) w.heap.size (L.len * 2) (xs ++ [.string n, v]) ∧ FPre (setN w2 w.heap.size (k * 2) [.string n, v]) (Own w.heap.size (setN w2 w.heap.size (k * 2) [.string n, v]) w.heap.size) L (xs ++ [.string n, v]) l) := fun w2 v hb hv => by
        have h1 := (HR.out.1.call hb).set [.string n, v] (by simp; omega)
        rw [hxs] at h1
        exact ⟨h1, FPre.step (o := k * 2) HR.out.2.1 (by unfold maxLen; omega) hb hv HR.out.1.lt _⟩
      by_cases hkd : t.kind = 1
      · go_wp2_with fail
        go_region_held3 (fun W => W.cell? ⟨wr.heap.size, 0, none⟩ = some (.string n) ∧ W.cell? ⟨wr.heap.size, 1, none⟩ = some (.int .i64 k1) ∧ W.cell? ⟨wr.heap.size, 2, none⟩ = some (.bool b1) ∧ W.cell? ⟨wr.heap.size, 3, none⟩ = some (.int .i64 i1) ∧ W.cell? ⟨wr.heap.size, 4, none⟩ = some (.float .f64 f1) ∧ W.cell? ⟨wr.heap.size, 5, none⟩ = some (.string tx1) ∧ W.cell? ⟨wr.heap.size, 6, none⟩ = some (.slice ab1 nb1 cb1) ∧ W.cell? ⟨wr.heap.size, 7, none⟩ = some (.int .u64 rf1) ∧ W.cell? ⟨wr.heap.size, 8, none⟩ = some (.slice al1 nl1 cl1) ∧ W.cell? ⟨wr.heap.size, 9, none⟩ = some (.slice af1 nf1 cf1) ∧ W.cell? ⟨wr.heap.size, 10, none⟩ = some (.string cc1) ∧ W.cell? ⟨wr.heap.size, 11, none⟩ = some (.int .i64 vr1))
          (first | exact HS12.out _ (HX.out _ (Below.refl _ _)).1 | exact HS12.out _ (HX.out _ (Below.refl _ _).drew).1 | exact HS12.out _ (HX.out _ HB1.out).1 | exact HS12.out _ (HX.out _ HB2.out).1 | exact HS12.out _ (by rw [heap_setCell_other _ _ _ _ (by show wr.heap.size ≠ w.heap.size; omega), heap_setCell_other _ _ _ _ (by show wr.heap.size ≠ w.heap.size; omega)]; exact (HX.out _ HB2.out).1))
          ((first
            | (go_at_call 59; refine (sClone_any n _ hn32).mono ?_; rintro e w1 ⟨rfl, hb1⟩; have HB1 : Hid (Below (wr.alloc (.cells #[.string n, .int .i64 k1, .bool b1, .int .i64 i1, .float .f64 f1, .string tx1, .slice ab1 nb1 cb1, .int .u64 rf1, .slice al1 nl1 cl1, .slice af1 nf1 cf1, .string cc1, .int .i64 vr1] 124)).heap.size (wr.alloc (.cells #[.string n, .int .i64 k1, .bool b1, .int .i64 i1, .float .f64 f1, .string tx1, .slice ab1 nb1 cb1, .int .u64 rf1, .slice al1 nl1 cl1, .slice af1 nf1 cf1, .string cc1, .int .i64 vr1] 124)) w1) := below_to (Below.refl _ _).drew hb1; clear hb1)
            | (go_at_call 127; refine (HO.out _ ?_).mono ?_; exact (HX.out _ HB1.out).2; rintro e w2 ⟨v, rfl, hb2, hv, hsh⟩; have HV : Hid (t.V w2 (Fr wr w2) v) := t.V_same (Same.refl _ _) (fun k hk => ⟨Nat.le_trans (HX.out _ HB1.out).2.size hk.1, hk.2⟩) v hv; obtain rfl := Tm.V_nil hkd hv; have HB2 : Hid (Below (wr.alloc (.cells #[.string n, .int .i64 k1, .bool b1, .int .i64 i1, .float .f64 f1, .string tx1, .slice ab1 nb1 cb1, .int .u64 rf1, .slice al1 nl1 cl1, .slice af1 nf1 cf1, .string cc1, .int .i64 vr1] 124)).heap.size (wr.alloc (.cells #[.string n, .int .i64 k1, .bool b1, .int .i64 i1, .float .f64 f1, .string tx1, .slice ab1 nb1 cb1, .int .u64 rf1, .slice al1 nl1 cl1, .slice af1 nf1 cf1, .string cc1, .int .i64 vr1] 124)) w2) := below_to HB1.out hb2; obtain ⟨⟨⟨u0, hu0⟩, hf0⟩, ⟨u1, hu1⟩, hf1⟩ := HS.out w2 (HX.out _ HB2.out).2)))
        have HNw := HNew.out w2 _ (HX.out _ HB2.out).2 HV.out
        go_wp2_with fail
        go_roundw
        case rel => exact ⟨k + 1, l, _, by go_num, HL.out, htN.2, by simp [hxs]; omega, HNw.1, HNw.2, HN.out.1, HN.out.2.1, HN.out.2.2⟩
        case measure => simp [intOf]; omega
      · go_wp2_with fail
        go_region_held3 (fun W => W.cell? ⟨wr.heap.size, 0, none⟩ = some (.string n) ∧ W.cell? ⟨wr.heap.size, 1, none⟩ = some (.int .i64 k1) ∧ W.cell? ⟨wr.heap.size, 2, none⟩ = some (.bool b1) ∧ W.cell? ⟨wr.heap.size, 3, none⟩ = some (.int .i64 i1) ∧ W.cell? ⟨wr.heap.size, 4, none⟩ = some (.float .f64 f1) ∧ W.cell? ⟨wr.heap.size, 5, none⟩ = some (.string tx1) ∧ W.cell? ⟨wr.heap.size, 6, none⟩ = some (.slice ab1 nb1 cb1) ∧ W.cell? ⟨wr.heap.size, 7, none⟩ = some (.int .u64 rf1) ∧ W.cell? ⟨wr.heap.size, 8, none⟩ = some (.slice al1 nl1 cl1) ∧ W.cell? ⟨wr.heap.size, 9, none⟩ = some (.slice af1 nf1 cf1) ∧ W.cell? ⟨wr.heap.size, 10, none⟩ = some (.string cc1) ∧ W.cell? ⟨wr.heap.size, 11, none⟩ = some (.int .i64 vr1))
          (first | exact HS12.out _ (HX.out _ (Below.refl _ _)).1 | exact HS12.out _ (HX.out _ (Below.refl _ _).drew).1 | exact HS12.out _ (HX.out _ HB1.out).1 | exact HS12.out _ (HX.out _ HB2.out).1 | exact HS12.out _ (by rw [heap_setCell_other _ _ _ _ (by show wr.heap.size ≠ w.heap.size; omega), heap_setCell_other _ _ _ _ (by show wr.heap.size ≠ w.heap.size; omega)]; exact (HX.out _ HB2.out).1))
          ((first
            | (go_at_call 59; refine (sClone_any n _ hn32).mono ?_; rintro e w1 ⟨rfl, hb1⟩; have HB1 : Hid (Below (wr.alloc (.cells #[.string n, .int .i64 k1, .bool b1, .int .i64 i1, .float .f64 f1, .string tx1, .slice ab1 nb1 cb1, .int .u64 rf1, .slice al1 nl1 cl1, .slice af1 nf1 cf1, .string cc1, .int .i64 vr1] 124)).heap.size (wr.alloc (.cells #[.string n, .int .i64 k1, .bool b1, .int .i64 i1, .float .f64 f1, .string tx1, .slice ab1 nb1 cb1, .int .u64 rf1, .slice al1 nl1 cl1, .slice af1 nf1 cf1, .string cc1, .int .i64 vr1] 124)) w1) := below_to (Below.refl _ _).drew hb1; clear hb1)
            | (go_at_call 127; refine (HO.out _ ?_).mono ?_; exact (HX.out _ HB1.out).2; rintro e w2 ⟨v, rfl, hb2, hv, hsh⟩; have HV : Hid (t.V w2 (Fr wr w2) v) := t.V_same (Same.refl _ _) (fun k hk => ⟨Nat.le_trans (HX.out _ HB1.out).2.size hk.1, hk.2⟩) v hv; obtain ⟨T, x, rfl⟩ := Tm.V_iface hkd hv; have HB2 : Hid (Below (wr.alloc (.cells #[.string n, .int .i64 k1, .bool b1, .int .i64 i1, .float .f64 f1, .string tx1, .slice ab1 nb1 cb1, .int .u64 rf1, .slice al1 nl1 cl1, .slice af1 nf1 cf1, .string cc1, .int .i64 vr1] 124)).heap.size (wr.alloc (.cells #[.string n, .int .i64 k1, .bool b1, .int .i64 i1, .float .f64 f1, .string tx1, .slice ab1 nb1 cb1, .int .u64 rf1, .slice al1 nl1 cl1, .slice af1 nf1 cf1, .string cc1, .int .i64 vr1] 124)) w2) := below_to HB1.out hb2; obtain ⟨⟨⟨u0, hu0⟩, hf0⟩, ⟨u1, hu1⟩, hf1⟩ := HS.out w2 (HX.out _ HB2.out).2)))
        have HNw := HNew.out w2 _ (HX.out _ HB2.out).2 HV.out
        go_wp2_with fail
        go_roundw
        case rel => exact ⟨k + 1, l, _, by go_num, HL.out, htN.2, by simp [hxs]; omega, HNw.1, HNw.2, HN.out.1, HN.out.2.1, HN.out.2.2⟩
        case measure => simp [intOf]; omega

section
variable (b : Bool) (i : Int) (f : Nat) (tx : ByteArray) (vb : Value) (rf : Int) (vl vf : Value) (c : ByteArray) (vr : Int) (w : World)
set_option maxRecDepth 100000 in
set_option maxHeartbeats 400000 in
theorem vof_1 : Calls Tryz.prog 127 #[.agg (tcells 1 b i f tx vb rf vl vf c vr)] w fun e w' => e = .returned .nilIface ∧ Below w.heap.size w w' := by
  unfold tcells
  go_enter Tryz.func127, Tryz.ntmps127
  go_wp2_with fail
  go_ret
  exact ⟨rfl, (Below.refl _ _).alloc (Nat.le_refl _) _⟩
set_option maxRecDepth 100000 in
set_option maxHeartbeats 400000 in
theorem vof_2 : Calls Tryz.prog 127 #[.agg (tcells 2 b i f tx vb rf vl vf c vr)] w fun e w' => e = .returned (.iface 4 (.bool b)) ∧ Below w.heap.size w w' := by
  unfold tcells
  go_enter Tryz.func127, Tryz.ntmps127
  go_wp2_with fail
  go_ret
  exact ⟨rfl, (Below.refl _ _).alloc (Nat.le_refl _) _⟩
set_option maxRecDepth 100000 in
set_option maxHeartbeats 400000 in
theorem vof_3 : Calls Tryz.prog 127 #[.agg (tcells 3 b i f tx vb rf vl vf c vr)] w fun e w' => e = .returned (.iface 2 (.int .i64 i)) ∧ Below w.heap.size w w' := by
  unfold tcells
  go_enter Tryz.func127, Tryz.ntmps127
  go_wp2_with fail
  go_ret
  exact ⟨rfl, (Below.refl _ _).alloc (Nat.le_refl _) _⟩
set_option maxRecDepth 100000 in
set_option maxHeartbeats 400000 in
theorem vof_4 : Calls Tryz.prog 127 #[.agg (tcells 4 b i f tx vb rf vl vf c vr)] w fun e w' => e = .returned (.iface 22 (.float .f64 f)) ∧ Below w.heap.size w w' := by
  unfold tcells
  go_enter Tryz.func127, Tryz.ntmps127
  go_wp2_with fail
  go_ret
  exact ⟨rfl, (Below.refl _ _).alloc (Nat.le_refl _) _⟩
set_option maxRecDepth 100000 in
set_option maxHeartbeats 400000 in
theorem vof_7 : Calls Tryz.prog 127 #[.agg (tcells 7 b i f tx vb rf vl vf c vr)] w fun e w' => e = .returned (.iface 25 (.int .u64 rf)) ∧ Below w.heap.size w w' := by
  unfold tcells
  go_enter Tryz.func127, Tryz.ntmps127
  go_wp2_with fail
  go_ret
  exact ⟨rfl, (Below.refl _ _).alloc (Nat.le_refl _) _⟩
set_option maxRecDepth 100000 in
set_option maxHeartbeats 400000 in
theorem vof_5 (hs : tx.size ≤ 140737488355328) : Calls Tryz.prog 127 #[.agg (tcells 5 b i f tx vb rf vl vf c vr)] w fun e w' => e = .returned (.iface 9 (.string tx)) ∧ Below w.heap.size w w' := by
  unfold tcells
  go_enter Tryz.func127, Tryz.ntmps127
  go_wp2_with (go_at_call 59; refine (sClone_any tx _ hs).mono ?_; rintro e w1 ⟨rfl, hb1⟩)
  go_ret
  exact ⟨rfl, below_to ((Below.refl _ _).alloc (Nat.le_refl _) _) hb1⟩
set_option maxRecDepth 100000 in
set_option maxHeartbeats 400000 in
theorem vof_6 (ab : Option Addr) (L : ByteArray) (cb : Nat) (B : Nat → Prop) (hB : Sub B w) (hl : BytesAt w B ab L) (hs : L.size ≤ 140737488355328) : Calls Tryz.prog 127 #[.agg (tcells 6 b i f tx (.slice ab L.size cb) rf vl vf c vr)] w fun e w' => ∃ a cap, e = .returned (.iface 23 (.slice a L.size cap)) ∧ Below w.heap.size w w' ∧ BytesLV w' (Fr w w') a L cap := by
  unfold tcells
  have HC : Hid (∀ W, Below w.heap.size w W → Calls Tryz.prog 99 #[.slice ab L.size cb] W fun e w' => ∃ a cap, e = .returned (.slice a L.size cap) ∧ Below W.heap.size W w' ∧ BytesLV w' (Fr W w') a L cap) := fun W hW => bClone_any L ab cb B W (hB.later hW) (hl.same (hB.same hW) (fun _ h => h)) hs
  clear hl
  go_enter Tryz.func127, Tryz.ntmps127
  go_wp2_with (go_at_call 99; refine (HC.out _ ((Below.refl _ _).alloc (Nat.le_refl _) _)).mono ?_; rintro e w1 ⟨a, cap, rfl, hb1, hl1⟩)
  go_ret
  exact ⟨_, _, rfl, below_to ((Below.refl _ _).alloc (Nat.le_refl _) _) hb1, hl1.same (Same.refl _ _) (fun k hk => ⟨by have := hk.1; simp at this; omega, hk.2⟩)⟩
set_option maxRecDepth 100000 in
set_option maxHeartbeats 400000 in
theorem vof_9 (L : TmF) (h : ∀ W, Below w.heap.size w W → Calls Tryz.prog 136 #[vf] W fun e w' => ∃ a cap, e = .returned (.slice a L.len cap) ∧ Below W.heap.size W w' ∧ L.LV w' (Fr W w') a cap) :
    Calls Tryz.prog 127 #[.agg (tcells 9 b i f tx vb rf vl vf c vr)] w fun e w' => ∃ a cap, e = .returned (.iface 73 (.slice a L.len cap)) ∧ Below w.heap.size w w' ∧ L.LV w' (Fr w w') a cap := by
  unfold tcells
  have HC : Hid _ := h
  clear h
  go_enter Tryz.func127, Tryz.ntmps127
  go_wp2_with (go_at_call 136; refine (HC.out _ ((Below.refl _ _).alloc (Nat.le_refl _) _)).mono ?_; rintro e w1 ⟨a, cap, rfl, hb1, hl1⟩)
  go_ret
  exact ⟨_, _, rfl, below_to ((Below.refl _ _).alloc (Nat.le_refl _) _) hb1, L.LV_same (Same.refl _ _) (fun k hk => ⟨by have := hk.1; simp at this; omega, hk.2⟩) _ _ hl1⟩
end
end Go.Proofs.YtjdjpbdfchhcfaaGreat

/- value.valueOf at any term that can be. -/
namespace Go.Proofs.YtjdjpbdfchhcfaaGreat
open Go.RowKit

set_option maxRecDepth 100000 in
set_option maxHeartbeats 1000000 in
theorem vof_10 (b : Bool) (i : Int) (f : Nat) (tx : ByteArray) (vb : Value) (rf : Int) (vl vf : Value) (c : ByteArray) (vr : Int) (w : World) (L : TmF) (hcs : c.size ≤ 140737488355328) (h : ∀ W, Below w.heap.size w W → Calls Tryz.prog 136 #[vf] W fun e w' => ∃ a cap, e = .returned (.slice a L.len cap) ∧ Below W.heap.size W w' ∧ L.LV w' (Fr W w') a cap) :
    Calls Tryz.prog 127 #[.agg (tcells 10 b i f tx vb rf vl vf c vr)] w fun e w' => ∃ g a cap, e = .returned (.iface 75 (.pointer (some ⟨g, 0, none⟩))) ∧ Below w.heap.size w w' ∧ Fr w w' g ∧ w'.cell? ⟨g, 0, none⟩ = some (.string c) ∧ w'.cell? ⟨g, 1, none⟩ = some (.int .i64 vr) ∧ w'.cell? ⟨g, 2, none⟩ = some (.slice a L.len cap) ∧ L.RV w' (Fr w w') g a cap := by
  unfold tcells
  have HD : Hid _ := h
  clear h
  have HS : Hid (∀ W, Below (w.alloc (.cells #[.int .i64 10, .bool b, .int .i64 i, .float .f64 f, .string tx, vb, .int .u64 rf, vl, vf, .string c, .int .i64 vr] 29)).heap.size (w.alloc (.cells #[.int .i64 10, .bool b, .int .i64 i, .float .f64 f, .string tx, vb, .int .u64 rf, vl, vf, .string c, .int .i64 vr] 29)) W → (W.cell? ⟨w.heap.size, 8, none⟩ = some vf ∧ W.cell? ⟨w.heap.size, 9, none⟩ = some (.string c) ∧ W.cell? ⟨w.heap.size, 10, none⟩ = some (.int .i64 vr)) ∧ Below w.heap.size w W ∧ w.heap.size + 1 ≤ W.heap.size) := fun W hW => by
    have hh : ∀ j, W.cell? ⟨w.heap.size, j, none⟩ = _ := fun j => hW.cell (p := ⟨w.heap.size, j, none⟩) (by simp)
    refine ⟨⟨by rw [hh]; simp, by rw [hh]; simp, by rw [hh]; simp⟩, below_to ((Below.refl _ _).alloc (Nat.le_refl _) _) hW, by have := hW.size; simpa using this⟩
  go_enter Tryz.func127, Tryz.ntmps127
  go_wp2_with fail
  go_region_held3 (fun W => W.cell? ⟨w.heap.size, 8, none⟩ = some vf ∧ W.cell? ⟨w.heap.size, 9, none⟩ = some (.string c) ∧ W.cell? ⟨w.heap.size, 10, none⟩ = some (.int .i64 vr))
    (first | exact (HS.out _ (Below.refl _ _)).1 | exact (HS.out _ (Below.refl _ _).drew).1 | exact (HS.out _ HB1.out).1 | exact (HS.out _ HB2.out).1 | exact (HS.out _ (HB2.out.alloc HB2.out.size _)).1)
    ((first
      | (go_at_call 59; refine (sClone_any c _ hcs).mono ?_; rintro e w1 ⟨rfl, hb1⟩; have HB1 : Hid (Below (w.alloc (.cells #[.int .i64 10, .bool b, .int .i64 i, .float .f64 f, .string tx, vb, .int .u64 rf, vl, vf, .string c, .int .i64 vr] 29)).heap.size (w.alloc (.cells #[.int .i64 10, .bool b, .int .i64 i, .float .f64 f, .string tx, vb, .int .u64 rf, vl, vf, .string c, .int .i64 vr] 29)) w1) := below_to (Below.refl _ _).drew hb1; clear hb1)
      | (go_at_call 136; refine (HD.out _ ?_).mono ?_; exact (HS.out _ HB1.out).2.1; rintro e w2 ⟨a, cap, rfl, hb2, hv⟩; have HB2 : Hid (Below (w.alloc (.cells #[.int .i64 10, .bool b, .int .i64 i, .float .f64 f, .string tx, vb, .int .u64 rf, vl, vf, .string c, .int .i64 vr] 29)).heap.size (w.alloc (.cells #[.int .i64 10, .bool b, .int .i64 i, .float .f64 f, .string tx, vb, .int .u64 rf, vl, vf, .string c, .int .i64 vr] 29)) w2) := below_to HB1.out hb2; have HV : Hid (L.LV w2 (Fr w w2) a cap) := L.LV_same (Same.refl _ _) (fun k hk => ⟨Nat.le_trans (HS.out _ HB1.out).2.1.size hk.1, hk.2⟩) a cap hv; clear hb2 hv)))
  go_wp2_with fail
  go_ret
  have hz := (HS.out _ HB2.out).2.2
  refine ⟨w2.heap.size, a, cap, rfl, (HS.out _ HB2.out).2.1.alloc (by omega) _, ⟨by omega, by simp⟩, by simp, by simp, by simp, ⟨_, heap_alloc_new _ _⟩, L.LV_same (B' := Fr w (w2.alloc _)) (fun k hk => Below.heap_alloc _ _ _ hk.2) (fun k hk => ⟨hk.1, by have := hk.2; simp; omega⟩) a cap HV.out⟩

set_option maxHeartbeats 1000000 in
theorem valueOf_any (N : Nat) : VOfC N := by
  induction N with
  | zero => intro t ht; cases t; simp [Tm.sz] at ht
  | succ N ih =>
    intro t hN cs B w h hB ho
    cases t with
    | mk k b i f tx by' rf l fs c vr =>
      have hlN : l.sz ≤ N ∧ fs.sz ≤ N := by simp [Tm.sz] at hN; omega
      obtain ⟨p1, p2, p3, p4⟩ := ho.parts
      obtain ⟨q1, q2, q3, q4, q5⟩ := ho.bounds
      simp only [Tm.In] at h
      obtain ⟨ab, cb, al, cl, af, cf, rfl, hbd, hby, hl, hfs⟩ := h
      have htx : tx.size ≤ maxLen := by unfold maxLen; have := hbd.tx; omega
      have hcl : c.size ≤ maxLen := by unfold maxLen; have := hbd.c; omega
      have HF : ∀ (hk : k = 9 ∨ k = 10), ∀ W, Below w.heap.size w W → Calls Tryz.prog 136 #[.slice af fs.len cf] W fun e w' => ∃ a cap, e = .returned (.slice a fs.len cap) ∧ Below W.heap.size W w' ∧ fs.LV w' (Fr W w') a cap := fun hk W hW =>
        dictOf_any N ih af fs cf W hlN.2 B (hB.later hW) (fs.In_same (hB.same hW) (fun _ h => h) af 0 hfs) (TmF.nm (q4 hk)).1 (TmF.nm (q4 hk)).2 (p4 hk)
      by_cases k1 : k = 1
      · subst k1; refine (vof_1 b i f tx _ rf _ _ c vr w).mono ?_
        rintro e w' ⟨rfl, hb⟩; exact ⟨_, rfl, hb, by simp [Tm.V]⟩
      by_cases k2 : k = 2
      · subst k2; refine (vof_2 b i f tx _ rf _ _ c vr w).mono ?_
        rintro e w' ⟨rfl, hb⟩; exact ⟨_, rfl, hb, by simp [Tm.V]⟩
      by_cases k3 : k = 3
      · subst k3; refine (vof_3 b i f tx _ rf _ _ c vr w).mono ?_
        rintro e w' ⟨rfl, hb⟩; exact ⟨_, rfl, hb, by simp [Tm.V]⟩
      by_cases k4 : k = 4
      · subst k4; refine (vof_4 b i f tx _ rf _ _ c vr w).mono ?_
        rintro e w' ⟨rfl, hb⟩; exact ⟨_, rfl, hb, by simp [Tm.V, hbd.f1]⟩
      by_cases k5 : k = 5
      · subst k5; refine (vof_5 b i f tx _ rf _ _ c vr w hbd.tx).mono ?_
        rintro e w' ⟨rfl, hb⟩; exact ⟨_, rfl, hb, by simp [Tm.V, htx]⟩
      by_cases k6 : k = 6
      · subst k6; refine (vof_6 b i f tx rf _ _ c vr w ab by' cb B hB hby hbd.nb).mono ?_
        rintro e w' ⟨a, cap, rfl, hb, hv⟩; exact ⟨_, rfl, hb, Tm.V_of6 hv⟩
      by_cases k7 : k = 7
      · subst k7; refine (vof_7 b i f tx _ rf _ _ c vr w).mono ?_
        rintro e w' ⟨rfl, hb⟩; exact ⟨_, rfl, hb, by simp [Tm.V]⟩
      by_cases k8 : k = 8
      · subst k8; refine (vof_8 N ih b i f tx _ rf al l cl _ c vr w hlN.1 B hB hl (q3 rfl) (p3 rfl)).mono ?_
        rintro e w' ⟨a, cap, rfl, hb, hv⟩; exact ⟨_, rfl, hb, Tm.V_of8 hv⟩
      by_cases k9 : k = 9
      · subst k9; refine (vof_9 b i f tx _ rf _ _ c vr w fs (HF (.inl rfl))).mono ?_
        rintro e w' ⟨a, cap, rfl, hb, hv⟩; exact ⟨_, rfl, hb, Tm.V_of9 hv⟩
      have k10 : k = 10 := by omega
      subst k10; refine (vof_10 b i f tx _ rf _ _ c vr w fs hbd.c (HF (.inr rfl))).mono ?_
      rintro e w' ⟨g, a, cap, rfl, hb, hg, c0, c1, c2, hv⟩
      exact ⟨_, rfl, hb, Tm.V_of10 hg c0 c1 c2 hcl hv⟩
end Go.Proofs.YtjdjpbdfchhcfaaGreat

/- value.copyOf at a list. -/
namespace Go.Proofs.YtjdjpbdfchhcfaaGreat
open Go.RowKit

def CopC (N : Nat) : Prop := ∀ (t : Tm), t.sz ≤ N → ∀ (v : Value) (B : Nat → Prop) (w : World), t.V w B v → Sub B w → t.Ok →
  Calls Tryz.prog 69 #[v] w fun e w' => ∃ v', e = .returned v' ∧ Below w.heap.size w w' ∧ t.V w' (Fr w w') v'
theorem CopC.at {N : Nat} (HC : CopC N) {t : Tm} (hN : t.sz ≤ N) {v : Value} {B : Nat → Prop} {w : World} (h : t.V w B v) (hB : Sub B w) (ho : t.Ok) :
    ∀ W, Below w.heap.size w W → Calls Tryz.prog 69 #[v] W fun e w' => ∃ v', e = .returned v' ∧ Below W.heap.size W w' ∧ t.V w' (Fr W w') v' ∧ (v' = .nilIface ∨ ∃ T x, v' = .iface T x) := by
  intro W hW
  refine (HC t hN v B W (t.V_same (hB.same hW) (fun _ h => h) v h) (hB.later hW) ho).mono ?_
  rintro e w' ⟨v', rfl, hb, hv⟩
  exact ⟨v', rfl, hb, hv, t.V_shape v' hv⟩

set_option maxRecDepth 100000 in
set_option maxHeartbeats 2000000 in
theorem cof_8 (N : Nat) (HC : CopC N) (al : Option Addr) (L : TmL) (cl : Nat) (w : World) (hN : L.sz ≤ N) (B : Nat → Prop) (hB : Sub B w) (hL : L.V w B al 0) (hlen : L.len ≤ 4096) (ho : L.Ok) :
    Calls Tryz.prog 69 #[.iface 71 (.slice al L.len cl)] w fun e w' => ∃ a cap, e = .returned (.iface 71 (.slice a L.len cap)) ∧ Below w.heap.size w w' ∧ L.LV w' (Fr w w') a cap := by
  obtain ⟨i0, hi, hz0, hz1, hz2⟩ := info_parts Tryz.infoI
  have HCH : Hid (CopC N) := HC
  clear HC
  obtain ⟨M, hM⟩ : ∃ M, M = madeCells (Value.nilIface).cells (((L.len : Nat) : Int).toNat * i0.size) := ⟨_, rfl⟩
  have hMs : M.size = L.len := by rw [hM, size_madeCells, hz1]; simp
  have hmake : ∀ W : World, (Instr.makeSlice 71 (.int .i64 (L.len : Int)) (.int .i64 (L.len : Int))).run Tryz.prog W = .ok (.slice (some ⟨W.heap.size, 0, none⟩) L.len L.len) (W.alloc (.cells M 20)) := fun W => by
    have h := run_make (P := Tryz.prog) W 71 20 i0 .nilIface Tryz.undL hi hz0 .i64 .i64 (L.len : Int) (L.len : Int) (by omega) (by omega) (by rw [hz2]; omega) (by omega)
    rw [← hM] at h; simpa using h
  clear hM hi hz0 hz1 hz2
  have H0 : Hid (RW 20 w (w.alloc (.cells M 20)) w.heap.size L.len [] ∧ VPre (w.alloc (.cells M 20)) (Own w.heap.size (w.alloc (.cells M 20)) w.heap.size) L [] L ∧ L.V w B al 0 ∧ L.Ok) := by
    have h := RW.made (w := w) (w0 := w) (Below.refl _ _) M 20
    rw [hMs] at h
    exact ⟨h, (VPre_nil _ _).2 rfl, hL, ho⟩
  clear hL ho
  go_enter Tryz.func69, Tryz.ntmps69
  go_wp2_with fail
  go_loopw [32] (fun x wr => ∃ (k : Nat) (l : TmL) (xs : List Value), x = .int .i64 k ∧ l.len + k = L.len ∧ l.sz ≤ N ∧ xs.length = k ∧ Hid (RW 20 w wr (w.heap.size) L.len xs ∧ VPre wr (Own w.heap.size wr (w.heap.size)) L xs l ∧ l.V w B al k ∧ l.Ok)) (fun x _ => L.len - (intOf x).toNat)
  case atStart => exact ⟨0, L, [], rfl, rfl, hN, rfl, H0.out⟩
  case round =>
    obtain ⟨k, l, xs, rfl, hl, hlN, hxs, HR⟩ := hrel
    cases l with
    | nil =>
      have h1 : L.len ≤ k := by simp [TmL.len] at hl; omega
      clear hl
      go_wp2_with fail
      go_ret
      exact ⟨_, _, rfl, HR.out.1.bel, HR.out.2.1.fin HR.out.1 (by unfold maxLen; omega)⟩
    | cons t l =>
      obtain ⟨hrw, hpre, hsrc, hok⟩ := HR.out
      simp only [TmL.V] at hsrc
      obtain ⟨g1, o1, v1, rfl, hg1, hc, ht, hl'⟩ := hsrc
      have hk1 : k < L.len := by simp only [TmL.len] at hl; omega
      have HL : Hid (l.len + (k + 1) = L.len) := by show _ = _; simp only [TmL.len] at hl; omega
      have htN : t.sz ≤ N ∧ l.sz ≤ N := by simp [TmL.sz] at hlN; omega
      have hs : Same B w wr := hB.same hrw.bel
      have HO := HCH.out.at htN.1 (t.V_same hs (fun _ h => h) v1 ht) (hB.later hrw.bel) hok.head.1
      have HO : Hid _ := HO
      have e0 : wr.cell? ⟨g1, o1 + k, none⟩ = some v1 := by rw [hs.cell (p := ⟨g1, o1 + k, none⟩) hg1]; exact hc
      have HN : Hid (l.V w B (some ⟨g1, o1, none⟩) (k + 1) ∧ l.Ok) := ⟨hl', hok.head.2⟩
      clear hl hlN hc ht hl' hok hs hrw hpre
      have HS : Hid (∀ w1, Below wr.heap.size wr w1 → (∃ u, w1.cell? ⟨w.heap.size, k, none⟩ = some u) ∧ w1.frozen? ⟨w.heap.size, k, none⟩ = false) := fun w1 h => (HR.out.1.call h).own k hk1
      have hi0 : (0 : Int) ≤ (k : Int) := Int.natCast_nonneg _
      have hi1 : (k : Int) < (L.len : Int) := by omega
      go_wp2_with fail
      refine (HO.out _ (Below.refl _ _)).mono ?_
      rintro e w1 ⟨v, rfl, hb1, hv, hsh⟩
      have hb1' : Below wr.heap.size wr w1 := hb1
      obtain ⟨⟨u, hu⟩, hf⟩ := HS.out w1 hb1'
      have HV : Hid (t.V w1 (Fr wr w1) v) := hv
      have HB1 : Hid (Below wr.heap.size wr w1) := hb1'
      have HNew : Hid (RW 20 w (w1.setCell ⟨w.heap.size, k, none⟩ v) (w.heap.size) L.len (xs ++ [v]) ∧ VPre (w1.setCell ⟨w.heap.size, k, none⟩ v) (Own w.heap.size (w1.setCell ⟨w.heap.size, k, none⟩ v) (w.heap.size)) L (xs ++ [v]) l) := by
        have h1 := (HR.out.1.call HB1.out).set [v] (by simp; omega)
        rw [hxs] at h1
        exact ⟨h1, VPre.step (o := k) HR.out.2.1 HB1.out HV.out HR.out.1.lt [v]⟩
      clear hb1 hb1' hv
      rcases hsh with rfl | ⟨T, x, rfl⟩
      all_goals
        go_wp2_with fail
        go_roundw
        case rel => exact ⟨k + 1, l, _, by go_num, HL.out, htN.2, by simp [hxs], HNew.out.1, HNew.out.2, HN.out.1, HN.out.2⟩
        case measure => simp [intOf]; omega
end Go.Proofs.YtjdjpbdfchhcfaaGreat

