/- A row that is being filled while the reader's block turns; making lists. -/
import Derived.Test.YtmmiiapfefmcjaaJ16
import Derived.Test.YtmmiiapfefmcjaaJ14
namespace Go.Proofs.Ytmmiiapfefmcjaa
open Go.RowKit

theorem Rdr.same {w w' : World} {b : Nat} {a : Option Addr} {xs : List Int} {cap at' p : Nat} (h : Rdr w b a xs cap at' p) (hs : Same (Lo (b + 1)) w w') : Rdr w' b a xs cap at' p := by
  have hb : w'.heap[b]? = w.heap[b]? := hs b (Nat.lt_succ_self b)
  have hf : ∀ i, w'.frozen? ⟨b, i, none⟩ = w.frozen? ⟨b, i, none⟩ := fun i => World.frozen?_of_block (w := w) hb
  have hc : ∀ i, w'.cell? ⟨b, i, none⟩ = w.cell? ⟨b, i, none⟩ := fun i => World.cell?_of_block (w := w) (a := ⟨b, i, none⟩) hb
  exact ⟨by rw [hc]; exact h.c0, by rw [hc]; exact h.c1, by rw [hc]; exact h.c2, by rw [hf]; exact h.f1, by rw [hf]; exact h.f2, h.rd.same (fun k hk => hs k (Nat.lt_succ_of_lt hk)) (fun _ h => h), h.cp, h.ln, h.le, h.np⟩
theorem Rdr.setN {w : World} {b : Nat} {a : Option Addr} {xs : List Int} {cap at' p g o : Nat} (h : Rdr w b a xs cap at' p) (hg : b < g) (vs : List Value) : Rdr (setN w g o vs) b a xs cap at' p :=
  h.same (fun k hk => setN_other (by have : k < b + 1 := hk; omega) vs w o)
theorem But.alloc {b : Nat} {w w' : World} (h : But b w w') (o : Obj) : But b w (w'.alloc o) := h.call ((Below.refl _ _).alloc (Nat.le_refl _) _)
theorem But.setN {b g o : Nat} {w w' : World} (h : But b w w') (hg : w.heap.size ≤ g) (vs : List Value) : But b w (setN w' g o vs) := by
  have e : Below g w' (Go.Proofs.Ytmmiiapfefmcjaa.setN w' g o vs) := setN_below (Nat.le_refl _) vs w' w' o (Below.refl _ _)
  exact ⟨h.lt, e.os.trans h.os, e.tape.trans h.tape, e.output.trans h.output, Nat.le_trans h.size e.size, fun k hk hn => by rw [setN_other (by omega)]; exact h.block k hk hn⟩

/-- block g, new since w, has n cells that can be written; the first of them hold xs; but for the reader's block b nothing has turned -/
structure RWB (b : Nat) (e : TypeId) (w wr : World) (g n : Nat) (xs : List Value) : Prop where
  own : ∀ i, i < n → (∃ u, wr.cell? ⟨g, i, none⟩ = some u) ∧ wr.frozen? ⟨g, i, none⟩ = false
  got : ∀ i x, xs[i]? = some x → wr.cell? ⟨g, i, none⟩ = some x
  len : xs.length ≤ n
  lt : w.heap.size ≤ g ∧ g < wr.heap.size
  bel : But b w wr
  row : ∃ cur, wr.heap[g]? = some (.cells cur e (0, 0)) ∧ cur.size = n
theorem RWB.made {b : Nat} {w w0 : World} (h : But b w w0) (cs : Array Value) (e : TypeId) : RWB b e w (w0.alloc (.cells cs e)) w0.heap.size cs.size [] := by
  refine ⟨fun i hi => ?_, fun i x hx => by simp at hx, by simp, ⟨h.size, by simp⟩, h.alloc _, cs, heap_alloc_new w0 _, rfl⟩
  have hn := heap_alloc_new w0 (.cells cs e)
  refine ⟨⟨cs[i], ?_⟩, frozen_of_row _ _ i _ _ hn⟩
  rw [cell_of_row _ _ i _ _ _ hn]; simp [hi]
theorem RWB.call {b : Nat} {e : TypeId} {w wr w1 : World} {g n : Nat} {xs : List Value} (h : RWB b e w wr g n xs) (hb : But b wr w1) : RWB b e w w1 g n xs := by
  have hl := h.lt
  have hz := hb.size
  have hlt := h.bel.lt
  have hg : w1.heap[g]? = wr.heap[g]? := hb.block g hl.2 (by omega)
  have hc : ∀ i, w1.cell? ⟨g, i, none⟩ = wr.cell? ⟨g, i, none⟩ := fun i => World.cell?_of_block (w := wr) (a := ⟨g, i, none⟩) hg
  have hf : ∀ i, w1.frozen? ⟨g, i, none⟩ = wr.frozen? ⟨g, i, none⟩ := fun i => World.frozen?_of_block (w := wr) hg
  exact ⟨fun i hi => by rw [hc, hf]; exact h.own i hi, fun i x hx => by rw [hc]; exact h.got i x hx, h.len, ⟨hl.1, by omega⟩, h.bel.trans hb, by rw [hg]; exact h.row⟩
theorem RWB.set {b : Nat} {e : TypeId} {w wr : World} {g n : Nat} {xs : List Value} (h : RWB b e w wr g n xs) (vs : List Value) (hl : xs.length + vs.length ≤ n) : RWB b e w (Go.Proofs.Ytmmiiapfefmcjaa.setN wr g xs.length vs) g n (xs ++ vs) := by
  have hlt := h.lt
  refine ⟨fun i hi => ⟨?_, by rw [setN_frozen]; exact (h.own i hi).2⟩, fun i x hx => ?_, by simp; omega, ⟨hlt.1, by rw [setN_size]; exact hlt.2⟩, h.bel.setN hlt.1 vs, setN_row _ _ _ h.row⟩
  · by_cases hin : i < xs.length ∨ xs.length + vs.length ≤ i
    · rw [setN_out vs _ _ hin]; exact (h.own i hi).1
    · obtain ⟨k, rfl⟩ : ∃ k, i = xs.length + k := ⟨i - xs.length, by omega⟩
      have hk : k < vs.length := by omega
      exact ⟨vs[k], setN_in vs _ _ k _ (List.getElem?_eq_getElem hk) (h.own _ hi).1⟩
  · by_cases hin : i < xs.length
    · rw [List.getElem?_append_left hin] at hx
      rw [setN_out vs _ _ (.inl hin)]; exact h.got i x hx
    · obtain ⟨k, rfl⟩ : ∃ k, i = xs.length + k := ⟨i - xs.length, by omega⟩
      rw [List.getElem?_append_right (by omega), Nat.add_sub_cancel_left] at hx
      have hk : k < vs.length := (List.getElem?_eq_some_iff.1 hx).1
      exact setN_in vs _ _ k x hx (h.own _ (by omega)).1
/-- but for the blocks b and g nothing has turned -/
structure Bu2 (b g : Nat) (w w' : World) : Prop where
  size : w.heap.size ≤ w'.heap.size
  block : ∀ k, k < w.heap.size → k ≠ b → k ≠ g → w'.heap[k]? = w.heap[k]?
theorem Bu2.of {b g : Nat} {w w' : World} (h : But b w w') : Bu2 b g w w' := ⟨h.size, fun k hk hb _ => h.block k hk hb⟩
theorem Bu2.set {b g o : Nat} {w w' : World} (h : Bu2 b g w w') (vs : List Value) : Bu2 b g w (setN w' g o vs) := ⟨by rw [setN_size]; exact h.size, fun k hk hb hg => by rw [setN_other hg]; exact h.block k hk hb hg⟩
theorem Bu2.trans {b g : Nat} {w w1 w2 : World} (h : Bu2 b g w w1) (k : Bu2 b g w1 w2) : Bu2 b g w w2 := ⟨Nat.le_trans h.size k.size, fun i hi hb hg => (k.block i (Nat.lt_of_lt_of_le hi h.size) hb hg).trans (h.block i hi hb hg)⟩
theorem Bu2.kept {b g B : Nat} {w w' : World} (h : Bu2 b g w w') (hB : b < B) : Same (Own B w g) w w' := fun k hk => h.block k hk.2.1 (by have := hk.1; omega) hk.2.2
theorem Bu2.up {b g B : Nat} {w w' : World} (h : Bu2 b g w w') : ∀ k, Own B w g k → Own B w' g k := fun _ hk => ⟨hk.1, Nat.lt_of_lt_of_le hk.2.1 h.size, hk.2.2⟩
theorem VPre.finB {b : Nat} {w wr : World} {g : Nat} {L : TmL} {xs : List Value} (h : VPre wr (Own w.heap.size wr g) L xs .nil) (r : RWB b 20 w wr g L.len xs) (hm : L.len ≤ maxLen) : L.LV wr (Fr w wr) (some ⟨g, 0, none⟩) L.len :=
  ⟨Ln.row (by simpa using r.row) hm r.lt, VPre.done (fun k hk => ⟨hk.1, hk.2.1⟩) g r.lt L xs 0 h (fun i x hx => by rw [Nat.zero_add]; exact r.got i x hx)⟩
theorem FPre.finB {b : Nat} {w wr : World} {g : Nat} {L : TmF} {xs : List Value} (h : FPre wr (Own w.heap.size wr g) L xs .nil) (r : RWB b 109 w wr g (L.len * 2) xs) (hm : L.len ≤ maxLen) : L.LV wr (Fr w wr) (some ⟨g, 0, none⟩) L.len :=
  ⟨Ln.row r.row hm r.lt, FPre.done (fun k hk => ⟨hk.1, hk.2.1⟩) g r.lt L xs 0 h (fun i x hx => by rw [Nat.zero_mul, Nat.zero_add]; exact r.got i x hx)⟩

theorem rdL_len {step : Nat → Nat → Rs (Tm × Nat)} : ∀ (n at' p : Nat) (L : TmL) (p2 a2 : Nat), Sp.rdL step n at' p = .ok (L, p2) a2 → L.len = n
  | 0, at', p, L, p2, a2, h => by
    rw [Sp.rdL] at h
    injection h with e1 e2; injection e1 with e3 e4; subst e3; rfl
  | n + 1, at', p, L, p2, a2, h => by
    rw [Sp.rdL] at h
    split at h
    · simp at h
    · split at h
      · simp at h
      · rename_i _ _ _ _ _ _ _ _ hq
        injection h with e1 e2; injection e1 with e3 e4; subst e3
        rw [TmL.len, rdL_len n _ _ _ _ _ hq]
theorem rdL_cons {step : Nat → Nat → Rs (Tm × Nat)} {n at' p : Nat} {t : Tm} {l : TmL} {p2 a2 : Nat} (h : Sp.rdL step (n + 1) at' p = .ok (.cons t l, p2) a2) : ∃ p1 a1, step at' p = .ok (t, p1) a1 ∧ Sp.rdL step n a1 p1 = .ok (l, p2) a2 := by
  rw [Sp.rdL] at h
  cases hs : step at' p with
  | bad q e => rw [hs] at h; simp at h
  | ok tp a1 =>
    obtain ⟨t1, p1⟩ := tp
    rw [hs] at h
    simp only at h
    cases hq : Sp.rdL step n a1 p1 with
    | bad q e => rw [hq] at h; simp at h
    | ok lp a3 =>
      obtain ⟨l3, p3⟩ := lp
      rw [hq] at h
      injection h with e1 e2; injection e1 with e3 e4; injection e3 with e5 e6
      subst e2; subst e4; subst e5; subst e6
      exact ⟨p1, a1, rfl, hq⟩

/-- the contract of the reader's made, at bytes that were looked at -/
def MC (xs : List Int) (f : Nat) : Prop := ∀ (b : Nat) (a : Option Addr) (cap at' p p0 : Nat) (t : Tm) (p2 a2 : Nat) (w : World), Rdr w b a xs cap at' p → Sp.rdV xs f at' p0 = .ok (t, p2) a2 →
  Calls Try.prog 48 #[.pointer (some ⟨b, 0, none⟩)] w fun e w' => ∃ v, e = .returned v ∧ Rdr w' b a xs cap a2 p ∧ But b w w' ∧ t.V w' (Fr w w') v

set_option maxRecDepth 100000 in
set_option maxHeartbeats 2000000 in
theorem made_8 (b : Nat) (a : Option Addr) (xs : List Int) (cap at' p : Nat) (w : World) (h : Rdr w b a xs cap at' p) (hx : xs[at']? = some 8) (hby : By xs) (f : Nat) (HC : MC xs f) (n a1 p0 p2 a2 : Nat) (L : TmL) (hn : Sp.rn xs (at' + 1) 10 0 0 = .ok n a1) (hn4 : n ≤ 4096) (hr : Sp.rdL (Sp.rdV xs f) n a1 p0 = .ok (L, p2) a2) :
    Calls Try.prog 48 #[.pointer (some ⟨b, 0, none⟩)] w fun e w' => ∃ a' cap', e = .returned (.iface 70 (.slice a' L.len cap')) ∧ Rdr w' b a xs cap a2 p ∧ But b w w' ∧ L.LV w' (Fr w w') a' cap' := by
  obtain rfl := rdL_len n a1 p0 L p2 a2 hr
  obtain ⟨i0, hi, hz0, hz1, hz2⟩ := info_parts Try.infoI
  have HX : Hid (By xs ∧ Sp.rn xs (at' + 1) 10 0 0 = .ok L.len a1 ∧ MC xs f) := ⟨hby, hn, HC⟩
  have HRD : Hid (Sp.rdL (Sp.rdV xs f) L.len a1 p0 = .ok (L, p2) a2) := hr
  have HB : Hid (Calls Try.prog 84 #[.pointer (some ⟨b, 0, none⟩)] w fun e w' => e = .returned (.int .u8 8) ∧ Rdr w' b a xs cap (at' + 1) p ∧ But b w w') := rbyte_ok 8 b a xs cap at' p w h hx
  obtain ⟨M, hM⟩ : ∃ M, M = madeCells (Value.nilIface).cells (((L.len : Nat) : Int).toNat * i0.size) := ⟨_, rfl⟩
  have hMs : M.size = L.len := by rw [hM, size_madeCells, hz1]; simp
  have hmake : ∀ W : World, (Instr.makeSlice 70 (.int .u64 (L.len : Int)) (.int .u64 (L.len : Int))).run Try.prog W = .ok (.slice (some ⟨W.heap.size, 0, none⟩) L.len L.len) (W.alloc (.cells M 20)) := fun W => by
    have h := run_make (P := Try.prog) W 70 20 i0 .nilIface Try.undL hi hz0 .u64 .u64 (L.len : Int) (L.len : Int) (by omega) (by omega) (by rw [hz2]; omega) (by omega)
    rw [← hM] at h; simpa using h
  have HM : Hid (M.size = L.len) := hMs
  clear hM hi hz0 hz1 hz2 h hx hby hn hr HC hMs
  go_enter Try.func48, Try.ntmps48
  go_wp2_with fail
  refine HB.out.mono ?_
  rintro e w1 ⟨rfl, hr1, hb1⟩
  have HR1 : Hid (Rdr w1 b a xs cap (at' + 1) p ∧ But b w w1) := ⟨hr1, hb1⟩
  clear hr1 hb1 HB
  go_wp2_with fail
  refine (rnumber_ok L.len a1 b a xs cap (at' + 1) p w1 HR1.out.1 HX.out.1 HX.out.2.1).mono ?_
  rintro e w2 ⟨rfl, hr2, hb2⟩
  have H0 : Hid (RWB b 20 w (w2.alloc (.cells M 20)) w2.heap.size L.len [] ∧ VPre (w2.alloc (.cells M 20)) (Own w.heap.size (w2.alloc (.cells M 20)) w2.heap.size) L [] L ∧ Rdr (w2.alloc (.cells M 20)) b a xs cap a1 p) := by
    have hrw := RWB.made (HR1.out.2.trans hb2) M 20
    rw [HM.out] at hrw
    exact ⟨hrw, (VPre_nil _ _).2 rfl, hr2.call ((Below.refl _ _).alloc (Nat.le_refl _) _)⟩
  clear hr2 hb2 HR1
  go_wp2_with fail
  go_loopw [51] (fun x wr => ∃ (k aa pp : Nat) (l : TmL) (vs : List Value), x = .int .i64 k ∧ l.len + k = L.len ∧ vs.length = k ∧ Hid (RWB b 20 w wr w2.heap.size L.len vs ∧ VPre wr (Own w.heap.size wr w2.heap.size) L vs l ∧ Sp.rdL (Sp.rdV xs f) l.len aa pp = .ok (l, p2) a2 ∧ Rdr wr b a xs cap aa p)) (fun x _ => L.len - (intOf x).toNat)
  case atStart => exact ⟨0, a1, p0, L, [], rfl, rfl, rfl, H0.out.1, H0.out.2.1, HRD.out, H0.out.2.2⟩
  case round =>
    obtain ⟨k, aa, pp, l, vs, rfl, hl, hvs, HR⟩ := hrel
    clear HRD
    cases l with
    | nil =>
      have h1 : L.len ≤ k := by simp [TmL.len] at hl; omega
      obtain ⟨hrw, hpre, hrd, hrr⟩ := HR.out
      rw [TmL.len, Sp.rdL] at hrd
      injection hrd with e1 e2
      have HF : Hid (Rdr wr b a xs cap a2 p) := by rw [← e2]; exact hrr
      clear hl hrw hpre hrr e1 e2
      go_wp2_with fail
      go_ret
      exact ⟨_, _, rfl, HF.out, HR.out.1.bel, HR.out.2.1.finB HR.out.1 (by unfold maxLen; omega)⟩
    | cons t l =>
      obtain ⟨hrw, hpre, hrd, hrr⟩ := HR.out
      obtain ⟨p1, a3, hst, hrd'⟩ := rdL_cons hrd
      have hk1 : k < L.len := by simp only [TmL.len] at hl; omega
      have HL : Hid (l.len + (k + 1) = L.len) := by show _ = _; simp only [TmL.len] at hl; omega
      have HO : Hid (Calls Try.prog 48 #[.pointer (some ⟨b, 0, none⟩)] wr fun e w' => ∃ v, e = .returned v ∧ Rdr w' b a xs cap a3 p ∧ But b wr w' ∧ t.V w' (Fr wr w') v) := HX.out.2.2 b a cap aa p pp t p1 a3 wr hrr hst
      have HN : Hid (Sp.rdL (Sp.rdV xs f) l.len a3 p1 = .ok (l, p2) a2) := hrd'
      have HS : Hid (∀ w1, But b wr w1 → (∃ u, w1.cell? ⟨w2.heap.size, k, none⟩ = some u) ∧ w1.frozen? ⟨w2.heap.size, k, none⟩ = false) := fun w1 h => (hrw.call h).own k hk1
      have hi0 : (0 : Int) ≤ (k : Int) := Int.natCast_nonneg _
      have hi1 : (k : Int) < (L.len : Int) := by omega
      clear hl hrw hpre hrd hrr hst hrd'
      go_wp2_with fail
      refine HO.out.mono ?_
      rintro e w3 ⟨v, rfl, hr3, hb3, hv⟩
      have hsh := t.V_shape v hv
      obtain ⟨⟨u, hu⟩, hf⟩ := HS.out w3 hb3
      have HNew : Hid (RWB b 20 w (w3.setCell ⟨w2.heap.size, k, none⟩ v) w2.heap.size L.len (vs ++ [v]) ∧ VPre (w3.setCell ⟨w2.heap.size, k, none⟩ v) (Own w.heap.size (w3.setCell ⟨w2.heap.size, k, none⟩ v) w2.heap.size) L (vs ++ [v]) l ∧ Rdr (w3.setCell ⟨w2.heap.size, k, none⟩ v) b a xs cap a3 p) := by
        have hrw := HR.out.1
        have h1 := (hrw.call hb3).set [v] (by simp; omega)
        rw [hvs] at h1
        have hbu : Bu2 b w2.heap.size wr (setN w3 w2.heap.size k [v]) := (Bu2.of hb3).set [v]
        refine ⟨h1, VPre.snoc L vs t l v (VPre.same (hbu.kept hrw.bel.lt) hbu.up L vs _ HR.out.2.1) (t.V_same (fr_kept (w1 := w3) (o := k) hrw.lt.2 [v]) (fr_up (w1 := w3) (o := k) hrw.lt [v]) v hv), hr3.setN (by have := hrw.lt; have := hrw.bel.lt; omega) [v]⟩
      clear hb3 hv hr3
      rcases hsh with rfl | ⟨T, x, rfl⟩
      all_goals
        go_wp2_with fail
        go_roundw
        case rel => exact ⟨k + 1, a3, p1, l, _, by go_num, HL.out, by simp [hvs], HNew.out.1, HNew.out.2.1, HN.out, HNew.out.2.2⟩
        case measure => simp [intOf]; omega
end Go.Proofs.Ytmmiiapfefmcjaa

/- value.dictOf and value.valueOf, whole. -/
namespace Go.Proofs.Ytmmiiapfefmcjaa
open Go.RowKit

theorem Try.infoFd : (Try.prog.info? 109).map (fun i => (i.zero, i.size, i.bytes)) = some (some (.agg #[.string ByteArray.empty, .nilIface]), 2, 32) := by kernel_rfl

section
variable (b : Bool) (i : Int) (f : Nat) (tx : ByteArray) (vb : Value) (rf : Int) (vl vf : Value) (c : ByteArray) (vr : Int) (w : World)
end
end Go.Proofs.Ytmmiiapfefmcjaa

