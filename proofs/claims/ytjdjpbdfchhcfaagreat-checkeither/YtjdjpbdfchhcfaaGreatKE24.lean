/- check.shapedAll. -/
import Derived.Test.YtjdjpbdfchhcfaaGreatKE23
import Derived.Test.YtjdjpbdfchhcfaaGreatKE13
namespace Go.Proofs.YtjdjpbdfchhcfaaGreat
open Go.RowKit

def ShapedC (N : Nat) : Prop := ∀ (t : Ty), t.sz ≤ N → t.ok = true → t.cnt ≤ 16384 → t.dep ≤ 64 → ∀ (cs : Array Value) (g q : Nat) (B : Nat → Prop) (w : World), B g → (∀ x, x < 18 → w.cell? ⟨g, q + x, none⟩ = cs[x]?) → t.In w B cs → Sub B w →
  Calls Tryz.prog 88 #[.pointer (some ⟨g, q, none⟩)] w (ShapedE t B w)
def SPre (w : World) (S : Nat → Prop) : TyL → List Value → TyL → Prop
  | L, [], l => L = l
  | .cons t L, x :: xs, l => (∃ b, x = .pointer (some ⟨b, 0, none⟩) ∧ t.Sh w S b) ∧ SPre w S L xs l
  | .nil, _ :: _, _ => False
theorem SPre_nil {w : World} {S : Nat → Prop} (L l : TyL) : SPre w S L [] l ↔ L = l := by cases L <;> rfl
theorem SPre.same {w w' : World} {S S' : Nat → Prop} (hs : Same S w w') (hS : ∀ k, S k → S' k) : (L : TyL) → ∀ xs l, SPre w S L xs l → SPre w' S' L xs l
  | L, [], l, h => (SPre_nil L l).2 ((SPre_nil L l).1 h)
  | .nil, x :: xs, l, h => by simp [SPre] at h
  | .cons t L, x :: xs, l, h => by
    simp only [SPre] at h ⊢
    obtain ⟨⟨b, e, hb⟩, h2⟩ := h
    exact ⟨⟨b, e, t.Sh_same hs hS b hb⟩, SPre.same hs hS L xs l h2⟩
theorem SPre.snoc {w : World} {S : Nat → Prop} : (L : TyL) → ∀ xs t l b, SPre w S L xs (.cons t l) → t.Sh w S b → SPre w S L (xs ++ [.pointer (some ⟨b, 0, none⟩)]) l
  | L, [], t, l, b, h, hx => by
    obtain rfl := (SPre_nil _ _).1 h
    simp only [List.nil_append, SPre]
    exact ⟨⟨b, rfl, hx⟩, trivial⟩
  | .nil, y :: ys, t, l, x, h, hx => by simp [SPre] at h
  | .cons u L, y :: ys, t, l, x, h, hx => by
    simp only [List.cons_append, SPre] at h ⊢
    exact ⟨h.1, SPre.snoc L ys t l x h.2 hx⟩
theorem SPre.done {w : World} {S S' : Nat → Prop} (hS : ∀ k, S k → S' k) (g : Nat) (hg : S' g) : (L : TyL) → ∀ (xs : List Value) (j : Nat), SPre w S L xs .nil → (∀ i x, xs[i]? = some x → w.cell? ⟨g, j + i, none⟩ = some x) → L.Sh w S' (some ⟨g, 0, none⟩) j
  | .nil, _, _, _, _ => by simp [TyL.Sh]
  | .cons t L, [], j, h, _ => by simp [SPre] at h
  | .cons t L, x :: xs, j, h, hc => by
    simp only [SPre, TyL.Sh] at h ⊢
    obtain ⟨⟨b, rfl, hb⟩, h2⟩ := h
    refine ⟨g, 0, b, rfl, hg, by simpa using hc 0 _ rfl, t.Sh_same (Same.refl _ _) hS b hb, SPre.done hS g hg L xs (j + 1) h2 ?_⟩
    intro i y hi
    have := hc (i + 1) y (by simpa using hi)
    rw [show j + 1 + i = j + (i + 1) by omega]; exact this
def BG (B : Nat → Prop) (b : Nat) (wr : World) (g : Nat) : Nat → Prop := fun k => B k ∨ Own b wr g k
theorem SPre.step {B : Nat → Prop} {w wr w1 : World} {g o : Nat} {L : TyL} {xs : List Value} {t : Ty} {l : TyL} {b : Nat} (hB : Sub B w) (h : SPre wr (BG B w.heap.size wr g) L xs (.cons t l)) (hb : Below wr.heap.size wr w1) (hx : t.Sh w1 (BF B wr w1) b) (hg : w.heap.size ≤ g ∧ g < wr.heap.size) (v : Value) :
    SPre (w1.setCell ⟨g, o, none⟩ v) (BG B w.heap.size (w1.setCell ⟨g, o, none⟩ v) g) L (xs ++ [.pointer (some ⟨b, 0, none⟩)]) l := by
  have hsz : (w1.setCell ⟨g, o, none⟩ v).heap.size = w1.heap.size := by simp [World.setCell]
  have hz := hb.size
  have hBk : ∀ k, B k → k ≠ g := fun k hk => by have := hB k hk; omega
  refine SPre.snoc L xs t l b (SPre.same ?_ ?_ L xs _ h) (t.Sh_same ?_ ?_ b hx)
  · intro k hk
    rcases hk with hk | hk
    · rw [Below.heap_setCell _ _ _ _ (hBk k hk)]; exact hb.block k (by have := hB k hk; omega)
    · rw [Below.heap_setCell _ _ _ _ hk.2.2]; exact hb.block k hk.2.1
  · intro k hk
    rcases hk with hk | hk
    · exact .inl hk
    · exact .inr ⟨hk.1, by rw [hsz]; have := hk.2.1; omega, hk.2.2⟩
  · intro k hk
    rcases hk with hk | hk
    · rw [Below.heap_setCell _ _ _ _ (hBk k hk)]
    · rw [Below.heap_setCell _ _ _ _ (by have := hk.1; show k ≠ g; omega)]
  · intro k hk
    rcases hk with hk | hk
    · exact .inl hk
    · exact .inr ⟨by have := hk.1; omega, by rw [hsz]; exact hk.2, by have := hk.1; omega⟩
theorem TyL.len_cnt : (l : TyL) → (l.len : Int) ≤ l.cnt
  | .nil => by simp [TyL.len, TyL.cnt]
  | .cons t l => by
    have := TyL.len_cnt l; have := (Ty.cnt_pos t).1
    simp only [TyL.len, TyL.cnt]; omega
theorem Tryz.infoSh : (Tryz.prog.info? 60).map (fun i => (i.zero, i.size, i.bytes)) = some (some (.pointer none), 1, 8) := by kernel_rfl
theorem Tryz.undSh : Tryz.prog.underlying 100 = some (.slice 60) := by kernel_rfl

set_option maxRecDepth 100000 in
set_option maxHeartbeats 4000000 in
theorem shapedAll_any (N : Nat) (HC : ShapedC N) (L : TyL) (hN : L.sz ≤ N) (hok : L.ok = true) (hcn : L.cnt ≤ 16384) (hde : L.dep ≤ 64) (ap : Option Addr) (cp : Nat) (B : Nat → Prop) (w : World) (hp : L.In w B ap 0) (hB : Sub B w) :
    Calls Tryz.prog 111 #[.slice ap L.len cp] w fun e w' => ∃ a cap, e = .returned (.slice a L.len cap) ∧ Below w.heap.size w w' ∧ L.Sh w' (BF B w w') a 0 := by
  have hll := TyL.len_cnt L
  have hlen : L.len ≤ 16384 := by omega
  obtain ⟨i0, hi, hz0, hz1, hz2⟩ := info_parts Tryz.infoSh
  obtain ⟨M, hM⟩ : ∃ M, M = madeCells (Value.pointer none).cells (((L.len : Nat) : Int).toNat * i0.size) := ⟨_, rfl⟩
  have hMs : M.size = L.len := by rw [hM, size_madeCells, hz1]; simp
  have hmake : ∀ W : World, (Instr.makeSlice 100 (.int .i64 (L.len : Int)) (.int .i64 (L.len : Int))).run Tryz.prog W = .ok (.slice (some ⟨W.heap.size, 0, none⟩) L.len L.len) (W.alloc (.cells M 60)) := fun W => by
    have h := run_make (P := Tryz.prog) W 100 60 i0 (.pointer none) Tryz.undSh hi hz0 .i64 .i64 (L.len : Int) (L.len : Int) (by omega) (by omega) (by rw [hz2]; omega) (by omega)
    rw [← hM] at h; simpa using h
  clear hM hi hz0 hz1 hz2
  have HCH : Hid (ShapedC N) := HC
  have HB : Hid (Sub B w) := hB
  have H0 : Hid (RW 60 w (w.alloc (.cells M 60)) w.heap.size L.len [] ∧ SPre (w.alloc (.cells M 60)) (BG B w.heap.size (w.alloc (.cells M 60)) w.heap.size) L [] L ∧ L.In w B ap 0) := by
    have h := RW.made (w := w) (w0 := w) (Below.refl _ _) M 60
    rw [hMs] at h
    exact ⟨h, (SPre_nil _ _).2 rfl, hp⟩
  clear hp HC hB hll
  go_enter Tryz.func111, Tryz.ntmps111
  go_wp2_with fail
  go_loopw [10] (fun x wr => ∃ (k : Nat) (l : TyL) (xs : List Value), x = .int .i64 k ∧ l.len + k = L.len ∧ l.sz ≤ N ∧ l.ok = true ∧ l.cnt ≤ 16384 ∧ l.dep ≤ 64 ∧ xs.length = k ∧ Hid (RW 60 w wr w.heap.size L.len xs ∧ SPre wr (BG B w.heap.size wr w.heap.size) L xs l ∧ l.In w B ap k)) (fun x _ => L.len - (intOf x).toNat)
  case atStart => exact ⟨0, L, [], rfl, rfl, hN, hok, hcn, hde, rfl, H0.out⟩
  case round =>
    obtain ⟨k, l, xs, rfl, hl, hlN, hlo, hlc, hld, hxs, HR⟩ := hrel
    cases l with
    | nil =>
      have h1 : L.len ≤ k := by simp [TyL.len] at hl; omega
      clear hl
      go_wp2_with fail
      go_ret
      refine ⟨_, _, rfl, HR.out.1.bel, SPre.done (fun k hk => ?_) w.heap.size (.inr HR.out.1.lt) L xs 0 HR.out.2.1 (fun i x hx => by rw [Nat.zero_add]; exact HR.out.1.got i x hx)⟩
      rcases hk with hk | hk
      · exact .inl hk
      · exact .inr ⟨hk.1, hk.2.1⟩
    | cons t l =>
      obtain ⟨hrw, hpre, hsrc⟩ := HR.out
      simp only [TyL.In] at hsrc
      obtain ⟨g1, o1, cs1, rfl, hg1, hc, ht, hl'⟩ := hsrc
      have hk1 : k < L.len := by simp only [TyL.len] at hl; omega
      have HL : Hid (l.len + (k + 1) = L.len) := by show _ = _; simp only [TyL.len] at hl; omega
      have htN : t.sz ≤ N ∧ l.sz ≤ N := by simp [TyL.sz] at hlN; omega
      have hto : t.ok = true ∧ l.ok = true := by simpa [TyL.ok] using hlo
      have htp := Ty.cnt_pos t
      have hlp := TyL.cnt_pos l
      have htc : t.cnt ≤ 16384 ∧ l.cnt ≤ 16384 := by simp only [TyL.cnt] at hlc; omega
      have htd : t.dep ≤ 64 ∧ l.dep ≤ 64 := by simp only [TyL.dep] at hld; omega
      have hs : Same B w wr := HB.out.same hrw.bel
      have HO : Hid (Calls Tryz.prog 88 #[.pointer (some ⟨g1, o1 + k * 18, none⟩)] wr (ShapedE t B wr)) := HCH.out t htN.1 hto.1 htc.1 htd.1 cs1 g1 (o1 + k * 18) B wr hg1 (fun x hx => by rw [hs.cell (p := ⟨g1, o1 + k * 18 + x, none⟩) hg1]; exact hc x hx) (t.In_same hs (fun _ h => h) cs1 ht) (HB.out.later hrw.bel)
      have HN : Hid (l.In w B (some ⟨g1, o1, none⟩) (k + 1)) := hl'
      clear hl hlN hc ht hl' hs hrw hpre hlo hlc hld htp hlp
      have HS : Hid (∀ w1, Below wr.heap.size wr w1 → (∃ u, w1.cell? ⟨w.heap.size, k, none⟩ = some u) ∧ w1.frozen? ⟨w.heap.size, k, none⟩ = false) := fun w1 h => (HR.out.1.call h).own k hk1
      have hi0 : (0 : Int) ≤ (k : Int) := Int.natCast_nonneg _
      have hi1 : (k : Int) < (L.len : Int) := by omega
      go_wp2_with fail
      refine HO.out.mono ?_
      rintro e w1 ⟨b, rfl, hb1, hsh⟩
      obtain ⟨⟨u, hu⟩, hf⟩ := HS.out w1 hb1
      have HNew : Hid (RW 60 w (w1.setCell ⟨w.heap.size, k, none⟩ (.pointer (some ⟨b, 0, none⟩))) w.heap.size L.len (xs ++ [.pointer (some ⟨b, 0, none⟩)]) ∧ SPre (w1.setCell ⟨w.heap.size, k, none⟩ (.pointer (some ⟨b, 0, none⟩))) (BG B w.heap.size (w1.setCell ⟨w.heap.size, k, none⟩ (.pointer (some ⟨b, 0, none⟩))) w.heap.size) L (xs ++ [.pointer (some ⟨b, 0, none⟩)]) l) := by
        have h1 := (HR.out.1.call hb1).set [.pointer (some ⟨b, 0, none⟩)] (by simp; omega)
        rw [hxs] at h1
        exact ⟨h1, SPre.step (o := k) HB.out HR.out.2.1 hb1 hsh HR.out.1.lt _⟩
      clear hb1 hsh
      go_wp2_with fail
      go_roundw
      case rel => exact ⟨k + 1, l, _, by go_num, HL.out, htN.2, hto.2, htc.2, htd.2, by simp [hxs], HNew.out.1, HNew.out.2, HN.out⟩
      case measure => simp [intOf]; omega
end Go.Proofs.YtjdjpbdfchhcfaaGreat

