/- slices.BinarySearchFunc over a dict's fields, and Thing.Get. -/
import Derived.Test.YtjlhmgopmdcopaaGreatKI19
import Derived.Test.YtjlhmgopmdcopaaGreatKI25
namespace Go.Proofs.YtjlhmgopmdcopaaGreat
open Go.RowKit

set_option maxRecDepth 100000 in
set_option maxHeartbeats 2000000 in
theorem Get_1_some (n m : ByteArray) (T : Nat) (x : Value) (w : World) : Calls Tryz.prog 62 #[.agg #[.string n, .iface T x], .string m] w fun e w' => e = .returned (.int .i64 (Sp.cmpS n m)) ∧ Below w.heap.size w w' := by
  have hr := strCmpO_run
  go_enter Tryz.func62, Tryz.ntmps62
  go_wp2
  go_ret
  exact ⟨rfl, (Below.refl _ _).alloc (Nat.le_refl _) _⟩
set_option maxRecDepth 100000 in
set_option maxHeartbeats 2000000 in
theorem Get_1_nil (n m : ByteArray) (w : World) : Calls Tryz.prog 62 #[.agg #[.string n, .nilIface], .string m] w fun e w' => e = .returned (.int .i64 (Sp.cmpS n m)) ∧ Below w.heap.size w w' := by
  have hr := strCmpO_run
  go_enter Tryz.func62, Tryz.ntmps62
  go_wp2
  go_ret
  exact ⟨rfl, (Below.refl _ _).alloc (Nat.le_refl _) _⟩
/-- an interface's value -/
def IfV (v : Value) : Prop := v = .nilIface ∨ ∃ T x, v = .iface T x
theorem Get_1_any (n m : ByteArray) (v : Value) (hv : IfV v) (w : World) : Calls Tryz.prog 62 #[.agg #[.string n, v], .string m] w fun e w' => e = .returned (.int .i64 (Sp.cmpS n m)) ∧ Below w.heap.size w w' := by
  rcases hv with rfl | ⟨T, x, rfl⟩
  · exact Get_1_nil n m w
  · exact Get_1_some n m T x w

/-- a row of fields lies at g: names and values -/
def Rw (w : World) (g : Nat) (ns : List ByteArray) (vs : List Value) : Prop := vs.length = ns.length ∧ ∀ j n v, ns[j]? = some n → vs[j]? = some v → w.cell? ⟨g, j * 2, none⟩ = some (.string n) ∧ w.cell? ⟨g, j * 2 + 1, none⟩ = some v ∧ IfV v
theorem Rw.keep {w w' : World} {g : Nat} {ns : List ByteArray} {vs : List Value} (h : Rw w g ns vs) (hb : Below w.heap.size w w') : Rw w' g ns vs :=
  ⟨h.1, fun j n v h1 h2 => by
    obtain ⟨c0, c1, hi⟩ := h.2 j n v h1 h2
    have l0 := World.block_lt_of_cell? _ _ c0
    exact ⟨by rw [hb.cell (p := ⟨g, j * 2, none⟩) l0]; exact c0, by rw [hb.cell (p := ⟨g, j * 2 + 1, none⟩) l0]; exact c1, hi⟩⟩

set_option maxRecDepth 100000 in
set_option maxHeartbeats 2000000 in
theorem search_any (g N cap J : Nat) (ns : List ByteArray) (vs : List Value) (nm : ByteArray) (w : World) (hN : ns.length = N) (hl : N ≤ 4096) (hu : Sp.up ns) (hJ : ns[J]? = some nm) (hR : Rw w g ns vs) :
    Calls Tryz.prog 61 #[.slice (some ⟨g, 0, none⟩) N cap, .string nm, .func (.func 62) #[] #[]] w fun e w' => e = .returned (.tuple #[.int .i64 (J : Int), .bool true]) ∧ Below w.heap.size w w' := by
  have HJN : Hid (J < N) := by have := (List.getElem?_eq_some_iff.1 hJ).1; show _ < _; omega
  have HC : Hid (∀ (h : Nat), h < N → ∃ n v, ns[h]? = some n ∧ vs[h]? = some v ∧ ∀ W, Calls Tryz.prog 62 #[.agg #[.string n, v], .string nm] W fun e w' => e = .returned (.int .i64 (Sp.cmpS n nm)) ∧ Below W.heap.size W w') := by
    intro h hh
    have hn : ns[h]? = some ns[h] := List.getElem?_eq_getElem (by omega)
    have hv : vs[h]? = some (vs[h]'(by have := hR.1; omega)) := List.getElem?_eq_getElem (by have := hR.1; omega)
    exact ⟨_, _, hn, hv, fun W => Get_1_any _ _ _ (hR.2 h _ _ hn hv).2.2 W⟩
  have HU : Hid (∀ (h : Nat) n, ns[h]? = some n → (Sp.cmpS n nm < 0 ↔ h < J) ∧ (Sp.cmpS n nm = 0 ↔ h = J)) := fun h n hn => up_cmp hu hn hJ
  have HR : Hid (∀ W, Below w.heap.size w W → Rw W g ns vs) := fun W hW => hR.keep hW
  have HL : Hid (N ≤ 4096) := hl
  clear hN hl hu hJ hR
  go_enter Tryz.func61, Tryz.ntmps61
  go_wp2_with fail
  go_loopw [9, 10] (fun x y wr => ∃ (i j : Nat), x = .int .i64 (i : Int) ∧ y = .int .i64 (j : Int) ∧ i ≤ J ∧ J ≤ j ∧ j ≤ N ∧ Hid (Below w.heap.size w wr)) (fun x y _ => (intOf y).toNat - (intOf x).toNat)
  case atStart => exact ⟨0, N, rfl, rfl, Nat.zero_le _, Nat.le_of_lt HJN.out, Nat.le_refl _, Below.refl _ _⟩
  case round =>
    obtain ⟨i, j, rfl, rfl, hiJ, hJj, hjN, HB⟩ := hrel
    rcases Nat.lt_or_ge i j with hlt | hge
    · have hij : (i : Int) < (j : Int) := by omega
      have HLl := HL.out
      obtain ⟨n, v, hn, hv, hcall⟩ := HC.out ((i + j) / 2) (by omega)
      obtain ⟨c0, c1, _⟩ := (HR.out wr HB.out).2 _ _ _ hn hv
      have HCl : Hid (∀ W, Calls Tryz.prog 62 #[.agg #[.string n, v], .string nm] W fun e w' => e = .returned (.int .i64 (Sp.cmpS n nm)) ∧ Below W.heap.size W w') := hcall
      have HU1 : Hid (Sp.cmpS n nm < 0 ↔ (i + j) / 2 < J) := (HU.out _ n hn).1
      clear hn hv hcall
      generalize Sp.cmpS n nm = q at HCl HU1
      go_wp2_with fail
      refine (HCl.out _).mono ?_
      rintro e w1 ⟨rfl, hb1⟩
      have HB1 : Hid (Below w.heap.size w w1) := HB.out.trans (hb1.mono HB.out.size)
      clear hb1 c0 c1
      by_cases hc : q < 0
      · have hx := HU1.out.1 hc
        go_wp2_with fail
        exact ⟨⟨(i + j) / 2 + 1, j, by simp, rfl, by omega, hJj, hjN, HB1⟩, by simp [intOf]; omega⟩
      · have hx : ¬ (i + j) / 2 < J := fun h => hc (HU1.out.2 h)
        go_wp2_with fail
        exact ⟨⟨i, (i + j) / 2, rfl, by simp, hiJ, by omega, by omega, HB1⟩, by simp [intOf]; omega⟩
    · have hij : ¬ (i : Int) < (j : Int) := by omega
      obtain rfl : J = i := by omega
      obtain rfl : J = j := by omega
      obtain ⟨n, v, hn, hv, hcall⟩ := HC.out J HJN.out
      obtain ⟨c0, c1, _⟩ := (HR.out wr HB.out).2 _ _ _ hn hv
      have HCl : Hid (∀ W, Calls Tryz.prog 62 #[.agg #[.string n, v], .string nm] W fun e w' => e = .returned (.int .i64 (Sp.cmpS n nm)) ∧ Below W.heap.size W w') := hcall
      have hz : Sp.cmpS n nm = 0 := (HU.out _ n hn).2.2 rfl
      have hlt : (J : Int) < (N : Int) := by have := HJN.out; omega
      have hlt2 := HJN.out
      rw [hz] at HCl
      clear hn hv hcall hz
      go_wp2_with fail
      refine (HCl.out _).mono ?_
      rintro e w1 ⟨rfl, hb1⟩
      have HB1 : Hid (Below w.heap.size w w1) := HB.out.trans (hb1.mono HB.out.size)
      clear hb1 c0 c1
      go_wp2_with fail
      go_ret2
      exact ⟨rfl, HB1.out⟩

/-- at b lies a Thing: its identity and its fields, in blocks below the heap's end -/
def Th (w : World) (b : Nat) (id : Int) (L : TmF) : Prop := w.cell? ⟨b, 0, none⟩ = some (.int .u64 id) ∧ ∃ a cap, w.cell? ⟨b, 1, none⟩ = some (.slice a L.len cap) ∧ L.LV w (Lo w.heap.size) a cap
theorem Th.keep {w w' : World} {b : Nat} {id : Int} {L : TmF} (h : Th w b id L) (hb : Below w.heap.size w w') : Th w' b id L := by
  obtain ⟨h0, a, cap, h1, h2⟩ := h
  have l0 := World.block_lt_of_cell? _ _ h0
  refine ⟨by rw [hb.cell (p := ⟨b, 0, none⟩) l0]; exact h0, a, cap, by rw [hb.cell (p := ⟨b, 1, none⟩) l0]; exact h1, ?_⟩
  exact L.LV_same (Same.of_below hb (Nat.le_refl _)) (fun k hk => Nat.lt_of_lt_of_le hk hb.size) a cap h2

theorem V_if {t : Tm} {w : World} {B : Nat → Prop} {v : Value} (h : t.V w B v) : IfV v := by
  by_cases hk : t.kind = 1
  · cases t with
    | mk k b i f tx by' rf l fs c vr =>
      simp only [Tm.V] at h
      exact .inl (h.1 hk)
  · obtain ⟨T, x, rfl⟩ := Tm.V_iface hk h
    exact .inr ⟨T, x, rfl⟩
theorem TmF.V_row {w : World} {B : Nat → Prop} {g : Nat} : (L : TmF) → ∀ k, L.V w B (some ⟨g, 0, none⟩) k → ∃ vs : List Value, vs.length = L.names.length ∧ ∀ j n v, L.names[j]? = some n → vs[j]? = some v → w.cell? ⟨g, (k + j) * 2, none⟩ = some (.string n) ∧ w.cell? ⟨g, (k + j) * 2 + 1, none⟩ = some v ∧ IfV v ∧ ∃ t, L.nth j = some (n, t) ∧ t.V w B v
  | .nil, k, _ => ⟨[], rfl, fun j n v h _ => by simp [TmF.names] at h⟩
  | .cons m t l, k, h => by
    simp only [TmF.V] at h
    obtain ⟨g', o, v, e, hg, c0, c1, _, hv, hl⟩ := h
    injection e with e1
    injection e1 with e2 e3
    subst e2 e3
    obtain ⟨vs, h1, h2⟩ := TmF.V_row l (k + 1) hl
    refine ⟨v :: vs, by simp [TmF.names, h1], fun j n u hn hu => ?_⟩
    cases j with
    | zero =>
      simp [TmF.names] at hn hu
      subst hn hu
      exact ⟨by simpa using c0, by simpa using c1, V_if hv, t, rfl, hv⟩
    | succ j =>
      have := h2 j n u (by simpa [TmF.names] using hn) (by simpa using hu)
      rw [show k + 1 + j = k + (j + 1) by omega] at this
      exact this
theorem TmF.LV_at {w : World} {B : Nat → Prop} {L : TmF} {a : Option Addr} {cap : Nat} (h : L.LV w B a cap) (hl : 0 < L.len) : ∃ g, a = some ⟨g, 0, none⟩ ∧ L.len ≤ cap := by
  obtain ⟨⟨_, ⟨xs, _, h | ⟨g2, cap2, cur, h, _, _, hc, _⟩⟩, _⟩, _⟩ := h
  · injection h.1 with h1 h2 h3; omega
  · injection h with h1 h2 h3; subst h3; exact ⟨g2, h1, hc⟩
end Go.Proofs.YtjlhmgopmdcopaaGreat

