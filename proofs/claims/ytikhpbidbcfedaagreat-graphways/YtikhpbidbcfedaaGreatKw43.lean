/- tenonref14.Has and tenonlaw14.edge: whether a node, whether an edge is among some. -/
import Derived.Test.YtikhpbidbcfedaaGreatKw30
import Derived.Test.YtikhpbidbcfedaaGreatKw36
namespace Go.Proofs.YtikhpbidbcfedaaGreat
open Go.RowKit Go.ChangeMaps

def RfV (w : World) (a : Option Addr) (l : List Int) : Prop := ∀ t x, l[t]? = some x → ∃ b o, a = some ⟨b, o, none⟩ ∧ w.cell? ⟨b, o + t, none⟩ = some (.int .u64 x)
theorem RefsAt.rfv {w : World} {B : Nat} {a : Option Addr} {l : List Int} (h : RefsAt w B a l) : RfV w a l := fun t x hx => by
  obtain ⟨b, o, e, _, h2⟩ := h.row t (.int .u64 x) (by simp [hx])
  exact ⟨b, o, e, by simpa using h2⟩
theorem NdR.rfv {w : World} {gs : Option Nat} {c : Nat} {l : List Int} (h : NdR w gs c l) : RfV w (adr gs) l := fun t x hx => by
  obtain ⟨g, rfl, h2⟩ := h.at_ hx
  exact ⟨g, 0, rfl, by simpa using h2⟩
theorem RfV.keep {w w' : World} {a : Option Addr} {l : List Int} (h : RfV w a l) (hb : Below w.heap.size w w') : RfV w' a l := fun t x hx => by
  obtain ⟨b, o, e, h2⟩ := h t x hx
  exact ⟨b, o, e, by rw [World.cell?_of_block (w := w) (hb.block b (World.block_lt_of_cell? _ _ h2))]; exact h2⟩
theorem RfV.take {w : World} {a : Option Addr} {l : List Int} (h : RfV w a l) (k : Nat) : RfV w a (l.take k) := fun t x hx => by
  rw [List.getElem?_take] at hx
  split at hx
  · exact h t x hx
  · cases hx

set_option maxRecDepth 100000 in
set_option maxHeartbeats 8000000 in
theorem rHas_any (a : Option Addr) (cap : Nat) (l : List Int) (x : Int) (w : World) (h : RfV w a l) (hl : l.length ≤ 70368744177664) :
    Calls Tryz.prog 12 #[.slice a l.length cap, .int .u64 x] w fun e w' => e = .returned (.bool (decide (x ∈ l))) ∧ Below w.heap.size w w' := by
  have H : Hid (RfV w a l) := h
  clear h
  go_enter Tryz.func12, Tryz.ntmps12
  go_wp2_with fail
  go_loopw [5] (fun v3 wr => ∃ i : Nat, v3 = .int .i64 i ∧ i ≤ l.length ∧ x ∉ l.take i ∧ Hid (Below w.heap.size w wr)) (fun v3 _ => l.length - (intOf v3).toNat)
  case atStart => exact ⟨0, rfl, Nat.zero_le _, by simp, Below.refl _ _⟩
  case round =>
    obtain ⟨i, rfl, hi, hno, HS⟩ := hrel
    by_cases hlt : i < l.length
    · have hltz : (i : Int) < (l.length : Int) := by omega
      obtain ⟨y, hy⟩ : ∃ e, l[i]? = some e := ⟨_, List.getElem?_eq_getElem hlt⟩
      obtain ⟨b, o, rfl, hc⟩ := H.out i y hy
      have hcr : wr.cell? ⟨b, o + i, none⟩ = some (.int .u64 y) := by rw [World.cell?_of_block (w := w) (HS.out.block b (World.block_lt_of_cell? _ _ hc))]; exact hc
      have hin : y = x → x ∈ l := fun e => e ▸ List.mem_of_getElem? hy
      have hnx : y ≠ x → x ∉ l.take (i + 1) := fun e => by
        rw [List.take_add_one, hy]; simp only [Option.toList, List.mem_append, List.mem_singleton]
        rintro (h | h); exact hno h; exact e h.symm
      clear hy hc hno
      by_cases hxy : y = x
      · have HIN : x ∈ l := hin hxy
        subst hxy
        clear hin hnx
        go_wp2_with fail
        go_ret
        exact ⟨by rw [decide_eq_true HIN]; rfl, HS.out⟩
      · have hnn := hnx hxy
        clear hin hnx
        go_wp2_with fail
        go_roundw
        case rel => exact ⟨i + 1, by go_num, by omega, hnn, HS.out⟩
        case measure => simp [intOf]; omega
    · obtain rfl : l.length = i := by omega
      rw [List.take_length] at hno
      go_wp2_with fail
      go_ret
      exact ⟨by rw [decide_eq_false hno]; rfl, HS.out⟩

def EgV (w : World) (a : Option Addr) (E : List (Int × Int)) : Prop := ∀ t x, E[t]? = some x → ∃ b o, a = some ⟨b, o, none⟩ ∧ w.cell? ⟨b, o + t * 2, none⟩ = some (.int .u64 x.1) ∧ w.cell? ⟨b, o + t * 2 + 1, none⟩ = some (.int .u64 x.2)
theorem EgV.keep {w w' : World} {a : Option Addr} {E : List (Int × Int)} (h : EgV w a E) (hb : Below w.heap.size w w') : EgV w' a E := fun t x hx => by
  obtain ⟨b, o, e, h2, h3⟩ := h t x hx
  exact ⟨b, o, e, by rw [World.cell?_of_block (w := w) (hb.block b (World.block_lt_of_cell? _ _ h2))]; exact h2, by rw [World.cell?_of_block (w := w) (hb.block b (World.block_lt_of_cell? _ _ h2))]; exact h3⟩
theorem EdgesAt.egv {w : World} {B : Nat} {a : Option Addr} {E : List (Int × Int)} (h : EdgesAt w B a E) : EgV w a E := fun t x hx => by
  obtain ⟨b, o, e, _, h2, h3⟩ := h.1 t x hx
  exact ⟨b, o, e, h2, h3⟩
set_option maxRecDepth 100000 in
set_option maxHeartbeats 8000000 in
theorem edge_any (a : Option Addr) (cap : Nat) (E : List (Int × Int)) (x y : Int) (w : World) (h : EgV w a E) (hl : E.length * 16 ≤ 140737488355328) :
    Calls Tryz.prog 13 #[.slice a E.length cap, .int .u64 x, .int .u64 y] w fun e w' => e = .returned (.bool (decide ((x, y) ∈ E))) ∧ Below w.heap.size w w' := by
  have H : Hid (EgV w a E) := h
  clear h
  go_enter Tryz.func13, Tryz.ntmps13
  go_wp2_with fail
  go_loopw [7] (fun v4 wr => ∃ i : Nat, v4 = .int .i64 i ∧ i ≤ E.length ∧ (x, y) ∉ E.take i ∧ Hid (Below w.heap.size w wr)) (fun v4 _ => E.length - (intOf v4).toNat)
  case atStart => exact ⟨0, rfl, Nat.zero_le _, by simp, Below.refl _ _⟩
  case round =>
    obtain ⟨i, rfl, hi, hno, HS⟩ := hrel
    by_cases hlt : i < E.length
    · have hltz : (i : Int) < (E.length : Int) := by omega
      obtain ⟨⟨x', y'⟩, hy⟩ : ∃ e, E[i]? = some e := ⟨_, List.getElem?_eq_getElem hlt⟩
      obtain ⟨b, o, rfl, hc1, hc2⟩ := H.out i (x', y') hy
      have hcr : wr.cell? ⟨b, o + i * 2, none⟩ = some (.int .u64 x') := by rw [World.cell?_of_block (w := w) (HS.out.block b (World.block_lt_of_cell? _ _ hc1))]; exact hc1
      have hcr2 : wr.cell? ⟨b, o + i * 2 + 1, none⟩ = some (.int .u64 y') := by rw [World.cell?_of_block (w := w) (HS.out.block b (World.block_lt_of_cell? _ _ hc1))]; exact hc2
      have hin : x' = x → y' = y → (x, y) ∈ E := fun e e2 => e ▸ e2 ▸ List.mem_of_getElem? hy
      have hnx : ¬ (x' = x ∧ y' = y) → (x, y) ∉ E.take (i + 1) := fun e => by
        rw [List.take_add_one, hy]; simp only [Option.toList, List.mem_append, List.mem_singleton, Prod.mk.injEq]
        rintro (h | h); exact hno h; exact e ⟨h.1.symm, h.2.symm⟩
      clear hy hc1 hc2 hno
      by_cases hxy : x' = x
      · subst hxy
        by_cases hyy : y' = y
        · have HIN := hin rfl hyy
          subst hyy
          clear hin hnx
          go_wp2_with fail
          go_ret
          exact ⟨by rw [decide_eq_true HIN]; rfl, HS.out⟩
        · have hnn := hnx (fun h => hyy h.2)
          clear hin hnx
          go_wp2_with fail
          go_roundw
          case rel => exact ⟨i + 1, by go_num, by omega, hnn, HS.out⟩
          case measure => simp [intOf]; omega
      · have hnn := hnx (fun h => hxy h.1)
        clear hin hnx
        go_wp2_with fail
        go_roundw
        case rel => exact ⟨i + 1, by go_num, by omega, hnn, HS.out⟩
        case measure => simp [intOf]; omega
    · obtain rfl : E.length = i := by omega
      rw [List.take_length] at hno
      go_wp2_with fail
      go_ret
      exact ⟨by rw [decide_eq_false hno]; rfl, HS.out⟩
end Go.Proofs.YtikhpbidbcfedaaGreat

