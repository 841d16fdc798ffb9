/- What the library's tables hold, kept by whatever leaves old blocks as they were; strconv.Itoa and strconv.Atoi under it. -/
import Derived.Test.YtghnipbcbbphbaaDoorPBuild
import Derived.Test.YtghnipbcbbphbaaDoorPShelf
namespace Go.Proofs.YtghnipbcbbphbaaDoor
open Go.RowKit

/-- the table of powers of ten holds them, and strconv.ErrRange some error -/
def Env (w : World) : Prop := Lib.TabIs Tryd.prog w "internal/strconv.uint64pow10" .u64 Lib.pow10Tab ∧ ∃ ev, w.cell? ⟨1, 0, none⟩ = some ev ∧ (ev = .nilIface ∨ ∃ te pe, ev = .iface te pe)
theorem Env.on {w w' : World} (h : Env w) (hb : Below w.heap.size w w') : Env w' := by
  obtain ⟨h1, ev, h2, h3⟩ := h
  refine ⟨?_, ev, ?_, h3⟩
  · unfold Lib.TabIs World.var? at h1 ⊢
    cases hg : Tryd.prog.globalNamed "internal/strconv.uint64pow10" with
    | none => rw [hg] at h1; simp at h1
    | some g =>
      rw [hg] at h1
      simp only [Option.bind_some] at h1 ⊢
      have hlt : g < w.heap.size := by
        rcases Nat.lt_or_ge g w.heap.size with h' | h'
        · exact h'
        · rw [Array.getElem?_eq_none h'] at h1; simp at h1
      rw [hb.block g hlt]
      exact h1
  · rw [hb.cell (p := ⟨1, 0, none⟩) (World.block_lt_of_cell? _ _ h2)]
    exact h2

theorem grow_bel (w : World) (k : Nat) (os : Array Obj) : Below w.heap.size w (Go.Sort.grow (w.drewN k) os) :=
  ⟨rfl, rfl, rfl, by show w.heap.size ≤ (w.heap ++ os).size; simp, fun i hi => by show (w.heap ++ os)[i]? = w.heap[i]?; rw [Array.getElem?_append_left hi]⟩
theorem Itoa_env (n : Int) (w : World) (h : Env w) (h0 : 0 ≤ n) (h1 : n < 4096) :
    Calls Tryd.prog 39 #[.int .i64 n] w fun e w' => e = .returned (.string ⟨(Lib.itoa n).toArray⟩) ∧ Below w.heap.size w w' := by
  refine (Tryd.strconv_Itoa n (by omega) (by omega) w h.1).mono ?_
  rintro e w' ⟨rfl, k, os, rfl⟩
  exact ⟨rfl, grow_bel w k os⟩

/-- what Atoi tells of figures -/
def AtoiE (s : ByteArray) (e : Ending) : Prop := (e = .returned (.tuple #[.int .i64 (Sp.num s.data.toList : Int), .nilIface]) ∧ Sp.num s.data.toList < 9223372036854775808) ∨ (∃ v N, e = .returned (.tuple #[.int .i64 v, .iface 71 (.pointer (some ⟨N, 0, none⟩))]) ∧ 4096 ≤ Sp.num s.data.toList)
theorem Atoi_env (s : ByteArray) (w : World) (h : Env w) (hs : s.size ≤ 281474976710656) (h1 : 1 ≤ s.size) (hd : Sp.digs s.data.toList) :
    Calls Tryd.prog 24 #[.string s] w fun e w' => AtoiE s e ∧ Below w.heap.size w w' := by
  have ha := Sp.atoi_digs s.data.toList (by intro e; have : s.data.toList.length = 0 := by rw [e]; rfl
                                            rw [Array.length_toList] at this; have h2 : s.size = 0 := this; omega) hd
  by_cases hn : Sp.num s.data.toList < 9223372036854775808
  · rw [if_pos hn] at ha
    refine (Tryd.strconv_Atoi_ok s (by omega) _ ha w).mono ?_
    rintro e w' ⟨rfl, hw⟩
    refine ⟨.inl ⟨rfl, hn⟩, ?_⟩
    rcases hw with rfl | ⟨t, rfl⟩
    · exact Below.refl _ _
    · exact Lib.bytesWorld_below _ _ _
  · rw [if_neg hn] at ha
    obtain ⟨_, ev, h2, h3⟩ := h
    refine (Tryd.strconv_Atoi_range s hs ha ev w h2 h3).mono ?_
    rintro e w' ⟨N, rfl, _, _, hb⟩
    exact ⟨.inr ⟨_, N, rfl, by omega⟩, hb⟩
end Go.Proofs.YtghnipbcbbphbaaDoor
