/- What the texts on printing share: rows of bytes of one's own, turned to a text, grown by bytes and texts. -/
import Derived.Test.YtnndlffidifddaaGreatDoorK6
import Derived.Test.YtnndlffidifddaaGreatDoorK7
import Derived.Test.YtnndlffidifddaaGreatDoorK4
import Derived.Test.YtnndlffidifddaaGreatDoorK8
import Derived.Laws.BytesArg
import Derived.Laws.Concat
import Derived.Lib.AppendStr
import Derived.Deep.QuietTactic
import Derived.BigQuiet
namespace Go.Proofs.YtnndlffidifddaaGreatDoor
open Go.RowKit

theorem Tryz.undUd : Tryz.prog.underlying 5 = some (.int .u8) := by kernel_rfl
theorem Tryz.undSd : Tryz.prog.underlying 9 = some .string := by kernel_rfl
theorem nums_list (l : List UInt8) : strOfNums (l.map fun b => (b.toNat : Int)) = ⟨l.toArray⟩ := by
  unfold strOfNums
  rw [List.map_map]
  congr 2
  conv => rhs; rw [← List.map_id l]
  apply List.map_congr_left
  intro b _
  simp
/-- bytes that lie in a row, as a text -/
theorem conv_row (l : List UInt8) (g o c : Nat) (w : World) (h : ∀ j u, l[j]? = some u → w.cell? ⟨g, o + j, none⟩ = some (.int .u8 (u.toNat : Int))) :
    (convert 23 9 (.slice (some ⟨g, o, none⟩) l.length c)).run Tryz.prog w = .ok (.string ⟨l.toArray⟩) w := by
  rw [← nums_list]
  refine run_convert_bytes_arg (P := Tryz.prog) w 23 5 Tryz.undB Tryz.undUd g o l.length c _ (by simp) (fun i hi => ?_) 9 Tryz.undSd
  rw [h i l[i] (List.getElem?_eq_getElem hi)]
  simp [List.getD, List.getElem?_eq_getElem hi]
theorem conv_none (w : World) : (convert 23 9 (.slice none 0 0)).run Tryz.prog w = .ok (.string ⟨([] : List UInt8).toArray⟩) w :=
  run_convert_bytes_nil w _ 5 Tryz.undB Tryz.undUd _ _ _ Tryz.undSd
theorem ofL (l : List UInt8) : (⟨l.toArray⟩ : ByteArray).data.toList = l := by simp
theorem ba_app (a b : List UInt8) : (⟨a.toArray⟩ : ByteArray) ++ ⟨b.toArray⟩ = ⟨(a ++ b).toArray⟩ := by
  apply ByteArray.ext
  simp
/-- bytes as cells -/
def Sp.u8c (l : List UInt8) : List Value := l.map fun b => Value.int .u8 (b.toNat : Int)
theorem u8c_at (l : List UInt8) (j : Nat) (u : UInt8) (h : l[j]? = some u) : (Sp.u8c l)[j]? = some (.int .u8 (u.toNat : Int)) := by simp [Sp.u8c, h]
theorem u8c_len (l : List UInt8) : (Sp.u8c l).length = l.length := by simp [Sp.u8c]
theorem u8c_one (l : List UInt8) : ∀ u ∈ Sp.u8c l, u.oneCell' = true := by
  intro u hu
  obtain ⟨b, _, rfl⟩ := List.mem_map.1 hu
  rfl
theorem u8c_app (a b : List UInt8) : Sp.u8c (a ++ b) = Sp.u8c a ++ Sp.u8c b := by simp [Sp.u8c]

theorem own_on {w w' : World} {B : Nat} {e : TypeId} {size n : Nat} {v : Value} {xs : List Value} (h : w.ownsRow B e size v n xs) (hw : Below w.heap.size w w') : w'.ownsRow B e size v n xs := by
  refine h.kept (row := none) ⟨hw.os, hw.tape, hw.output, hw.size, fun k hk _ => hw.block k hk⟩ ?_
  cases hv : v.ownBlock with
  | none => exact .inl rfl
  | some k => exact .inr (by simp)
theorem own_ge {w : World} {B : Nat} {e : TypeId} {size n : Nat} {v : Value} {xs : List Value} {k : Nat} (h : w.ownsRow B e size v n xs) (hk : v.ownBlock = some k) : B ≤ k := by
  rcases h.2 with ⟨e, _⟩ | ⟨g, c, cur, e, hg, _⟩
  · rw [e] at hk; simp [Value.ownBlock] at hk
  · rw [e] at hk; simp [Value.ownBlock] at hk; omega
theorem own_slice_n {w : World} {B : Nat} {e : TypeId} {size n : Nat} {v : Value} {xs : List Value} (h : w.ownsRow B e size v n xs) : ∃ a c, v = .slice a n c := by
  rcases h.2 with ⟨e, e0⟩ | ⟨g, c, cur, e, _⟩
  · exact ⟨none, 0, by rw [e, e0]⟩
  · exact ⟨_, _, e⟩
/-- a row of bytes of one's own -/
def Byts (w : World) (base : Nat) (a : Option Addr) (m cap : Nat) (l : List UInt8) : Prop := m = l.length ∧ w.ownsRow base 5 1 (.slice a m cap) m (Sp.u8c l)
theorem Byts.grow {w w' : World} {base : Nat} {a : Option Addr} {m cap g cap' : Nat} {l : List UInt8} {c : UInt8} (h : Byts w base a m cap l) (h' : w'.ownsRow base 5 1 (.slice (some ⟨g, 0, none⟩) (m + 1) cap') (m + 1) (Sp.u8c l ++ Sp.u8c [c])) : Byts w' base (some ⟨g, 0, none⟩) (m + 1) cap' (l ++ [c]) :=
  ⟨by rw [List.length_append, h.1]; rfl, by rw [u8c_app]; exact h'⟩
theorem Byts.str {w w' : World} {base : Nat} {a a' : Option Addr} {m cap cap' : Nat} {l : List UInt8} {s : ByteArray} (h : Byts w base a m cap l) (h' : w'.ownsRow base 5 1 (.slice a' (m + s.size) cap') (m + s.size) (Sp.u8c l ++ Lib.strCells s)) : Byts w' base a' (m + s.size) cap' (l ++ s.data.toList) :=
  ⟨by rw [List.length_append, h.1, Array.length_toList]; rfl, by rw [u8c_app]; exact h'⟩
set_option maxRecDepth 100000 in
theorem Byts.conv {w w' : World} {base : Nat} {a : Option Addr} {m cap : Nat} {l : List UInt8} (h : Byts w base a m cap l) (hw : Below w.heap.size w w') : (convert 23 9 (.slice a m cap)).run Tryz.prog w' = .ok (.string ⟨l.toArray⟩) w' := by
  obtain ⟨h1, h2⟩ := h
  have h2' := own_on h2 hw
  rcases h2'.2 with ⟨e, e0⟩ | ⟨g, c, cur, e, _⟩
  · injection e with e1 e2 e3
    subst e1 e3 e0
    have : l = [] := List.length_eq_zero_iff.1 h1.symm
    subst this
    exact conv_none w'
  · injection e with e1 e2 e3
    subst e1
    rw [h1]
    refine conv_row l g 0 cap w' (fun j u hu => ?_)
    have := h2'.cells (g := g) rfl j _ (u8c_at l j u hu)
    rw [addr_add] at this
    exact this

theorem ret_str {a b : ByteArray} (h : a = b) : Ending.returned (.string a) = .returned (.string b) := by rw [h]
/-- several bytes laid side by side -/
theorem bytes_new (W : World) (l : List UInt8) {n : Nat} (hn : n = W.heap.size) {cs : Array Value} (hc : cs.toList = Sp.u8c l) {T : TypeId} : ∀ j u, (Sp.u8c l)[j]? = some u → (W.alloc (.cells cs T)).cell? ((⟨n, 0, none⟩ : Addr).add j) = some u := by
  subst hn
  intro j u hu
  rw [addr_add, Nat.zero_add]
  rw [← hc, Array.getElem?_toList] at hu
  unfold World.cell?
  rw [heap_alloc_new]
  exact hu
end Go.Proofs.YtnndlffidifddaaGreatDoor

