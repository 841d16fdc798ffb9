/- value.valueOf and value.dictOf: the value of a term that can be, in new memory. -/
import Derived.Test.YtnndlffidifddaaGreatDoorK18
import Derived.Test.YtnndlffidifddaaGreatDoorK19
import Derived.Deep.RegionHeld3
namespace Go.Proofs.YtnndlffidifddaaGreatDoor
open Go.RowKit

@[go_sem] theorem run_store_fl (P : Program) (w : World) (a : Addr) (m : Mode) (k : FloatKind) (n : Nat) : (store a (.float k n) m).run P w = stored P w a (.float k n) m := run_store P w a _ m rfl

theorem Tm.Ok.bounds {k : Int} {b : Bool} {i : Int} {f : Nat} {tx : ByteArray} {by' : ByteArray} {rf : Int} {l : TmL} {fs : TmF} {c : ByteArray} {v : Int} (h : Tm.Ok (.mk k b i f tx by' rf l fs c v)) :
    (k = 5 → tx.size ≤ 65536) ∧ (k = 6 → by'.size ≤ 65536) ∧ (k = 8 → l.len ≤ 4096) ∧ (k = 9 ∨ k = 10 → Sp.fieldsR fs.names = 0) ∧ (k = 10 → Sp.headR c v = 0) := by
  obtain ⟨n, p, d, h⟩ := h
  have ho : (Tm.mk k b i f tx by' rf l fs c v).own p n = 0 := by
    by_cases e : (Tm.mk k b i f tx by' rf l fs c v).own p n ≠ 0
    · rw [Tm.wk, if_pos e] at h; exact absurd h e
    · exact Decidable.not_not.1 e
  have he : Sp.ent k p n = 0 := Tm.own_ent _ _ _ ho
  simp only [Tm.own, he, ne_eq, not_true_eq_false, if_false] at ho
  refine ⟨fun e => ?_, fun e => ?_, fun e => ?_, fun e => ?_, fun e => ?_⟩
  · subst e; simp [Sp.len] at ho; omega
  · subst e; simp [Sp.len] at ho; omega
  · subst e; simp [Sp.len] at ho; omega
  · rcases e with rfl | rfl
    · simpa using ho
    · by_cases hh : Sp.headR c v = 0
      · simpa [hh] using ho
      · simp [hh] at ho
  · subst e
    by_cases hh : Sp.headR c v = 0
    · exact hh
    · simp [hh] at ho
theorem named_len : ∀ (l : List ByteArray) (a : ByteArray), Sp.named a l = true → ∀ n ∈ l, n.size ≤ 32
  | [], _, _, n, hn => by simp at hn
  | m :: l, a, h, n, hn => by
    simp only [Sp.named, Bool.and_eq_true] at h
    simp only [List.mem_cons] at hn
    rcases hn with rfl | hn
    · have := h.1.1; simp [Sp.isNm] at this; omega
    · exact named_len l m h.2 n hn
/-- names are short -/
def TmF.Nm (l : TmF) : Prop := ∀ n ∈ l.names, n.size ≤ 32
theorem TmF.nm {l : TmF} (h : Sp.fieldsR l.names = 0) : l.len ≤ 4096 ∧ l.Nm := by
  unfold Sp.fieldsR at h
  split at h
  · omega
  · rename_i h1
    rw [TmF.names_len] at h1
    split at h
    · rename_i h2; exact ⟨by omega, named_len _ _ h2⟩
    · omega
theorem TmF.Nm.head {n : ByteArray} {t : Tm} {l : TmF} (h : TmF.Nm (.cons n t l)) : n.size ≤ 32 ∧ l.Nm := ⟨h n (by simp [TmF.names]), fun m hm => h m (by simp [TmF.names, hm])⟩
theorem head_len {c : ByteArray} {v : Int} (h : Sp.headR c v = 0) : c.size ≤ 32 := by
  unfold Sp.headR at h
  split at h
  · omega
  · rename_i h1
    have : Sp.isNm c = true := by simpa using h1
    simp [Sp.isNm] at this; omega

theorem Tm.In_tc' {w : World} {B : Nat → Prop} {t : Tm} {cs : Array Value} (h : t.In w B cs) : ∃ k b i f tx ab nb cb rf al nl cl af nf cf c vr, cs = tcells k b i f tx (.slice ab nb cb) rf (.slice al nl cl) (.slice af nf cf) c vr := by
  cases t; simp only [Tm.In] at h; obtain ⟨_, _, _, _, _, _, rfl, _⟩ := h; exact ⟨_, _, _, _, _, _, _, _, _, _, _, _, _, _, _, _, _, rfl⟩

end Go.Proofs.YtnndlffidifddaaGreatDoor

