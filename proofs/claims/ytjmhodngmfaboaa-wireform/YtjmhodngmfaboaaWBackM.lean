/- What WireBack wants of Decode and Skip: bytes that were written, whatever stands behind them. -/
import Derived.Test.YtjmhodngmfaboaaDeco
import Derived.Test.YtjmhodngmfaboaaDecM
import Derived.Test.YtjmhodngmfaboaaOuts
import Derived.Test.YtjmhodngmfaboaaBackG
namespace Go.Proofs.Ytjmhodngmfaboaa
open Go.RowKit

theorem src_bytes (s : ByteArray) (ab : Option Addr) (cb : Nat) (S : Nat → Prop) (W : World) (hb : BytesAt W S ab s) : Src Try.prog 1 23 (.slice ab s.size cb) s.size (u8s (Sp.bts s)) W := by
  rw [← bcells_bts]
  by_cases h0 : s.size = 0
  · cases ab with
    | none => rw [show bcells s = [] by simp [bcells, h0], h0]; exact Src.ofNil _ Try.undB cb
    | some p => exact Src.ofSlice _ Try.undB p s.size cb _ (by simp [bcells]) (fun j u hu => by rw [show bcells s = [] by simp [bcells, h0]] at hu; simp at hu) (bcells_one s)
  · obtain ⟨g, o, rfl, hg, _⟩ := hb 0 (by omega)
    refine Src.ofSlice _ Try.undB ⟨g, o, none⟩ s.size cb _ (by simp [bcells]) (fun j u hu => ?_) (bcells_one s)
    obtain ⟨hj, rfl⟩ := bcells_at s j u hu
    obtain ⟨g', o', e, hg', hc⟩ := hb j hj
    simp only [Option.some.injEq, Addr.mk.injEq, and_true] at e
    obtain ⟨rfl, rfl⟩ := e
    rw [addr_add]; exact hc
theorem outs_rd {w : World} {base g cap : Nat} {xs : List Int} (h : Outs w base (some ⟨g, 0, none⟩) cap xs) : RdB w (Lo w.heap.size) (some ⟨g, 0, none⟩) xs ∧ xs.length ≤ cap := by
  refine ⟨fun j u hu => ⟨g, 0, rfl, (h.1.lt g rfl).2, ?_⟩, ?_⟩
  · have := h.1.cells (g := g) rfl j (.int .u8 u) (by simp [u8s, hu])
    rw [add_at] at this; exact this
  · rcases h.1.2 with ⟨e1, _⟩ | ⟨g1, cap1, cur, e1, _, _, hnc, _⟩
    · simp at e1
    · simp only [Value.slice.injEq, Option.some.injEq, Addr.mk.injEq, and_true, true_and] at e1
      obtain ⟨rfl, rfl⟩ := e1
      exact hnc

theorem By.nil : By [] := fun x hx => by simp at hx
theorem By.cons {x : Int} {l : List Int} (h : 0 ≤ x ∧ x ≤ 255) (hl : By l) : By (x :: l) := fun y hy => by
  simp only [List.mem_cons] at hy
  rcases hy with rfl | hy
  · exact h
  · exact hl y hy
theorem By.app {l m : List Int} (hl : By l) (hm : By m) : By (l ++ m) := fun y hy => by
  simp only [List.mem_append] at hy
  rcases hy with hy | hy
  · exact hl y hy
  · exact hm y hy
theorem numB_by : ∀ n, By (Sp.numB n) := fun n => by
  induction n using Nat.strongRecOn with
  | ind n ih =>
    by_cases h : n < 128
    · rw [Sp.numB_lt h]; exact By.cons ⟨by omega, by omega⟩ By.nil
    · rw [Sp.numB_ge h]; exact By.cons ⟨by omega, by omega⟩ (ih _ (by omega))
theorem bts_by (s : ByteArray) : By (Sp.bts s) := fun x hx => by
  simp only [Sp.bts, List.mem_map] at hx
  obtain ⟨j, _, rfl⟩ := hx
  unfold Sp.byte
  have := (s.data.getD j 0).toNat_lt
  omega
theorem txtB_by (s : ByteArray) : By (Sp.txtB s) := (numB_by _).app (bts_by s)
theorem bitsTo_by (f : Nat) : ∀ k, By (Sp.bitsTo f k)
  | 0 => By.nil
  | k + 1 => (bitsTo_by f k).app (By.cons ⟨by omega, by omega⟩ By.nil)
mutual
theorem Tm.enc_by : (t : Tm) → t.Ok → By t.enc
  | .mk k b i f tx by' rf l fs c vr, ho => by
    obtain ⟨p1, p2, p3, p4⟩ := ho.parts
    have hk : k = 1 ∨ k = 2 ∨ k = 3 ∨ k = 4 ∨ k = 5 ∨ k = 6 ∨ k = 7 ∨ k = 8 ∨ k = 9 ∨ k = 10 := by omega
    rcases hk with rfl | rfl | rfl | rfl | rfl | rfl | rfl | rfl | rfl | rfl
    · rw [Tm.enc_1]; exact By.cons (by decide) By.nil
    · rw [Tm.enc_2]; exact By.cons (by decide) (By.cons (by cases b <;> decide) By.nil)
    · rw [Tm.enc_3]; exact By.cons (by decide) (numB_by _)
    · rw [Tm.enc_4]; exact By.cons (by decide) (bitsTo_by _ _)
    · rw [Tm.enc_5]; exact By.cons (by decide) (txtB_by _)
    · rw [Tm.enc_6]; exact By.cons (by decide) (txtB_by _)
    · rw [Tm.enc_7]; exact By.cons (by decide) (numB_by _)
    · rw [Tm.enc_8]; exact By.cons (by decide) ((numB_by _).app (TmL.enc_by l (p3 rfl)))
    · rw [Tm.enc_9]; exact By.cons (by decide) ((numB_by _).app (TmF.enc_by fs (p4 (Or.inl rfl))))
    · rw [Tm.enc_10]; exact By.cons (by decide) ((txtB_by _).app ((numB_by _).app ((numB_by _).app (TmF.enc_by fs (p4 (Or.inr rfl))))))
theorem TmL.enc_by : (l : TmL) → l.Ok → By l.enc
  | .nil, _ => By.nil
  | .cons t l, h => (Tm.enc_by t h.head.1).app (TmL.enc_by l h.head.2)
theorem TmF.enc_by : (l : TmF) → l.Ok → By l.enc
  | .nil, _ => By.nil
  | .cons n t l, h => (txtB_by n).app ((Tm.enc_by t h.head.1).app (TmF.enc_by l h.head.2))
end
theorem Decode_back (t : Tm) (he : t.all.e = 0) (hb : t.Bdd) (rest : List Int) (hby : By rest) (hl : rest.length ≤ 140737488355328) (W : World) (base g cap m : Nat) (hm : m = (t.enc ++ rest).length) (ho : Outs W base (some ⟨g, 0, none⟩) cap (t.enc ++ rest)) :
    Calls Try.prog 25 #[.slice (some ⟨g, 0, none⟩) m cap] W fun e w' => ∃ v, e = .returned (.tuple #[v, .int .i64 (t.enc.length : Int), .int .i64 0]) ∧ Below W.heap.size W w' ∧ t.V w' (Lo w'.heap.size) v := by
  subst hm
  obtain ⟨q, hq⟩ := rd_enc t rest he hb
  obtain ⟨q2, hq2⟩ := rd_enc t [] he hb
  have hle := Tm.enc_le he hb
  obtain ⟨hrd, hcp⟩ := outs_rd ho
  refine (Decode_ok (t.enc ++ rest) ((Tm.enc_by t (Tm.ok_all he)).app hby) t.clean q q2 t.enc.length hq ?_ (by simp) g 0 cap W hrd hcp (by rw [List.length_append]; omega)).mono ?_
  · rw [List.take_left]; rw [List.append_nil] at hq2; exact hq2
  · rintro e w' ⟨v, rfl, hb', hv⟩
    exact ⟨v, rfl, hb', t.V_same (Same.refl _ _) (fun k hk => hk.2) v (Tm.clean_V t v hv)⟩
theorem Skip_back (t : Tm) (he : t.all.e = 0) (hb : t.Bdd) (rest : List Int) (hby : By rest) (hl : rest.length ≤ 140737488355328) (W : World) (base g cap m : Nat) (hm : m = (t.enc ++ rest).length) (ho : Outs W base (some ⟨g, 0, none⟩) cap (t.enc ++ rest)) :
    Calls Try.prog 26 #[.slice (some ⟨g, 0, none⟩) m cap] W fun e w' => e = .returned (.tuple #[.int .i64 (t.enc.length : Int), .int .i64 0]) ∧ Below W.heap.size W w' := by
  subst hm
  obtain ⟨q, hq⟩ := rd_enc t rest he hb
  have hle := Tm.enc_le he hb
  obtain ⟨hrd, hcp⟩ := outs_rd ho
  exact Skip_ok (t.enc ++ rest) ((Tm.enc_by t (Tm.ok_all he)).app hby) t.clean q t.enc.length hq _ cap W hrd hcp (by rw [List.length_append]; omega)
end Go.Proofs.Ytjmhodngmfaboaa
