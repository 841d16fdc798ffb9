/- wire.appendFields and wire.appendValue at a list, a dict, a record: by what is proved of smaller values. -/
import Derived.Test.YtadcbhdhgobknaaL29
import Derived.Test.YtadcbhdhgobknaaL26
namespace Go.Proofs.Ytadcbhdhgobknaa
open Go.RowKit

/-- the contract of appendValue at terms of at most N parts -/
def EncC (N : Nat) : Prop := ∀ (t : Tm), t.sz ≤ N → ∀ (v : Value) (base : Nat) (a : Option Addr) (cap : Nat) (xs : List Int) (w : World), t.V w (Lo base) v → t.Ok → t.Bdd → Outs w base a cap xs → xs.length + t.enc.length ≤ 140737488355328 →
  Calls Try.prog 102 #[.slice a xs.length cap, v] w (Apd base a w xs t.enc)
/-- what Apd says, its numbers hidden -/
def ApdH (base : Nat) (a : Option Addr) (w : World) (xs ys : List Int) (e : Ending) (w' : World) : Prop := ∃ m a' cap', e = .returned (.slice a' m cap') ∧ Hid (m = (xs ++ ys).length ∧ Outs w' base a' cap' (xs ++ ys) ∧ Gr base a a' w w')
theorem Apd.hid {base : Nat} {a : Option Addr} {w : World} {xs ys : List Int} {e : Ending} {w' : World} (h : Apd base a w xs ys e w') : ApdH base a w xs ys e w' := by
  obtain ⟨a', cap', rfl, h1, h2⟩ := h
  exact ⟨_, a', cap', rfl, List.length_append.symm, h1, h2⟩
theorem Apd.of {base : Nat} {a : Option Addr} {w : World} {xs ys : List Int} {m : Nat} {a' : Option Addr} {cap' : Nat} {w' : World} (hm : m = (xs ++ ys).length) (h1 : Outs w' base a' cap' (xs ++ ys)) (h2 : Gr base a a' w w') : Apd base a w xs ys (.returned (.slice a' m cap')) w' :=
  ⟨a', cap', by rw [hm, List.length_append], h1, h2⟩
theorem EncC.at {N : Nat} (HC : EncC N) {t : Tm} (hN : t.sz ≤ N) {v : Value} {base : Nat} {a : Option Addr} {cap : Nat} {xs : List Int} {w : World} {m : Nat} (hm : m = xs.length) (h : t.V w (Lo base) v) (ho : t.Ok) (hb : t.Bdd) (hx : Outs w base a cap xs) (hl : xs.length + t.enc.length ≤ 140737488355328) :
    Calls Try.prog 102 #[.slice a m cap, v] w (ApdH base a w xs t.enc) := by subst hm; exact (HC t hN v base a cap xs w h ho hb hx hl).mono fun _ _ => Apd.hid
theorem outs_lt {w : World} {base : Nat} {a : Option Addr} {cap : Nat} {xs : List Int} (h : Outs w base a cap xs) (k : Nat) (e : a.map Addr.block = some k) : base ≤ k ∧ k < w.heap.size := h.1.lt k (by rw [own_map]; exact e)
theorem outs_alloc {w : World} {base : Nat} {a : Option Addr} {cap : Nat} {xs : List Int} (h : Outs w base a cap xs) (o : Obj) : Outs (w.alloc o) base a cap xs := ⟨h.1.alloc o, by have := h.2; simp; omega⟩
theorem Gr.alloc {base : Nat} {a a' : Option Addr} {w w' : World} (h : Gr base a a' w w') (hb : base ≤ w'.heap.size) (o : Obj) : Gr base a a' w (w'.alloc o) :=
  ⟨h.1.alloc hb o, fun k hk hn => by rw [Below.heap_alloc _ _ _ (Nat.lt_of_lt_of_le hk h.1.size)]; exact h.2.1 k hk hn, h.2.2⟩

set_option maxRecDepth 100000 in
set_option maxHeartbeats 1000000 in
theorem appFields_any (N : Nat) (HC : EncC N) (L : TmF) (hN : L.sz ≤ N) (al : Option Addr) (cl : Nat) (base : Nat) (a : Option Addr) (cap : Nat) (xs : List Int) (w : World) (m : Nat) (hm : m = xs.length) (hv : L.V w (Lo base) al 0) (hll : L.len ≤ 4096) (hok : L.Ok) (hbd : L.Bdd) (h : Outs w base a cap xs) (hlen : xs.length + L.encR.length ≤ 140737488355328) :
    Calls Try.prog 135 #[.slice a m cap, .slice al L.len cl] w (Apd base a w xs L.encR) := by
  have HCH : Hid (EncC N) := HC
  have HL : Hid (xs.length + (Sp.numB L.len).length + L.enc.length ≤ 140737488355328) := by show _ ≤ _; simp [TmF.encR] at hlen; omega
  have HN : Hid (Calls Try.prog 130 #[.slice a m cap, .int .u64 (L.len : Int)] w (ApdH base a w xs (Sp.numB L.len))) := (appNum_at L.len base a cap xs w m hm (by omega) h (by have := HL.out; omega)).mono fun _ _ => Apd.hid
  have HV0 : Hid (L.V w (Lo base) al 0 ∧ L.Ok ∧ L.Bdd) := ⟨hv, hok, hbd⟩
  clear h HC hm hlen hv hok hbd
  go_enter Try.func135, Try.ntmps135
  go_wp2_with fail
  refine HN.out.mono ?_
  rintro e w1 ⟨m1, a1, cap1, rfl, H1⟩
  clear HN
  go_wp2_with fail
  go_loopw [0, 14] (fun u i wr => ∃ (m k : Nat) (a' : Option Addr) (cap' : Nat) (done : List Int) (l : TmF), u = .slice a' m cap' ∧ i = .int .i64 k ∧ l.len + k = L.len ∧ l.sz ≤ N ∧ Hid (m = (xs ++ Sp.numB L.len ++ done).length ∧ L.enc = done ++ l.enc) ∧ Hid (Outs wr base a' cap' (xs ++ Sp.numB L.len ++ done) ∧ Gr base a a' w wr ∧ l.V w (Lo base) al k ∧ l.Ok ∧ l.Bdd)) (fun _ i _ => L.len - (intOf i).toNat)
  case atStart => exact ⟨m1, 0, a1, cap1, [], L, rfl, rfl, rfl, hN, ⟨by rw [List.append_nil]; exact H1.out.1, rfl⟩, ⟨by rw [List.append_nil]; exact H1.out.2.1, H1.out.2.2, HV0.out⟩⟩
  case round =>
    obtain ⟨m, k, a', cap', done, l, rfl, rfl, hk, hlN, HM, HO⟩ := hrel
    clear H1 HV0
    cases l with
    | nil =>
      have h1 : L.len ≤ k := by simp [TmF.len] at hk; omega
      clear hk
      go_wp2_with fail
      go_ret
      have he := HM.out.2
      rw [TmF.enc, List.append_nil] at he
      refine Apd.of ?_ ?_ HO.out.2.1
      · rw [HM.out.1, TmF.encR, he, List.append_assoc]
      · rw [TmF.encR, he, ← List.append_assoc]; exact HO.out.1
    | cons nm t l =>
      obtain ⟨hout, hgr, hv, hok, hbd⟩ := HO.out
      simp only [TmF.V] at hv
      obtain ⟨g, o, v, rfl, hg, c0, c1, hnl, ht, hv'⟩ := hv
      have hg : g < base := hg
      have hlt : k < L.len := by simp [TmF.len] at hk; omega
      have HK : Hid (l.len + (k + 1) = L.len) := by show _ = _; simp [TmF.len] at hk; omega
      have htN : t.sz ≤ N ∧ l.sz ≤ N := by simp [TmF.sz] at hlN; omega
      have d0 : wr.cell? ⟨g, o + k * 2, none⟩ = some (.string nm) := by rw [hgr.1.cell (p := ⟨g, o + k * 2, none⟩) hg]; exact c0
      have d1 : wr.cell? ⟨g, o + k * 2 + 1, none⟩ = some v := by rw [hgr.1.cell (p := ⟨g, o + k * 2 + 1, none⟩) hg]; exact c1
      have HLN : Hid (((xs ++ Sp.numB L.len ++ done) ++ Sp.txtB nm).length + t.enc.length ≤ 140737488355328) := by
        show _ ≤ _
        have h1 := HL.out
        have h2 := HM.out.2
        rw [h2, TmF.enc] at h1
        simp only [List.length_append] at h1 ⊢
        omega
      have HT : Hid (∀ o, Calls Try.prog 133 #[.slice a' m cap', .string nm] (wr.alloc o) (ApdH base a' (wr.alloc o) (xs ++ Sp.numB L.len ++ done) (Sp.txtB nm))) := fun o =>
        (appText_at nm base a' cap' (xs ++ Sp.numB L.len ++ done) (wr.alloc o) m HM.out.1 (outs_alloc hout o) (by have := HLN.out; rw [List.length_append] at this; omega)).mono fun _ _ => Apd.hid
      have HNV : Hid (l.V w (Lo base) (some ⟨g, o, none⟩) (k + 1) ∧ l.Ok ∧ l.Bdd) := ⟨hv', hok.head.2, hbd.2⟩
      have HTV : Hid ((∀ W, Below base w W → t.V W (Lo base) v) ∧ t.Ok ∧ t.Bdd) := ⟨fun W hW => t.V_same (Same.of_below hW (Nat.le_refl _)) (fun _ h => h) v ht, hok.head.1, hbd.1⟩
      have HBX : Hid (∀ W, Gr base a' none (wr.alloc (.cells #[.string nm, v] 123)) W → W.cell? ⟨wr.heap.size, 0, none⟩ = some (.string nm) ∧ W.cell? ⟨wr.heap.size, 1, none⟩ = some v) := fun W hW => by
        have hblk := hW.2.1 wr.heap.size (by simp) (fun e => by have := (outs_lt hout _ e).2; omega)
        constructor
        · rw [World.cell?_of_block (w := wr.alloc (.cells #[.string nm, v] 123)) (a := ⟨wr.heap.size, 0, none⟩) hblk]; simp
        · rw [World.cell?_of_block (w := wr.alloc (.cells #[.string nm, v] 123)) (a := ⟨wr.heap.size, 1, none⟩) hblk]; simp
      have hsh := t.V_shape v ht
      have HGR : Hid (Gr base a a' w wr ∧ base ≤ wr.heap.size) := ⟨hgr, hout.2⟩
      clear hk hv' ht c0 c1 hlN hout hgr hok hbd
      rcases hsh with rfl | ⟨T, x, rfl⟩
      all_goals
        go_wp2_with fail
        refine (HT.out _).mono ?_
        rintro e w2 ⟨m2, a2, cap2, rfl, H2⟩
        obtain ⟨e0, e1⟩ := HBX.out w2 ⟨H2.out.2.2.1, H2.out.2.2.2.1, fun _ h => by simp at h⟩
        have HG2 : Hid (Gr base a a2 w w2) := (HGR.out.1.alloc HGR.out.2 _).trans H2.out.2.2
        clear HT
        go_wp2_with fail
        refine (HCH.out.at htN.1 H2.out.1 (HTV.out.1 _ HG2.out.1) HTV.out.2.1 HTV.out.2.2 H2.out.2.1 HLN.out).mono ?_
        rintro e w3 ⟨m3, a3, cap3, rfl, H3⟩
        go_wp2_with fail
        go_roundw
        case rel =>
          refine ⟨m3, k + 1, a3, cap3, done ++ (Sp.txtB nm ++ t.enc), l, rfl, by go_num, HK.out, htN.2, ⟨?_, ?_⟩, ⟨?_, HG2.out.trans H3.out.2.2, HNV.out⟩⟩
          · rw [H3.out.1]; simp only [List.append_assoc]
          · rw [HM.out.2, TmF.enc]; simp only [List.append_assoc]
          · have := H3.out.2.1; simp only [List.append_assoc] at this ⊢; exact this
        case measure => simp [intOf]; omega
end Go.Proofs.Ytadcbhdhgobknaa

/- Bytes that a function made: rows that are joined. -/
namespace Go.Proofs.Ytadcbhdhgobknaa
open Go.RowKit

/-- what a function that makes bytes answers -/
def NewB (w : World) (ys : List Int) (e : Ending) (w' : World) : Prop := ∃ g cap, e = .returned (.slice (some ⟨g, 0, none⟩) ys.length cap) ∧ Outs w' w.heap.size (some ⟨g, 0, none⟩) cap ys ∧ Below w.heap.size w w'
theorem outs_call {w w' : World} {base : Nat} {a : Option Addr} {cap : Nat} {xs : List Int} (h : Outs w base a cap xs) (hb : Below w.heap.size w w') : Outs w' base a cap xs :=
  ⟨owns_below hb h.1, Nat.le_trans h.2 hb.size⟩
end Go.Proofs.Ytadcbhdhgobknaa

