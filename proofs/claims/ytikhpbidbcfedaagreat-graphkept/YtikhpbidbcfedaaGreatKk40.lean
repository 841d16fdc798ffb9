/- tenonlaw14.lives: the document's first example. -/
import Derived.Test.YtikhpbidbcfedaaGreatKk34
import Derived.Test.YtikhpbidbcfedaaGreatKk28
import Derived.Test.YtikhpbidbcfedaaGreatKk36
import Derived.Test.YtikhpbidbcfedaaGreatKk39
namespace Go.Proofs.YtikhpbidbcfedaaGreat
open Go.RowKit Go.ChangeMaps

def E0 : List (Int × Int) := [(1, 2), (2, 3), (3, 2), (1, 4)]
def N0 : List Int := [1, 2, 3, 4]
theorem ex_srt : Sp.srt [4, 2, 3, 1] = N0 := ext_ltI (srt_lt (by decide)) (by decide) fun x => by rw [srt_mem, N0]; simp; omega
theorem ex_mk : Sp.mkE [4, 2, 3, 1] E0 = 0 := by decide +kernel
theorem ex_rgs : Sp.rgs (Sp.nx N0 E0) 4 4 = [1, 2] := by decide
theorem ex_npt : Sp.npt (Sp.nx N0 E0) 4 = 3 := by decide
theorem ex_ord : Sp.ord (Sp.nx N0 E0) 4 4 = none := by decide +kernel
theorem ex_path : Sp.path N0 (Sp.nx N0 E0) 1 3 = some [1, 2, 3] := by decide
theorem ex_keeps : Sp.keeps N0 (Sp.nx N0 E0) [1] 2 = some [2, 3] := by decide
theorem ex_nb (i x : Nat) (h : x ∈ Sp.nx N0 E0 i) : x < N0.length := (nx_mem.1 h).1
theorem ex_rch (wo : Int) (x : Nat) : Rch (Sp.nx N0 E0) wo [0] x ↔ x ∈ (Bf.all (Sp.nx N0 E0) wo 4 [0]).ord := (all_rch (L := 4) (nx_lt N0 E0) (fun i x h => ex_nb i x h) (by decide)).symm
theorem ex_krp : KrP N0 (Sp.nx N0 E0) [1] 3 2 true 0 := by
  refine .inr (.inr ⟨[0], 1, by decide, by decide, by decide, ?_, rfl, .inr ⟨1, rfl, rfl, rfl⟩⟩)
  have e : Sp.wy (Bf.all (Sp.nx N0 E0) (-1) N0.length [0]) (N0.idxOf 3) = [0, 1, 2] := by decide
  rw [e]
  refine .inr ⟨1, 1, by decide, rfl, rfl, ⟨by decide, (ex_rch _ _).2 (by decide), fun h => ?_⟩, fun i x h1 h2 _ => ?_⟩
  · have := (ex_rch _ _).1 h
    revert this; decide
  · simp at h2; omega

set_option maxRecDepth 100000 in
set_option maxHeartbeats 8000000 in
theorem lives_any (w : World) : Calls Tryz.prog 8 #[] w fun e w' => e = .returned (.bool true) ∧ Below w.heap.size w w' := by
  obtain ⟨W2, hW2⟩ : ∃ W2, (w.alloc (.cells #[.int .u64 4, .int .u64 2, .int .u64 3, .int .u64 1] 25)).alloc (.cells #[.int .u64 1, .int .u64 2, .int .u64 2, .int .u64 3, .int .u64 3, .int .u64 2, .int .u64 1, .int .u64 4] 38) = W2 := ⟨_, rfl⟩
  have hb2 : Below w.heap.size w W2 := by rw [← hW2]; exact ((Below.refl _ _).alloc (Nat.le_refl _) _).alloc (by rw [al_size]; omega) _
  have hz2 : W2.heap.size = w.heap.size + 1 + 1 := by rw [← hW2, al_size, al_size]
  have h20 : W2.heap[w.heap.size]? = some (.cells #[.int .u64 4, .int .u64 2, .int .u64 3, .int .u64 1] 25 (0, 0)) := by rw [← hW2]; exact (Below.heap_alloc _ _ _ (by rw [al_size]; omega)).trans (heap_alloc_new w _)
  have h21 : W2.heap[w.heap.size + 1]? = some (.cells #[.int .u64 1, .int .u64 2, .int .u64 2, .int .u64 3, .int .u64 3, .int .u64 2, .int .u64 1, .int .u64 4] 38 (0, 0)) := by
    rw [← hW2]; have := heap_alloc_new (w.alloc (.cells #[.int .u64 4, .int .u64 2, .int .u64 3, .int .u64 1] 25)) (.cells #[.int .u64 1, .int .u64 2, .int .u64 2, .int .u64 3, .int .u64 3, .int .u64 2, .int .u64 1, .int .u64 4] 38 (0, 0)); rwa [al_size] at this
  have hRA : RefsAt W2 W2.heap.size (some ⟨w.heap.size, 0, none⟩) [4, 2, 3, 1] := by
    refine ⟨fun t u hu => ⟨w.heap.size, 0, rfl, by omega, ?_⟩, fun h => (by cases h), fun x hx => by simp at hx; omega⟩
    rcases t with _ | _ | _ | _ | t <;> simp [World.cell?, h20, rv] at hu ⊢
    all_goals exact hu
  have hEA : EdgesAt W2 W2.heap.size (some ⟨w.heap.size + 1, 0, none⟩) E0 := by
    refine ⟨fun t e he => ⟨w.heap.size + 1, 0, rfl, by omega, ?_⟩, fun h => (by cases h), fun x hx => by simp [E0] at hx; rcases hx with rfl | rfl | rfl | rfl <;> decide⟩
    rcases t with _ | _ | _ | _ | t <;> simp [World.cell?, h21, E0] at he ⊢
    all_goals subst he; exact ⟨rfl, rfl⟩
  have HM := Make_any (some ⟨w.heap.size, 0, none⟩) 4 [4, 2, 3, 1] (some ⟨w.heap.size + 1, 0, none⟩) 4 E0 W2.heap.size W2 hRA hEA (Nat.le_refl _) (by decide) (by decide)
  rw [ex_mk] at HM
  have HM : Hid (Calls Tryz.prog 9 #[.slice (some ⟨w.heap.size, 0, none⟩) 4 4, .slice (some ⟨w.heap.size + 1, 0, none⟩) 4 4] W2 fun e w' => ∃ p, e = .returned (.tuple #[.pointer p, .int .i64 0]) ∧ MkE W2 [4, 2, 3, 1] E0 p w') := HM
  have HB2 : Hid (Below w.heap.size w W2) := hb2
  clear hb2 h20 h21 hRA hEA
  go_enter Tryz.func8, Tryz.ntmps8
  go_wp2_with fail
  refine HM.out.mono ?_
  rintro e w3 ⟨p, rfl, hb3, hok, -⟩
  obtain ⟨gb, rfl, hg⟩ := hok ex_mk
  rw [ex_srt] at hg
  have hnl : ∀ p, (Sp.nx N0 E0 p).length ≤ 4096 := fun p => by
    have := List.length_filter_le (fun j => decide ((N0.getD p 0, N0.getD j 0) ∈ E0)) (List.range N0.length)
    simp [Sp.nx] at this ⊢
    have h4 : N0.length = 4 := rfl
    omega
  have HGE : Hid (∀ W : World, Below w3.heap.size w3 W → ∃ D, GrE W D gb N0 (Sp.nx N0 E0)) := fun W hW => ⟨_, hg.keep (fun k hk => hW.block k hk.2)⟩
  have HKP : Hid (∀ (W : World) (a : Nat), Below w3.heap.size w3 W → RefsAt W W.heap.size (some ⟨a, 0, none⟩) [1] → Calls Tryz.prog 20 #[.pointer (some ⟨gb, 0, none⟩), .slice (some ⟨a, 0, none⟩) 1 1, .int .u64 2] W (ReE W (some [2, 3]) 140)) := fun W a hW hr => by
    obtain ⟨D, h⟩ := HGE.out W hW
    have := pKeeps_any D gb N0 (Sp.nx N0 E0) (some ⟨a, 0, none⟩) 1 [1] 2 W h hr (by decide) (by decide) (by decide) (by decide) ex_nb hnl
    rwa [ex_keeps] at this
  have HKR : Hid (∀ (W : World) (a : Nat), Below w3.heap.size w3 W → RefsAt W W.heap.size (some ⟨a, 0, none⟩) [1] → Calls Tryz.prog 21 #[.pointer (some ⟨gb, 0, none⟩), .slice (some ⟨a, 0, none⟩) 1 1, .int .u64 3] W fun e w' => e = .returned (.tuple #[.int .u64 2, .bool true, .int .i64 0]) ∧ Below W.heap.size W w') := fun W a hW hr => by
    obtain ⟨D, h⟩ := HGE.out W hW
    refine (pKeeper_any D gb N0 (Sp.nx N0 E0) (some ⟨a, 0, none⟩) 1 [1] 3 W h hr (by decide) (by decide) (by decide) (by decide) ex_nb hnl (nx_lt N0 E0)).mono ?_
    rintro e w' ⟨q1, y, b, er, rfl, q2⟩
    obtain ⟨rfl, rfl, rfl⟩ := q2.one ex_krp
    exact ⟨rfl, q1⟩
  have HRI : Hid (∀ W : World, Below w3.heap.size w3 W → Calls Tryz.prog 19 #[.pointer (some ⟨gb, 0, none⟩)] W (RiE W [2, 3])) := fun W hW => by
    obtain ⟨D, h⟩ := HGE.out W hW
    have := Ring_any gb N0 (Sp.nx N0 E0) W h.gr ex_nb (by decide) hnl (nx_lt N0 E0)
    rwa [show N0.length = 4 from rfl, ex_rgs, show Sp.rfs N0 [1, 2] = [2, 3] from rfl] at this
  have HPA : Hid (∀ W : World, Below w3.heap.size w3 W → Calls Tryz.prog 11 #[.pointer (some ⟨gb, 0, none⟩), .int .u64 1, .int .u64 3] W (ReE W (some [1, 2, 3]) (Sp.pathE N0 1 3))) := fun W hW => by
    obtain ⟨D, h⟩ := HGE.out W hW
    have := pPath_any D gb N0 (Sp.nx N0 E0) 1 3 W h (by decide) (by decide) (by decide) ex_nb hnl (nx_lt N0 E0)
    rwa [ex_path] at this
  have HOR : Hid (∀ W : World, Below w3.heap.size w3 W → Calls Tryz.prog 18 #[.pointer (some ⟨gb, 0, none⟩)] W (OrE W none)) := fun W hW => by
    obtain ⟨D, h⟩ := HGE.out W hW
    have := Order_any gb N0 (Sp.nx N0 E0) W h.gr ex_nb (by decide) hnl
    rwa [show N0.length = 4 from rfl, ex_ord] at this
  have HPT : Hid (∀ W : World, Below w3.heap.size w3 W → Calls Tryz.prog 15 #[.pointer (some ⟨gb, 0, none⟩)] W fun e w' => ∃ a c, e = .returned (.slice a 3 c) ∧ Below W.heap.size W w') := fun W hW => by
    obtain ⟨D, h⟩ := HGE.out W hW
    have := Parts_any gb N0 (Sp.nx N0 E0) W h.grp ex_nb (by decide) hnl (nx_lt N0 E0)
    rwa [show N0.length = 4 from rfl, ex_npt] at this
  have HB3 : Hid (Below w.heap.size w w3) := belT HB2.out hb3
  have HRN : Hid (∀ W : World, RefsAt (W.alloc (.cells #[.int .u64 1] 25)) (W.alloc (.cells #[.int .u64 1] 25)).heap.size (some ⟨W.heap.size, 0, none⟩) [1]) := fun W => by
    have hn := heap_alloc_new W (.cells #[.int .u64 1] 25 (0, 0))
    refine ⟨fun t u hu => ⟨W.heap.size, 0, rfl, by rw [al_size]; omega, ?_⟩, fun h => (by cases h), fun x hx => by simp at hx; omega⟩
    rcases t with _ | t
    · simp only [World.cell?, hn]; simp [rv] at hu ⊢; exact hu
    · simp [rv] at hu
  have HZ : Hid (∀ W : World, Below w3.heap.size w3 W → Below w3.heap.size w3 (W.alloc (.cells #[.int .u64 1] 25))) := fun W hW => hW.alloc hW.size _
  clear hb3 hok hg hnl HM HGE hW2 hz2
  go_wp2_with fail
  have HC1 := HKP.out _ w3.heap.size (HZ.out w3 (Below.refl _ _)) (HRN.out w3)
  refine HC1.mono ?_
  rintro e w4 ⟨hb4, h⟩
  rcases h with ⟨h, _⟩ | ⟨l, gs, c, hl, rfl, hn1, _⟩
  · cases h
  injection hl with hl
  subst hl
  have HB4 : Hid (Below w3.heap.size w3 w4 ∧ NdR w4 gs c [2, 3]) := ⟨belT (HZ.out w3 (Below.refl _ _)) hb4, hn1⟩
  clear hb4 hn1 HC1
  go_wp2_with fail
  have HC2 := HKR.out _ w4.heap.size (HZ.out w4 HB4.out.1) (HRN.out w4)
  refine HC2.mono ?_
  rintro e w5 ⟨rfl, hb5⟩
  have hb45 : Below w4.heap.size w4 w5 := by
    have h1 : Below w4.heap.size w4 (w4.alloc (.cells #[.int .u64 1] 25)) := (Below.refl _ _).alloc (Nat.le_refl _) _
    exact belT h1 hb5
  have HB5 : Hid (Below w3.heap.size w3 w5 ∧ NdR w5 gs c [2, 3]) := ⟨belT HB4.out.1 hb45, HB4.out.2.keep (fun g hg => hb45.block g (HB4.out.2.2 g hg).lt)⟩
  clear hb5 hb45 HC2 HB4
  go_wp2_with fail
  refine (HRI.out w5 HB5.out.1).mono ?_
  rintro e w6 ⟨gs6, c6, rfl, hn6, _, hb6⟩
  have HB6 : Hid (Below w3.heap.size w3 w6 ∧ NdR w6 gs c [2, 3] ∧ NdR w6 gs6 c6 [2, 3]) := ⟨belT HB5.out.1 hb6, HB5.out.2.keep (fun g hg => hb6.block g (HB5.out.2.2 g hg).lt), hn6⟩
  clear hn6 hb6 HB5
  go_wp2_with fail
  refine (HPA.out w6 HB6.out.1).mono ?_
  rintro e w7 ⟨hb7, h⟩
  rcases h with ⟨h, _⟩ | ⟨l7, gs7, c7, hl7, rfl, hn7, _⟩
  · cases h
  injection hl7 with hl7
  subst hl7
  have HB7 : Hid (Below w3.heap.size w3 w7 ∧ NdR w7 gs c [2, 3] ∧ NdR w7 gs6 c6 [2, 3] ∧ NdR w7 gs7 c7 [1, 2, 3]) := ⟨belT HB6.out.1 hb7, HB6.out.2.1.keep (fun g hg => hb7.block g (HB6.out.2.1.2 g hg).lt), HB6.out.2.2.keep (fun g hg => hb7.block g (HB6.out.2.2.2 g hg).lt), hn7⟩
  clear hn7 hb7 HB6
  go_wp2_with fail
  refine (HOR.out w7 HB7.out.1).mono ?_
  rintro e w8 ⟨hb8, h⟩
  rcases h with ⟨_, rfl⟩ | ⟨l8, gs8, c8, h, _⟩
  rotate_left
  · cases h
  have HB8 : Hid (Below w3.heap.size w3 w8 ∧ NdR w8 gs c [2, 3] ∧ NdR w8 gs6 c6 [2, 3] ∧ NdR w8 gs7 c7 [1, 2, 3]) := ⟨belT HB7.out.1 hb8, HB7.out.2.1.keep (fun g hg => hb8.block g (HB7.out.2.1.2 g hg).lt), HB7.out.2.2.1.keep (fun g hg => hb8.block g (HB7.out.2.2.1.2 g hg).lt), HB7.out.2.2.2.keep (fun g hg => hb8.block g (HB7.out.2.2.2.2 g hg).lt)⟩
  clear hb8 HB7
  obtain ⟨g1, rfl, x10⟩ := HB8.out.2.1.at_ (i := 0) (x := 2) rfl
  obtain ⟨g2, rfl, x20⟩ := HB8.out.2.2.1.at_ (i := 0) (x := 2) rfl
  obtain ⟨g3, rfl, x31⟩ := HB8.out.2.2.2.at_ (i := 1) (x := 2) rfl
  have x11 : w8.cell? ⟨g1, 1, none⟩ = some (.int .u64 3) := by
    obtain ⟨g, e, h⟩ := HB8.out.2.1.at_ (i := 1) (x := 3) rfl
    injection e with e; subst e; exact h
  have ad1 : adr (some g1) = some ⟨g1, 0, none⟩ := rfl
  have ad2 : adr (some g2) = some ⟨g2, 0, none⟩ := rfl
  have ad3 : adr (some g3) = some ⟨g3, 0, none⟩ := rfl
  have HC := HPT.out w8 HB8.out.1
  have HCC : Hid (Calls Tryz.prog 15 #[.pointer (some ⟨gb, 0, none⟩)] w8 fun e w' => ∃ a c, e = .returned (.slice a 3 c) ∧ Below w8.heap.size w8 w') := HC
  clear HC
  go_wp2_with fail
  refine HCC.out.mono ?_
  rintro e w9 ⟨a9, c9, rfl, hb9⟩
  have HF : Hid (Below w.heap.size w w9) := belT (belT HB3.out HB8.out.1) hb9
  clear hb9
  go_wp2_with fail
  go_ret
  exact ⟨rfl, HF.out⟩
end Go.Proofs.YtikhpbidbcfedaaGreat

/- tenonref14.Has and tenonlaw14.edge: whether a node, whether an edge is among some. -/
namespace Go.Proofs.YtikhpbidbcfedaaGreat
open Go.RowKit Go.ChangeMaps

def RfV (w : World) (a : Option Addr) (l : List Int) : Prop := ∀ t x, l[t]? = some x → ∃ b o, a = some ⟨b, o, none⟩ ∧ w.cell? ⟨b, o + t, none⟩ = some (.int .u64 x)
theorem RefsAt.rfv {w : World} {B : Nat} {a : Option Addr} {l : List Int} (h : RefsAt w B a l) : RfV w a l := fun t x hx => by
  obtain ⟨b, o, e, _, h2⟩ := h.row t (.int .u64 x) (by simp [hx])
  exact ⟨b, o, e, by simpa using h2⟩
theorem NdR.rfv {w : World} {gs : Option Nat} {c : Nat} {l : List Int} (h : NdR w gs c l) : RfV w (adr gs) l := fun t x hx => by
  obtain ⟨g, rfl, h2⟩ := h.at_ hx
  exact ⟨g, 0, rfl, by simpa using h2⟩
theorem RfV.keep {w w' : World} {a : Option Addr} {l : List Int} (h : RfV w a l) (hb : Below w.heap.size w w') : RfV w' a l := fun t x hx => by
  obtain ⟨b, o, e, h2⟩ := h t x hx
  exact ⟨b, o, e, by rw [World.cell?_of_block (w := w) (hb.block b (World.block_lt_of_cell? _ _ h2))]; exact h2⟩
theorem RfV.take {w : World} {a : Option Addr} {l : List Int} (h : RfV w a l) (k : Nat) : RfV w a (l.take k) := fun t x hx => by
  rw [List.getElem?_take] at hx
  split at hx
  · exact h t x hx
  · cases hx

set_option maxRecDepth 100000 in
set_option maxHeartbeats 8000000 in
theorem rHas_any (a : Option Addr) (cap : Nat) (l : List Int) (x : Int) (w : World) (h : RfV w a l) (hl : l.length ≤ 70368744177664) :
    Calls Tryz.prog 12 #[.slice a l.length cap, .int .u64 x] w fun e w' => e = .returned (.bool (decide (x ∈ l))) ∧ Below w.heap.size w w' := by
  have H : Hid (RfV w a l) := h
  clear h
  go_enter Tryz.func12, Tryz.ntmps12
  go_wp2_with fail
  go_loopw [5] (fun v3 wr => ∃ i : Nat, v3 = .int .i64 i ∧ i ≤ l.length ∧ x ∉ l.take i ∧ Hid (Below w.heap.size w wr)) (fun v3 _ => l.length - (intOf v3).toNat)
  case atStart => exact ⟨0, rfl, Nat.zero_le _, by simp, Below.refl _ _⟩
  case round =>
    obtain ⟨i, rfl, hi, hno, HS⟩ := hrel
    by_cases hlt : i < l.length
    · have hltz : (i : Int) < (l.length : Int) := by omega
      obtain ⟨y, hy⟩ : ∃ e, l[i]? = some e := ⟨_, List.getElem?_eq_getElem hlt⟩
      obtain ⟨b, o, rfl, hc⟩ := H.out i y hy
      have hcr : wr.cell? ⟨b, o + i, none⟩ = some (.int .u64 y) := by rw [World.cell?_of_block (w := w) (HS.out.block b (World.block_lt_of_cell? _ _ hc))]; exact hc
      have hin : y = x → x ∈ l := fun e => e ▸ List.mem_of_getElem? hy
      have hnx : y ≠ x → x ∉ l.take (i + 1) := fun e => by
        rw [List.take_add_one, hy]; simp only [Option.toList, List.mem_append, List.mem_singleton]
        rintro (h | h); exact hno h; exact e h.symm
      clear hy hc hno
      by_cases hxy : y = x
      · have HIN : x ∈ l := hin hxy
        subst hxy
        clear hin hnx
        go_wp2_with fail
        go_ret
        exact ⟨by rw [decide_eq_true HIN]; rfl, HS.out⟩
      · have hnn := hnx hxy
        clear hin hnx
        go_wp2_with fail
        go_roundw
        case rel => exact ⟨i + 1, by go_num, by omega, hnn, HS.out⟩
        case measure => simp [intOf]; omega
    · obtain rfl : l.length = i := by omega
      rw [List.take_length] at hno
      go_wp2_with fail
      go_ret
      exact ⟨by rw [decide_eq_false hno]; rfl, HS.out⟩

def EgV (w : World) (a : Option Addr) (E : List (Int × Int)) : Prop := ∀ t x, E[t]? = some x → ∃ b o, a = some ⟨b, o, none⟩ ∧ w.cell? ⟨b, o + t * 2, none⟩ = some (.int .u64 x.1) ∧ w.cell? ⟨b, o + t * 2 + 1, none⟩ = some (.int .u64 x.2)
theorem EgV.keep {w w' : World} {a : Option Addr} {E : List (Int × Int)} (h : EgV w a E) (hb : Below w.heap.size w w') : EgV w' a E := fun t x hx => by
  obtain ⟨b, o, e, h2, h3⟩ := h t x hx
  exact ⟨b, o, e, by rw [World.cell?_of_block (w := w) (hb.block b (World.block_lt_of_cell? _ _ h2))]; exact h2, by rw [World.cell?_of_block (w := w) (hb.block b (World.block_lt_of_cell? _ _ h2))]; exact h3⟩
theorem EdgesAt.egv {w : World} {B : Nat} {a : Option Addr} {E : List (Int × Int)} (h : EdgesAt w B a E) : EgV w a E := fun t x hx => by
  obtain ⟨b, o, e, _, h2, h3⟩ := h.1 t x hx
  exact ⟨b, o, e, h2, h3⟩
end Go.Proofs.YtikhpbidbcfedaaGreat

