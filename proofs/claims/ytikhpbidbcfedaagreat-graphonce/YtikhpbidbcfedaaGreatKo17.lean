/- graph.rising, graph.Reach and tenonref14.Reach. -/
import Derived.Test.YtikhpbidbcfedaaGreatKo14
import Derived.Test.YtikhpbidbcfedaaGreatKo16
import Derived.Test.YtikhpbidbcfedaaGreatKo12
import Derived.Test.YtikhpbidbcfedaaGreatKo1
namespace Go.Proofs.YtikhpbidbcfedaaGreat
open Go.RowKit Go.ChangeMaps

theorem belT {w w1 w2 : World} (h : Below w.heap.size w w1) (k : Below w1.heap.size w1 w2) : Below w.heap.size w w2 := h.trans (k.mono h.size)
def Sp.upn (L : Nat) (l : List Nat) : List Nat := (List.range L).filter fun i => decide (i ∈ l)
theorem upn_mem {L : Nat} {l : List Nat} {x : Nat} : x ∈ Sp.upn L l ↔ x < L ∧ x ∈ l := by simp [Sp.upn]
theorem upn_srt {L : Nat} {l : List Nat} (hn : l.Nodup) (hb : ∀ x ∈ l, x < L) : Sp.srt (l.map fun j : Nat => (j : Int)) = (Sp.upn L l).map fun j : Nat => (j : Int) := by
  refine ext_ltI (srt_lt ?_) ?_ fun x => ?_
  · rw [List.nodup_iff_pairwise_ne, List.pairwise_map]; exact hn.imp (by intro a b h e; exact h (by omega))
  · rw [List.pairwise_map]; exact (List.Pairwise.filter _ List.pairwise_lt_range).imp (by intro a b h; omega)
  · rw [srt_mem, List.mem_map, List.mem_map]
    exact ⟨fun ⟨y, h1, h2⟩ => ⟨y, upn_mem.2 ⟨hb y h1, h1⟩, h2⟩, fun ⟨y, h1, h2⟩ => ⟨y, (upn_mem.1 h1).2, h2⟩⟩
theorem upn_len {L : Nat} {l : List Nat} (hn : l.Nodup) (hb : ∀ x ∈ l, x < L) : (Sp.upn L l).length = l.length := by
  have h := congrArg List.length (upn_srt hn hb)
  rw [srt_len, List.length_map, List.length_map] at h
  exact h.symm
theorem IRow.of {w : World} {a : Option Addr} {l : List Nat} {c : Nat} (h : InI w a l) (hn : l = [] → a = none ∧ c = 0 ∨ ∃ b o, a = some ⟨b, o, none⟩ ∧ b < w.heap.size) : IRow w.heap.size w (.slice a l.length c) (l.map fun j : Nat => (j : Int)) := by
  by_cases hl : l = []
  · subst hl
    rcases hn rfl with ⟨rfl, rfl⟩ | ⟨b, o, rfl, hb⟩
    · exact .inl ⟨rfl, rfl⟩
    · exact .inr ⟨b, o, c, by simp, hb, fun j z hj => by simp at hj⟩
  · obtain ⟨x, hx⟩ := List.exists_mem_of_ne_nil l hl
    obtain ⟨j, hj, e⟩ := List.mem_iff_getElem.1 hx
    obtain ⟨b, o, rfl, hb, _⟩ := h j (.int .i64 (x : Nat)) (by simp [iv, hj, e])
    refine .inr ⟨b, o, c, by simp, hb, fun k z hk => ?_⟩
    obtain ⟨b', o', e1, _, h2⟩ := h k (.int .i64 z) (by simp only [iv, List.getElem?_map] at *; rw [hk]; rfl)
    simp at e1; obtain ⟨rfl, rfl⟩ := e1; exact h2

set_option maxRecDepth 100000 in
set_option maxHeartbeats 4000000 in
theorem rising_any (gb : Nat) (N : List Int) (nx : Nat → List Nat) (gn : Option Nat) (cn lo xb : Nat) (bl : Nat → Option Nat) (cp : Nat → Nat) (gs : Option Nat) (c : Nat) (l : List Nat) (w : World) (h : GR w gb N nx gn cn lo xb bl cp) (hs : NdI w gs c (l.map fun j : Nat => (j : Int))) (hd : l.Nodup) (hsb : ∀ x ∈ l, x < N.length) (hl : l.length ≤ 4096) :
    Calls Tryz.prog 29 #[.pointer (some ⟨gb, 0, none⟩), .slice (adr gs) l.length c] w (RfE w (Sp.rfs N (Sp.upn N.length l))) := by
  have hIR : IRow w.heap.size w (.slice (adr gs) l.length c) (l.map fun j : Nat => (j : Int)) := by
    refine IRow.of hs.inI (fun hl => ?_)
    subst hl
    cases gs with
    | none => exact .inl ⟨rfl, (hs.1 rfl).2⟩
    | some g => exact .inr ⟨g, 0, rfl, (hs.2 g rfl).lt⟩
  have HV : Hid (Calls Tryz.prog 52 #[.slice (adr gs) l.length c] w fun e w' => e = .returned (.func (.func 71) #[] #[.pointer (some ⟨w.heap.size, 0, none⟩)]) ∧ w' = w.alloc (.cells #[.slice (adr gs) l.length c] 60)) := (callsIn_wide (n := 1)).1 (valI_in Fence.wide 1 trivial rfl (adr gs) l.length c w)
  have hb1 : Below w.heap.size w (w.alloc (.cells #[.slice (adr gs) l.length c] 60)) := (Below.refl _ _).alloc (Nat.le_refl _) _
  have HS : Hid (Calls Tryz.prog 51 #[.func (.func 71) #[] #[.pointer (some ⟨w.heap.size, 0, none⟩)]] (w.alloc (.cells #[.slice (adr gs) l.length c] 60)) fun e W' => ∃ gs2 c2, e = .returned (.slice (adr gs2) l.length c2) ∧ NdI W' gs2 c2 ((Sp.upn N.length l).map fun j : Nat => (j : Int)) ∧ Below w.heap.size w W') := by
    have hI2 : IRow (w.alloc (.cells #[.slice (adr gs) l.length c] 60)).heap.size (w.alloc (.cells #[.slice (adr gs) l.length c] 60)) (.slice (adr gs) l.length c) (l.map fun j : Nat => (j : Int)) := by
      rcases hIR.below hb1 with h | ⟨b, off, cap, e, h1, h2⟩
      · exact .inl h
      · exact .inr ⟨b, off, cap, e, by rw [al_size]; omega, h2⟩
    refine (sortedI_any w.heap.size (.slice (adr gs) l.length c) (l.map fun j : Nat => (j : Int)) (by rw [List.length_map]; omega) _ (Boxed.new w _ _).cell hI2).mono ?_
    rintro e W' ⟨gs2, c2, rfl, h1, _, h3⟩
    rw [upn_srt hd hsb] at h1
    exact ⟨gs2, c2, by rw [List.length_map], h1, hb1.trans (h3.mono (by rw [al_size]; omega))⟩
  have HG : Hid (GR w gb N nx gn cn lo xb bl cp) := h
  have HUL : Hid ((Sp.upn N.length l).length = l.length) := upn_len hd hsb
  have hl4 := hl
  clear hIR h hs hb1
  go_enter Tryz.func29, Tryz.ntmps29
  go_wp2_with (go_at_call 52; refine HV.out.mono ?_; rintro e w1 ⟨rfl, hw1⟩; rw [hw1]; clear hw1)
  refine HS.out.mono ?_
  rintro e w2 ⟨gs2, c2, rfl, hn2, hb2⟩
  have HR : Hid (Calls Tryz.prog 32 #[.pointer (some ⟨gb, 0, none⟩), .slice (adr gs2) l.length c2] w2 (RfE w2 (Sp.rfs N (Sp.upn N.length l)))) := by
    have := refs_any gb N nx gn cn lo xb bl cp (adr gs2) c2 (Sp.upn N.length l) w2 (HG.out.keep hb2) hn2.inI (fun x hx => (upn_mem.1 hx).1) (by rw [HUL.out]; omega)
    rwa [HUL.out] at this
  have HB2 : Hid (Below w.heap.size w w2) := hb2
  clear hn2 hb2 HS HV
  go_wp2_with fail
  refine HR.out.mono ?_
  rintro e w3 ⟨gs3, c3, rfl, h1, h2, h3⟩
  have HF : Hid (NdR w3 gs3 c3 (Sp.rfs N (Sp.upn N.length l)) ∧ (∀ g, gs3 = some g → w.heap.size ≤ g) ∧ Below w.heap.size w w3) := ⟨h1, fun g hg => Nat.le_trans HB2.out.size (h2 g hg), belT HB2.out h3⟩
  clear h1 h2 h3
  go_wp2_with fail
  go_ret
  exact ⟨gs3, c3, rfl, HF.out⟩

@[go_sem] theorem fld_sp1 (a a2 : Option Addr) (n c n2 c2 : Nat) (W : World) : (Instr.field 65 (.agg #[.slice a n c, .slice a2 n2 c2]) 1).run Tryz.prog W = .ok (.slice a2 n2 c2) W := by kernel_rfl
def ReE (w : World) (r : Option (List Int)) (er : Int) (e : Ending) (w' : World) : Prop := Below w.heap.size w w' ∧ ((r = none ∧ e = .returned (.tuple #[.slice none 0 0, .int .i64 er])) ∨ ∃ l gs c, r = some l ∧ e = .returned (.tuple #[.slice (adr gs) l.length c, .int .i64 0]) ∧ NdR w' gs c l ∧ ∀ g, gs = some g → w.heap.size ≤ g)
def Sp.reach (N : List Int) (nx : Nat → List Nat) (from_ : List Int) : Option (List Int) := (Sp.pls N from_).map fun ps => Sp.rfs N (Sp.upn N.length (Bf.all nx (-1) N.length ps).ord)
theorem pls_lt {N : List Int} : ∀ {l : List Int} {ps : List Nat}, Sp.pls N l = some ps → (∀ x ∈ ps, x < N.length) ∧ ps.length = l.length
  | [], ps, h => by simp [Sp.pls] at h; subst h; simp
  | x :: l, ps, h => by
    rw [Sp.pls] at h
    split at h
    · rename_i hx
      cases hp : Sp.pls N l with
      | none => rw [hp] at h; simp at h
      | some q =>
        rw [hp] at h; simp at h; subst h
        have ih := pls_lt hp
        refine ⟨fun y hy => ?_, by simp [ih.2]⟩
        rcases List.mem_cons.1 hy with rfl | hy
        · exact List.idxOf_lt_length_of_mem hx
        · exact ih.1 y hy
    · cases h
theorem all_ok {nx : Nat → List Nat} {wo : Int} {L : Nat} {src : List Nat} (hs : ∀ x ∈ src, x < L) (hb : ∀ i, ∀ x ∈ nx i, x < L) : Bok L (Bf.all nx wo L src) := Bok.rnd (Bok.ini (Bok.no L) hs) hb L

set_option maxRecDepth 100000 in
set_option maxHeartbeats 4000000 in
theorem pReach_any (D : Nat → Prop) (gb : Nat) (N : List Int) (nx : Nat → List Nat) (a : Option Addr) (cap : Nat) (l : List Int) (w : World) (hg : GrE w D gb N nx) (hl0 : RefsAt w w.heap.size a l) (hl : l.length * 8 ≤ 140737488355328) (hn : N.length ≤ 4096) (hb : ∀ i, ∀ x ∈ nx i, x < N.length) (hnl : ∀ p, (nx p).length ≤ 4096) :
    Calls Tryz.prog 10 #[.pointer (some ⟨gb, 0, none⟩), .slice a l.length cap] w (ReE w (Sp.reach N nx l) 140) := by
  obtain ⟨gn, cn, lo, xb, bl, cp, hG⟩ := hg.gr
  have HG : Hid (GR w gb N nx gn cn lo xb bl cp) := hG
  have HP : Hid (Calls Tryz.prog 28 #[.pointer (some ⟨gb, 0, none⟩), .slice a l.length cap] w (PlE w N l)) := by
    obtain ⟨gs, c, mb, xb2, G, es, ck, bl2, cp2, lo2, h⟩ := hg
    exact placesOf_any gb mb xb2 N.length _ G es ck N a cap l w.heap.size w h.cn hl0 (Nat.le_refl _) hl
  have HSP : Hid (∀ (ps : List Nat) (a2 : Option Addr) (c2 : Nat) (W : World), Below w.heap.size w W → InI W a2 ps → (∀ x ∈ ps, x < N.length) → ps.length = l.length → Calls Tryz.prog 30 #[.pointer (some ⟨gb, 0, none⟩), .slice a2 ps.length c2, .int .i64 (-1)] W (SprE W N.length (Bf.all nx (-1) N.length ps))) := fun ps a2 c2 W hW hi hp hpl => spread_any gb N nx gn cn lo xb bl cp a2 c2 ps (-1) W (hG.keep hW) hi hp hb hn (by rw [hpl]; exact hl) hnl
  have HRI : Hid (∀ (s : Bf) (gs : Option Nat) (c : Nat) (W : World), Below w.heap.size w W → NdI W gs c (s.ord.map fun j : Nat => (j : Int)) → Bok N.length s → Calls Tryz.prog 29 #[.pointer (some ⟨gb, 0, none⟩), .slice (adr gs) s.ord.length c] W (RfE W (Sp.rfs N (Sp.upn N.length s.ord)))) := fun s gs c W hW hs hk => rising_any gb N nx gn cn lo xb bl cp gs c s.ord W (hG.keep hW) hs hk.nd hk.bd (by have := hk.len; omega)
  have HB : Hid (∀ i, ∀ x ∈ nx i, x < N.length) := hb
  clear hg hl0 hG hb hnl
  go_enter Tryz.func10, Tryz.ntmps10
  go_wp2_with fail
  refine HP.out.mono ?_
  rintro e w1 ⟨hb1, h⟩
  rcases h with ⟨hn0, rfl⟩ | ⟨ps, gs, c, hps, rfl, hnd, hlo⟩
  · have HF : Hid (Below w.heap.size w w1 ∧ Sp.reach N nx l = none) := ⟨hb1, by unfold Sp.reach; rw [hn0]; rfl⟩
    clear hb1 hn0
    go_wp2_with fail
    go_ret2
    exact ⟨HF.out.1, .inl ⟨HF.out.2, rfl⟩⟩
  · have hlt := pls_lt hps
    have HF : Hid (Below w.heap.size w w1 ∧ Sp.reach N nx l = some (Sp.rfs N (Sp.upn N.length (Bf.all nx (-1) N.length ps).ord)) ∧ Bok N.length (Bf.all nx (-1) N.length ps)) := ⟨hb1, (by unfold Sp.reach; rw [hps]; rfl), all_ok hlt.1 HB.out⟩
    have HS2 : Hid (Calls Tryz.prog 30 #[.pointer (some ⟨gb, 0, none⟩), .slice (adr gs) ps.length c, .int .i64 (-1)] w1 (SprE w1 N.length (Bf.all nx (-1) N.length ps))) := HSP.out ps (adr gs) c w1 hb1 hnd.inI hlt.1 hlt.2
    clear hb1 hps hnd hlo hlt HP HSP
    go_wp2_with fail
    refine HS2.out.mono ?_
    rintro e w2 ⟨gi, gs2, c2, rfl, _, ho2, _, _, hb2⟩
    have hbb := belT HF.out.1 hb2
    have HR2 : Hid (Calls Tryz.prog 29 #[.pointer (some ⟨gb, 0, none⟩), .slice (adr gs2) (Bf.all nx (-1) N.length ps).ord.length c2] w2 (RfE w2 (Sp.rfs N (Sp.upn N.length (Bf.all nx (-1) N.length ps).ord)))) := HRI.out _ gs2 c2 w2 hbb ho2 HF.out.2.2
    have HB2 : Hid (Below w.heap.size w w2) := hbb
    clear hbb hb2 ho2 HRI HS2
    go_wp2_with fail
    refine HR2.out.mono ?_
    rintro e w3 ⟨gs3, c3, rfl, h1, h2, h3⟩
    have HF3 : Hid (NdR w3 gs3 c3 (Sp.rfs N (Sp.upn N.length (Bf.all nx (-1) N.length ps).ord)) ∧ (∀ g, gs3 = some g → w.heap.size ≤ g) ∧ Below w.heap.size w w3) := ⟨h1, fun g hg => Nat.le_trans HB2.out.size (h2 g hg), belT HB2.out h3⟩
    clear h1 h2 h3
    go_wp2_with fail
    go_ret2
    exact ⟨HF3.out.2.2, .inr ⟨_, gs3, c3, HF.out.2.1, rfl, HF3.out.1, HF3.out.2.1⟩⟩

end Go.Proofs.YtikhpbidbcfedaaGreat

/- tenonref14.Turned: the graph whose edges go the other way. -/
namespace Go.Proofs.YtikhpbidbcfedaaGreat
open Go.RowKit Go.ChangeMaps

def Sp.bkn (nx : Nat → List Nat) (L j : Nat) : List Nat := (List.range L).filter fun i => decide (j ∈ nx i)
theorem bkn_mem {nx : Nat → List Nat} {L j x : Nat} : x ∈ Sp.bkn nx L j ↔ x < L ∧ j ∈ nx x := by simp [Sp.bkn]
theorem bkn_lt (nx : Nat → List Nat) (L j : Nat) : (Sp.bkn nx L j).Pairwise (· < ·) := List.Pairwise.filter _ List.pairwise_lt_range
theorem bkn_len (nx : Nat → List Nat) (L j : Nat) : (Sp.bkn nx L j).length ≤ L := by
  have := List.length_filter_le (fun i => decide (j ∈ nx i)) (List.range L); simpa [Sp.bkn] using this
def Sp.bks (nx : Nat → List Nat) (i k j : Nat) : List Nat := Sp.bkn nx i j ++ if j ∈ (nx i).take k then [i] else []
theorem bks_0 (nx : Nat → List Nat) (i j : Nat) : Sp.bks nx i 0 j = Sp.bkn nx i j := by simp [Sp.bks]
theorem bks_end (nx : Nat → List Nat) (i j : Nat) : Sp.bks nx i (nx i).length j = Sp.bkn nx (i + 1) j := by
  unfold Sp.bks Sp.bkn
  rw [List.take_of_length_le (Nat.le_refl _), List.range_succ, List.filter_append]
  by_cases h : j ∈ nx i <;> simp [h]
theorem bks_step {nx : Nat → List Nat} {i k j : Nat} (hlt : (nx i).Pairwise (· < ·)) (hj : (nx i)[k]? = some j) (t : Nat) : Sp.bks nx i (k + 1) t = if t = j then Sp.bks nx i k j ++ [i] else Sp.bks nx i k t := by
  have hk := (List.getElem?_eq_some_iff.1 hj).1
  have hnd : (nx i).Nodup := hlt.imp (by intro a b h; omega)
  have hno : j ∉ (nx i).take k := fun h => by
    obtain ⟨q, hq, e⟩ := List.mem_iff_getElem.1 h
    rw [List.length_take] at hq
    rw [List.getElem_take] at e
    have := nd_inj hnd (by omega) hk (e.trans (List.getElem?_eq_some_iff.1 hj).2.symm)
    omega
  unfold Sp.bks
  rw [List.take_add_one, hj]
  by_cases e : t = j
  · subst e; rw [if_pos rfl, if_neg hno, if_pos (by simp)]; simp
  · rw [if_neg e]
    congr 1
    have : (t ∈ (nx i).take k ++ (some j).toList) ↔ t ∈ (nx i).take k := by simp [e]
    simp only [this]
theorem mk_rowsT (n : Nat) (hn : n ≤ 4096) : ∃ M : Array Value, M.size = n ∧ (∀ t, t < n → M[t]? = some (.slice none 0 0)) ∧ ∀ W : World, (Instr.makeSlice 70 (.int .i64 (n : Int)) (.int .i64 (n : Int))).run Tryz.prog W = .ok (.slice (some ⟨W.heap.size, 0, none⟩) n n) (W.alloc (.cells M 60)) := by
  obtain ⟨i0, hi, hz0, hz1, hz2⟩ := info_parts Tryz.infoSl
  refine ⟨madeCells (Value.slice none 0 0).cells (((n : Nat) : Int).toNat * i0.size), by rw [size_madeCells, hz1]; simp, fun t ht => by simp [madeCells, hz1, ht, Value.cells, Nat.mod_one], fun W => ?_⟩
  have h := run_make (P := Tryz.prog) W 70 60 i0 (.slice none 0 0) Tryz.undSS hi hz0 .i64 .i64 (n : Int) (n : Int) (by omega) (by omega) (by rw [hz2]; omega) (by omega)
  simpa using h
end Go.Proofs.YtikhpbidbcfedaaGreat

/- Plain mathematics: the way that a search finds is the least of the shortest ones. -/
namespace Go.Proofs.YtikhpbidbcfedaaGreat

section
variable {nx : Nat → List Nat} {wo : Int} {L : Nat} {src : List Nat} {s : Bf}
theorem BI.fin (H : BI nx wo L src s s.ord.length []) {p z : Nat} (hp : p ∈ s.ord) (hz : z ∈ nx p) (hw : (z : Int) ≠ wo) : z ∈ s.ord ∧ (s.bq z ≠ z → s.ps (s.bq z) ≤ s.ps p) := H.cl p hp z hz hw (.inl (H.pslt hp))
theorem BI.up (H : BI nx wo L src s s.ord.length []) {x : Nat} (hx : x ∈ s.ord) (hb : s.bq x ≠ x) : s.bq x ∈ s.ord ∧ s.ps (s.bq x) < s.ps x ∧ x ∈ nx (s.bq x) ∧ s.lv x = s.lv (s.bq x) + 1 := by
  rcases H.st x hx with ⟨_, h, _⟩ | ⟨h1, h2, h3, h4, _⟩
  · exact absurd h hb
  · exact ⟨h1, h2, h3, h4⟩
theorem BI.root (H : BI nx wo L src s s.ord.length []) {x : Nat} (hx : x ∈ s.ord) (hb : s.bq x = x) : x ∈ src ∧ s.lv x = 0 := by
  rcases H.st x hx with ⟨h, _, h2⟩ | ⟨h1, h2, _⟩
  · exact ⟨h, h2⟩
  · rw [hb] at h2; omega
theorem BI.lvmono (H : BI nx wo L src s s.ord.length []) : ∀ n, ∀ x ∈ s.ord, ∀ y ∈ s.ord, s.ps y ≤ n → s.ps x ≤ s.ps y → s.lv x ≤ s.lv y := by
  intro n
  induction n with
  | zero =>
    intro x hx y hy hn hxy
    have : x = y := H.psinj hx hy (by omega)
    subst this; exact Nat.le_refl _
  | succ n ih =>
    intro x hx y hy hn hxy
    by_cases he : s.ps x = s.ps y
    · have : x = y := H.psinj hx hy he
      subst this; exact Nat.le_refl _
    · by_cases hbx : s.bq x = x
      · rw [(H.root hx hbx).2]; exact Nat.zero_le _
      · by_cases hby : s.bq y = y
        · have := H.s1 y hy x hx hby hbx; omega
        · have h1 := H.up hx hbx
          have h2 := H.up hy hby
          have h3 := (H.mo x hx y hy hbx hby (by omega)).1
          have := ih _ h1.1 _ h2.1 (by omega) h3
          omega
theorem BI.lip (H : BI nx wo L src s s.ord.length []) {p z : Nat} (hp : p ∈ s.ord) (hz : z ∈ nx p) (hw : (z : Int) ≠ wo) : s.lv z ≤ s.lv p + 1 := by
  have h := H.fin hp hz hw
  by_cases hb : s.bq z = z
  · rw [(H.root h.1 hb).2]; exact Nat.zero_le _
  · have h1 := H.up h.1 hb
    have := H.lvmono _ _ h1.1 _ hp (Nat.le_refl _) (h.2 hb)
    omega
end

def Bf.chn (s : Bf) : Nat → Nat → List Nat
  | 0, x => [x]
  | f + 1, x => if s.bq x = x then [x] else x :: s.chn f (s.bq x)
def Bf.On (s : Bf) (b : Nat) : Nat → List Nat → Prop
  | x, [] => x = b
  | x, y :: l => s.bq y = x ∧ s.bq y ≠ y ∧ y ∈ s.ord ∧ s.On b y l
def Sp.stp (nx : Nat → List Nat) (d : Nat → Int) (n : Nat) : Nat := ((nx n).find? fun v => d v == d n - 1).getD n
def Sp.lst (nx : Nat → List Nat) (d : Nat → Int) (to : Nat) : Nat → Nat → List Nat
  | 0, n => [n]
  | f + 1, n => if n = to then [n] else n :: Sp.lst nx d to f (Sp.stp nx d n)
def Bf.dst (s : Bf) (x : Nat) : Int := if x ∈ s.ord then (s.lv x : Int) else -1

theorem chn_on {nx : Nat → List Nat} {wo : Int} {L : Nat} {src : List Nat} {s : Bf} (H : BI nx wo L src s s.ord.length []) {b : Nat} : ∀ f x suf, x ∈ s.ord → s.On b x suf → s.ps x ≤ f → ∃ a suf2, (s.chn f x).reverse ++ suf = a :: suf2 ∧ s.On b a suf2 ∧ a ∈ s.ord ∧ s.bq a = a
  | 0, x, suf, hx, ho, hf => by
    have hb : s.bq x = x := Classical.byContradiction fun hb => by have := (H.up hx hb).2.1; omega
    exact ⟨x, suf, by simp [Bf.chn], ho, hx, hb⟩
  | f + 1, x, suf, hx, ho, hf => by
    by_cases hb : s.bq x = x
    · exact ⟨x, suf, by simp [Bf.chn, hb], ho, hx, hb⟩
    · have h1 := H.up hx hb
      obtain ⟨a, suf2, h2, h3⟩ := chn_on H f (s.bq x) (x :: suf) h1.1 ⟨rfl, hb, hx, ho⟩ (by omega)
      exact ⟨a, suf2, by rw [Bf.chn, if_neg hb]; simpa using h2, h3⟩
theorem on_lv {nx : Nat → List Nat} {wo : Int} {L : Nat} {src : List Nat} {s : Bf} (H : BI nx wo L src s s.ord.length []) {b : Nat} : ∀ suf x, s.On b x suf → s.lv b = s.lv x + suf.length
  | [], x, h => by have : x = b := h; subst this; rfl
  | y :: l, x, h => by
    have := on_lv H l y h.2.2.2
    have h1 := (H.up h.2.2.1 h.2.1).2.2.2
    rw [h.1] at h1
    rw [List.length_cons]; omega

section
variable {nx bk : Nat → List Nat} {L a b : Nat} {s t : Bf}
structure TwoW (nx bk : Nat → List Nat) (L a b : Nat) (s t : Bf) : Prop where
  hs : BI nx (-1) L [a] s s.ord.length []
  ht : BI bk (-1) L [b] t t.ord.length []
  tw : ∀ x y, x < L → y < L → (y ∈ nx x ↔ x ∈ bk y)
  nb : ∀ i, ∀ x ∈ nx i, x < L
  bb : ∀ i, ∀ x ∈ bk i, x < L
  nl : ∀ i, (nx i).Pairwise (· < ·)
theorem nn {x : Nat} : (x : Int) ≠ -1 := by omega
theorem TwoW.d3 (H : TwoW nx bk L a b s t) {x : Nat} (hx : x ∈ t.ord) (hb : x ≠ b) : ∃ y ∈ nx x, y ∈ t.ord ∧ t.lv x = t.lv y + 1 := by
  rcases H.ht.st x hx with ⟨h, _⟩ | ⟨h1, _, h3, h4, _⟩
  · simp at h; exact absurd h hb
  · exact ⟨t.bq x, (H.tw _ _ (H.ht.bd x hx) (H.ht.bd _ h1)).2 h3, h1, h4⟩
theorem TwoW.d2 (H : TwoW nx bk L a b s t) {x y : Nat} (hx : x < L) (hy : y ∈ nx x) (ht : y ∈ t.ord) : x ∈ t.ord ∧ t.lv x ≤ t.lv y + 1 := by
  have h1 := (H.tw x y hx (H.nb _ _ hy)).1 hy
  exact ⟨(H.ht.fin ht h1 nn).1, H.ht.lip ht h1 nn⟩
theorem TwoW.bin (H : TwoW nx bk L a b s t) : b ∈ t.ord := H.ht.sr b (by simp) nn
theorem TwoW.ain (H : TwoW nx bk L a b s t) : a ∈ s.ord := H.hs.sr a (by simp) nn
theorem TwoW.lb (H : TwoW nx bk L a b s t) : t.lv b = 0 := by
  rcases H.ht.st b H.bin with ⟨_, _, h⟩ | ⟨h1, h2, h3, h4, _⟩
  · exact h
  · by_cases hq : t.bq b = b
    · rw [hq] at h2; omega
    · have hmo := H.ht.s1
      -- who began stands ahead of all: b itself began
      have : ∃ r ∈ t.ord, t.bq r = r ∧ r ∈ [b] := by
        obtain ⟨c, _, _, _, hc, hcb⟩ := chn_on H.ht (t.ps b) b [] H.bin rfl (Nat.le_refl _)
        exact ⟨c, hc, hcb, (H.ht.root hc hcb).1⟩
      obtain ⟨r, _, hr, hrb⟩ := this
      simp at hrb; subst hrb; exact absurd hr hq
theorem TwoW.d0 (H : TwoW nx bk L a b s t) {x : Nat} (hx : x ∈ t.ord) (h : t.lv x = 0) : x = b := by
  rcases H.ht.st x hx with ⟨h1, _⟩ | ⟨_, _, _, h4, _⟩
  · simpa using h1
  · omega
theorem TwoW.there (H : TwoW nx bk L a b s t) : ∀ k x, x ∈ s.ord → x ∈ t.ord → t.lv x = k → b ∈ s.ord
  | 0, x, hx, hxt, hk => by rw [← H.d0 hxt hk]; exact hx
  | k + 1, x, hx, hxt, hk => by
    obtain ⟨y, hy, hyt, h⟩ := H.d3 hxt (fun e => by rw [e, H.lb] at hk; omega)
    exact H.there k y (H.hs.fin hx hy nn).1 hyt (by omega)
theorem TwoW.onin (H : TwoW nx bk L a b s t) : ∀ suf x, x ∈ s.ord → s.On b x suf → x ∈ t.ord
  | [], x, hx, h => by have : x = b := h; rw [this]; exact H.bin
  | y :: l, x, hx, h => by
    have h1 := H.onin l y h.2.2.1 h.2.2.2
    have h2 := (H.hs.up h.2.2.1 h.2.1).2.2.1
    rw [h.1] at h2
    exact (H.d2 (H.hs.bd x hx) h2 h1).1
theorem TwoW.both (H : TwoW nx bk L a b s t) : a ∈ t.ord ↔ b ∈ s.ord := by
  refine ⟨fun h => H.there _ a H.ain h rfl, fun h => ?_⟩
  obtain ⟨c, suf, _, h2, hc, hcb⟩ := chn_on H.hs (s.ps b) b [] h rfl (Nat.le_refl _)
  have := (H.hs.root hc hcb).1
  simp at this; subst this
  exact H.onin suf c hc h2
theorem TwoW.low (H : TwoW nx bk L a b s t) : ∀ k x, x ∈ s.ord → x ∈ t.ord → t.lv x = k → s.lv b ≤ s.lv x + k
  | 0, x, hx, hxt, hk => by rw [← H.d0 hxt hk]; exact Nat.le_refl _
  | k + 1, x, hx, hxt, hk => by
    obtain ⟨y, hy, hyt, h⟩ := H.d3 hxt (fun e => by rw [e, H.lb] at hk; omega)
    have h1 := H.low k y (H.hs.fin hx hy nn).1 hyt (by omega)
    have h2 := H.hs.lip hx hy nn
    omega
theorem TwoW.keyB (H : TwoW nx bk L a b s t) : ∀ suf y, y ∈ s.ord → s.On b y suf → ∀ v ∈ s.ord, v ∈ t.ord → t.lv v = suf.length → s.ps v < s.ps y → False
  | [], y, hy, ho, v, hv, hvt, hl, hp => by
    have h1 : y = b := ho
    have h2 := H.d0 hvt hl
    rw [h1, h2] at hp; omega
  | z :: suf, y, hy, ho, v, hv, hvt, hl, hp => by
    obtain ⟨hz1, hz2, hz3, hz4⟩ := ho
    rw [List.length_cons] at hl
    obtain ⟨v', hv', hvt', hlv⟩ := H.d3 hvt (fun e => by rw [e, H.lb] at hl; omega)
    have hf := H.hs.fin hv hv' nn
    refine H.keyB suf z hz3 hz4 v' hf.1 hvt' (by omega) ?_
    rcases Nat.lt_or_ge (s.ps v') (s.ps z) with h | h
    · exact h
    · exfalso
      by_cases hb : s.bq v' = v'
      · have := H.hs.s1 v' hf.1 z hz3 hb hz2; omega
      · have h1 := hf.2 hb
        by_cases he : s.ps z = s.ps v'
        · have e := H.hs.psinj hz3 hf.1 he
          rw [← e, hz1] at h1; omega
        · have h2 := (H.hs.mo z hz3 v' hf.1 hz2 hb (by omega)).1
          rw [hz1] at h2; omega
theorem find_first {l : List Nat} {p : Nat → Bool} {y : Nat} (hl : l.Pairwise (· < ·)) (hy : y ∈ l) (hp : p y = true) (hm : ∀ v ∈ l, p v = true → y ≤ v) : l.find? p = some y := by
  induction l with
  | nil => simp at hy
  | cons x l ih =>
    rw [List.pairwise_cons] at hl
    rw [List.find?_cons]
    rcases List.mem_cons.1 hy with e | hy
    · subst e; rw [hp]
    · cases hx : p x with
      | true => have := hm x (by simp) hx; have := hl.1 y hy; omega
      | false => exact ih hl.2 hy (fun v hv => hm v (by simp [hv]))
theorem TwoW.main (H : TwoW nx bk L a b s t) : ∀ suf x, x ∈ s.ord → s.On b x suf → t.dst x = suf.length ∧ Sp.lst nx t.dst b suf.length x = x :: suf
  | [], x, hx, ho => by
    have : x = b := ho
    subst this
    exact ⟨by simp [Bf.dst, H.bin, H.lb], rfl⟩
  | y :: suf, x, hx, ho => by
    have ho' := ho
    obtain ⟨h1, h2, h3, h4⟩ := ho
    obtain ⟨ih1, ih2⟩ := H.main suf y h3 h4
    have hyt := H.onin suf y h3 h4
    have hxt := H.onin (y :: suf) x hx ho'
    have hxy : y ∈ nx x := by have := (H.hs.up h3 h2).2.2.1; rwa [h1] at this
    have hly : t.lv y = suf.length := by simp only [Bf.dst, if_pos hyt] at ih1; omega
    have hlx : t.lv x = suf.length + 1 := by
      have e1 := (H.d2 (H.hs.bd x hx) hxy hyt).2
      have e2 := H.low _ x hx hxt rfl
      have e3 := on_lv H.hs _ x ho'
      rw [List.length_cons] at e3
      omega
    have hdx : t.dst x = (suf.length : Int) + 1 := by simp only [Bf.dst, if_pos hxt, hlx]; omega
    have hxb : x ≠ b := fun e => by rw [e, H.lb] at hlx; omega
    have hst : Sp.stp nx t.dst x = y := by
      unfold Sp.stp
      rw [find_first (y := y) (H.nl x) hxy]
      · rfl
      · rw [ih1, hdx]; simp
      · intro v hv hd
        have hd' : t.dst v = suf.length := by have : t.dst v = t.dst x - 1 := by simpa using hd
                                              rw [hdx] at this; omega
        have hvt : v ∈ t.ord := by
          by_cases hvt : v ∈ t.ord
          · exact hvt
          · simp only [Bf.dst, if_neg hvt] at hd'; omega
        have hlv : t.lv v = suf.length := by simp only [Bf.dst, if_pos hvt] at hd'; omega
        have hvs := H.hs.fin hx hv nn
        rcases Nat.lt_or_ge v y with hlt | hge
        · exfalso
          refine H.keyB suf y h3 h4 v hvs.1 hvt hlv ?_
          rcases Nat.lt_or_ge (s.ps v) (s.ps y) with h | h
          · exact h
          · exfalso
            by_cases he : s.ps y = s.ps v
            · have := H.hs.psinj h3 hvs.1 he; omega
            · by_cases hb : s.bq v = v
              · have := H.hs.s1 v hvs.1 y h3 hb h2; omega
              · have h5 := H.hs.mo y h3 v hvs.1 h2 hb (by omega)
                have h6 := hvs.2 hb
                rw [h1] at h5
                have : s.bq v = x := H.hs.psinj (H.hs.up hvs.1 hb).1 hx (by omega)
                have := h5.2 (by rw [this])
                omega
        · exact hge
    refine ⟨by rw [hdx, List.length_cons]; omega, ?_⟩
    rw [List.length_cons, Sp.lst, if_neg hxb, hst, ih2]
theorem TwoW.way (H : TwoW nx bk L a b s t) (h : b ∈ s.ord) : (s.chn (s.ps b) b).reverse = Sp.lst nx t.dst b (t.lv a) a ∧ a ∈ t.ord := by
  obtain ⟨c, suf, h1, h2, hc, hcb⟩ := chn_on H.hs (s.ps b) b [] h rfl (Nat.le_refl _)
  have := (H.hs.root hc hcb).1
  simp at this; subst this
  obtain ⟨h3, h4⟩ := H.main suf c hc h2
  have hct := H.onin suf c hc h2
  have : t.lv c = suf.length := by simp only [Bf.dst, if_pos hct] at h3; omega
  rw [this, h4]
  exact ⟨by simpa using h1, hct⟩
end
end Go.Proofs.YtikhpbidbcfedaaGreat

