/- Rows of shapes; slices.Grow and slices.Concat of two rows of shapes. -/
import Derived.Test.YtjdjpbdfchhcfaaGreatKE37
import Derived.Test.YtjdjpbdfchhcfaaGreatKE2
import Derived.Lib.AppendZerosOnto
namespace Go.Proofs.YtjdjpbdfchhcfaaGreat
open Go.RowKit

def ptr (b : Nat) : Value := .pointer (some ⟨b, 0, none⟩)
def TyL.Pl (w : World) (B : Nat → Prop) : TyL → List Nat → Prop
  | .nil, [] => True
  | .cons t l, b :: bs => t.Sh w B b ∧ l.Pl w B bs
  | _, _ => False
theorem TyL.Pl_len {w : World} {B : Nat → Prop} : (p : TyL) → ∀ bs, p.Pl w B bs → bs.length = p.len
  | .nil, [], _ => rfl
  | .nil, _ :: _, h => by simp [TyL.Pl] at h
  | .cons _ _, [], h => by simp [TyL.Pl] at h
  | .cons t l, b :: bs, h => by simp only [TyL.Pl] at h; simp only [List.length_cons, TyL.len, TyL.Pl_len l bs h.2]
theorem TyL.Pl_app {w : World} {B : Nat → Prop} : (p q : TyL) → ∀ bs cs, p.Pl w B bs → q.Pl w B cs → (p.app q).Pl w B (bs ++ cs)
  | .nil, q, [], cs, _, h => h
  | .nil, q, _ :: _, cs, h, _ => by simp [TyL.Pl] at h
  | .cons _ _, q, [], cs, h, _ => by simp [TyL.Pl] at h
  | .cons t l, q, b :: bs, cs, h, h2 => by
    simp only [TyL.Pl] at h
    simp only [TyL.app, List.cons_append, TyL.Pl]
    exact ⟨h.1, TyL.Pl_app l q bs cs h.2 h2⟩
theorem TyL.Pl_same {w w' : World} {B B' : Nat → Prop} (hs : Same B w w') (hB : ∀ k, B k → B' k) : (p : TyL) → ∀ bs, p.Pl w B bs → p.Pl w' B' bs
  | .nil, [], _ => trivial
  | .nil, _ :: _, h => by simp [TyL.Pl] at h
  | .cons _ _, [], h => by simp [TyL.Pl] at h
  | .cons t l, b :: bs, h => by
    simp only [TyL.Pl] at h ⊢
    exact ⟨t.Sh_same hs hB b h.1, TyL.Pl_same hs hB l bs h.2⟩
theorem TyL.Sh_pl {w : World} {B : Nat → Prop} : (p : TyL) → ∀ a j, p.Sh w B a j → ∃ bs, p.Pl w B bs ∧ ∀ i b, bs[i]? = some b → ∃ g o, a = some ⟨g, o, none⟩ ∧ B g ∧ w.cell? ⟨g, o + (j + i), none⟩ = some (ptr b)
  | .nil, _, _, _ => ⟨[], trivial, fun i b h => by simp at h⟩
  | .cons t l, a, j, h => by
    simp only [TyL.Sh] at h
    obtain ⟨g, o, b, e, hg, hc, ht, hl⟩ := h
    obtain ⟨bs, h1, h2⟩ := TyL.Sh_pl l a (j + 1) hl
    refine ⟨b :: bs, ⟨ht, h1⟩, fun i b' hi => ?_⟩
    cases i with
    | zero => simp at hi; subst hi; exact ⟨g, o, e, hg, hc⟩
    | succ i => rw [show j + (i + 1) = j + 1 + i by omega]; exact h2 i b' (by simpa using hi)
theorem TyL.Pl_sh {w : World} {B : Nat → Prop} {g o : Nat} (hg : B g) : (p : TyL) → ∀ bs j, p.Pl w B bs → (∀ i b, bs[i]? = some b → w.cell? ⟨g, o + (j + i), none⟩ = some (ptr b)) → p.Sh w B (some ⟨g, o, none⟩) j
  | .nil, _, _, _, _ => by simp [TyL.Sh]
  | .cons _ _, [], _, h, _ => by simp [TyL.Pl] at h
  | .cons t l, b :: bs, j, h, hc => by
    simp only [TyL.Pl] at h
    simp only [TyL.Sh]
    refine ⟨g, o, b, rfl, hg, hc 0 b (by simp), h.1, TyL.Pl_sh hg l bs (j + 1) h.2 (fun i b' hi => ?_)⟩
    have := hc (i + 1) b' (by simpa using hi)
    rw [show j + 1 + i = j + (i + 1) by omega]; exact this
theorem own_sh {w : World} {base g n cap : Nat} {p : TyL} {bs : List Nat} {S : Nat → Prop} (ho : w.ownsRow base 60 1 (.slice (some ⟨g, 0, none⟩) n cap) n (bs.map ptr)) (hg : S g) (hp : p.Pl w S bs) : p.Sh w S (some ⟨g, 0, none⟩) 0 := by
  refine TyL.Pl_sh hg p bs 0 hp (fun i b hi => ?_)
  have := ho.cells (g := g) rfl i (ptr b) (by simp [hi])
  rw [addr_add] at this
  simpa using this
theorem ptr_one (bs : List Nat) : ∀ u ∈ bs.map ptr, u.oneCell' = true := fun u hu => by
  simp only [List.mem_map] at hu
  obtain ⟨b, -, rfl⟩ := hu
  rfl
theorem ptr_cells {w : World} {g o : Nat} {bs : List Nat} (h : ∀ j b, bs[j]? = some b → w.cell? ⟨g, o + j, none⟩ = some (ptr b)) : ∀ j u, (bs.map ptr)[j]? = some u → w.cell? ((⟨g, o, none⟩ : Addr).add j) = some u := fun j u hj => by
  rw [List.getElem?_map] at hj
  cases hb : bs[j]? with
  | none => rw [hb] at hj; simp at hj
  | some b => rw [hb] at hj; simp at hj; subst hj; rw [addr_add]; exact h j b hb

set_option maxRecDepth 100000 in
set_option maxHeartbeats 2000000 in
theorem grow_any (n : Nat) (w : World) (h0 : 0 < n) (h1 : n ≤ 1000000000) :
    Calls Tryz.prog 95 #[.slice none 0 0, .int .i64 n] w fun e w' => ∃ g cap, e = .returned (.slice (some ⟨g, 0, none⟩) 0 cap) ∧ Below w.heap.size w w' ∧ w'.ownsRow w.heap.size 60 1 (.slice (some ⟨g, 0, none⟩) 0 cap) 0 [] := by
  obtain ⟨i0, hi, hz0, hz1, hz2⟩ := info_parts Tryz.infoP
  have hrz : ∀ ty, (Builtin.append_ #[100, 3] ty #[.slice none 0 0, .int .i64 (n : Int)]).run Tryz.prog w = _ := fun ty =>
    Lib.run_append_grow_zeros w 100 3 ty 60 i0 (.pointer none) .i64 .i64 Tryz.undP (by kernel_rfl) hi hz0 none 0 0 [] (run_firstCells_none w.drew i0.size 0 0 0) n h0 (by omega) (by omega) (by omega) (by rw [hz2]; omega)
      (by rw [Nat.zero_add]; exact growslice_fits (by omega) (by rw [hz2]; omega))
  simp only [Nat.zero_add] at hrz
  have hGn : n ≤ grownCap w n 0 60 := grownCap_ge w _ _ _
  have hGm : grownCap w n 0 60 ≤ maxLen := grownCap_le_maxLen w n 0 60 (by unfold maxLen; omega)
  obtain ⟨G, hG⟩ : ∃ G, G = grownCap w n 0 60 := ⟨_, rfl⟩
  rw [← hG] at hrz hGn hGm
  have hG63 : G ≤ 9223372036854775807 := by unfold maxLen at hGm; omega
  obtain ⟨w2, hw2⟩ : ∃ w2, w2 = w.drew.alloc (.cells (([] : List Value).toArray ++ Builtin.zeroCells (Value.pointer none).cells n ++ Builtin.zeroCells (Value.pointer none).cells (G - n)) 60) := ⟨_, rfl⟩
  have HR : Hid (Below w.heap.size w w2 ∧ w2.ownsRow w.heap.size 60 1 (.slice (some ⟨w.heap.size, 0, none⟩) 0 G) 0 []) := by
    rw [hw2]
    refine ⟨(Below.refl _ _).drew.alloc (Nat.le_refl _) _, rfl, .inr ⟨w.heap.size, G, _, rfl, Nat.le_refl _, heap_alloc_new w.drew _, by omega, hGm, ?_, by simp⟩⟩
    simp [Builtin.zeroCells, Value.cells]; omega
  rw [← hw2] at hrz
  clear hw2 hG hi hz0 hz1 hz2 hGm
  have n1 : ¬ ((n : Int) < 0) := by omega
  have n2 : (n : Int) > 0 := by omega
  go_enter Tryz.func95, Tryz.ntmps95
  go_wp2_with (at_builtin; refine Lib.wpList_append_run _ rfl _ _ _ _ rfl _ _ rfl rfl _ _ (hrz _) ?_)
  go_ret
  exact ⟨_, _, rfl, HR.out⟩

set_option maxRecDepth 100000 in
set_option maxHeartbeats 4000000 in
theorem concat_any (bs1 bs2 : List Nat) (n1 n2 g1 o1 c1 g2 o2 c2 G : Nat) (w : World) (e1 : bs1.length = n1) (e2 : bs2.length = n2) (h1 : 1 ≤ n1) (h2 : 1 ≤ n2) (hsum : n1 + n2 ≤ 1000000000) (hG : G < w.heap.size)
    (hc0 : w.cell? ⟨G, 0, none⟩ = some (.slice (some ⟨g1, o1, none⟩) n1 c1)) (hc1 : w.cell? ⟨G, 1, none⟩ = some (.slice (some ⟨g2, o2, none⟩) n2 c2)) (hg1 : g1 < w.heap.size) (hg2 : g2 < w.heap.size)
    (hr1 : ∀ j b, bs1[j]? = some b → w.cell? ⟨g1, o1 + j, none⟩ = some (ptr b)) (hr2 : ∀ j b, bs2[j]? = some b → w.cell? ⟨g2, o2 + j, none⟩ = some (ptr b)) :
    Calls Tryz.prog 56 #[.slice (some ⟨G, 0, none⟩) 2 2] w fun e w' => ∃ g cap, e = .returned (.slice (some ⟨g, 0, none⟩) (n1 + n2) cap) ∧ Below w.heap.size w w' ∧ w'.ownsRow w.heap.size 60 1 (.slice (some ⟨g, 0, none⟩) (n1 + n2) cap) (n1 + n2) ((bs1 ++ bs2).map ptr) := by
  obtain ⟨i0, hi, hz0, hz1, hz2⟩ := info_parts Tryz.infoP
  have HC : Hid (∀ W, Below w.heap.size w W → W.cell? ⟨G, 0, none⟩ = some (.slice (some ⟨g1, o1, none⟩) n1 c1) ∧ W.cell? ⟨G, 1, none⟩ = some (.slice (some ⟨g2, o2, none⟩) n2 c2) ∧ (∀ j u, (bs1.map ptr)[j]? = some u → W.cell? ((⟨g1, o1, none⟩ : Addr).add j) = some u) ∧ (∀ j u, (bs2.map ptr)[j]? = some u → W.cell? ((⟨g2, o2, none⟩ : Addr).add j) = some u)) := fun W hW =>
    ⟨by rw [hW.cell (p := ⟨G, 0, none⟩) hG]; exact hc0, by rw [hW.cell (p := ⟨G, 1, none⟩) hG]; exact hc1, ptr_cells fun j b hj => by rw [hW.cell (p := ⟨g1, o1 + j, none⟩) hg1]; exact hr1 j b hj, ptr_cells fun j b hj => by rw [hW.cell (p := ⟨g2, o2 + j, none⟩) hg2]; exact hr2 j b hj⟩
  have HGr : Hid (∀ W (n : Nat), 0 < n → n ≤ 1000000000 → Calls Tryz.prog 95 #[.slice none 0 0, .int .i64 (n : Int)] W _) := fun W n a b => grow_any n W a b
  have L1 : Hid ((bs1.map ptr).length = n1 * 1 ∧ (bs2.map ptr).length = n2 * 1) := ⟨by simp [e1], by simp [e2]⟩
  clear hr1 hr2 e1 e2 hG hg1 hg2
  go_enter Tryz.func56, Tryz.ntmps56
  go_wp2_with fail
  go_loopw [3, 11] (fun s i wr => ∃ (n j : Nat), s = .int .i64 (n : Int) ∧ i = .int .i64 (j : Int) ∧ w = wr ∧ ((j = 0 ∧ n = 0) ∨ (j = 1 ∧ n = n1) ∨ (j = 2 ∧ n = n1 + n2))) (fun _ i _ => 2 - (intOf i).toNat)
  case atStart => exact ⟨0, 0, rfl, rfl, rfl, .inl ⟨rfl, rfl⟩⟩
  case round =>
    obtain ⟨n, j, rfl, rfl, rfl, hj⟩ := hrel
    rcases hj with ⟨rfl, rfl⟩ | ⟨rfl, hn⟩ | ⟨rfl, hn⟩
    · go_wp2_with fail
      go_roundw
      case rel => exact ⟨n1, 1, by go_num, by go_num, by simp⟩
      case measure => simp [intOf]
    · subst hn
      go_wp2_with fail
      go_roundw
      case rel => exact ⟨n + n2, 2, by go_num, by go_num, by simp⟩
      case measure => simp [intOf]
    · subst hn
      clear hc0 hc1
      go_wp2_with (first | (go_at_call 95; refine (HGr.out _ (n1 + n2) (by omega) (by omega)).mono ?_; rintro e w1 ⟨g0, cap0, rfl, hb1, ho1⟩))
      have H1 : Hid (Below w.heap.size w w1 ∧ w1.ownsRow w.heap.size 60 1 (.slice (some ⟨g0, 0, none⟩) 0 cap0) 0 []) := ⟨hb1, ho1⟩
      clear hb1 ho1 HGr
      go_wp2_with fail
      go_loopw [6, 27] (fun u i w2 => ∃ (g cap j m : Nat) (xs : List Value), u = .slice (some ⟨g, 0, none⟩) m cap ∧ i = .int .i64 (j : Int) ∧ ((j = 0 ∧ m = 0 ∧ xs = []) ∨ (j = 1 ∧ m = n1 ∧ xs = bs1.map ptr) ∨ (j = 2 ∧ m = n1 + n2 ∧ xs = bs1.map ptr ++ bs2.map ptr)) ∧ Hid (Below w.heap.size w w2 ∧ w2.ownsRow w.heap.size 60 1 (.slice (some ⟨g, 0, none⟩) m cap) m xs)) (fun _ i _ => 2 - (intOf i).toNat)
      case atStart => exact ⟨g0, cap0, 0, 0, [], rfl, rfl, .inl ⟨rfl, rfl, rfl⟩, H1.out⟩
      case round =>
        obtain ⟨g, cap, j, m, xs, rfl, rfl, hj, HK⟩ := hrel
        clear H1
        obtain ⟨hc0, hc1, k1, k2⟩ := HC.out wr HK.out.1
        have HX : Hid ((∀ j u, (bs1.map ptr)[j]? = some u → wr.cell? ((⟨g1, o1, none⟩ : Addr).add j) = some u) ∧ (∀ j u, (bs2.map ptr)[j]? = some u → wr.cell? ((⟨g2, o2, none⟩ : Addr).add j) = some u)) := ⟨k1, k2⟩
        have hz := HK.out.1.size
        clear k1 k2
        rcases hj with ⟨rfl, rfl, rfl⟩ | ⟨rfl, hm, hxs⟩ | ⟨rfl, hm, hxs⟩
        · go_wp2_with (at_builtin; refine wpList_app _ rfl _ _ 100 rfl w.heap.size 60 i0 (.pointer none) 1 8 Tryz.undP hi hz0 hz1 hz2 rfl (by decide) _ 0 [] rfl HK.out.2 ⟨g1, o1, none⟩ n1 c1 (bs1.map ptr) rfl L1.out.1 HX.out.1 (ptr_one bs1) h1 (by unfold maxLen; omega) (by omega) hz ?_; intro g' cap' w3 hown' hgrow ho; have HN : Hid (Below w.heap.size w w3 ∧ w3.ownsRow w.heap.size 60 1 (.slice (some ⟨g', 0, none⟩) (0 + n1) cap') (0 + n1) ([] ++ bs1.map ptr)) := ⟨HK.out.1.grown hgrow hz (fun k e => (HK.out.2.lt k e).1), hown'⟩; clear hown' hgrow ho)
          go_roundw
          case rel => exact ⟨g', cap', 1, n1, bs1.map ptr, by simp, by go_num, .inr (.inl ⟨rfl, rfl, rfl⟩), ⟨HN.out.1, by simpa using HN.out.2⟩⟩
          case measure => simp [intOf]
        · subst hm hxs
          go_wp2_with (at_builtin; refine wpList_app _ rfl _ _ 100 rfl w.heap.size 60 i0 (.pointer none) 1 8 Tryz.undP hi hz0 hz1 hz2 rfl (by decide) _ m (bs1.map ptr) rfl HK.out.2 ⟨g2, o2, none⟩ n2 c2 (bs2.map ptr) rfl L1.out.2 HX.out.2 (ptr_one bs2) h2 (by unfold maxLen; omega) (by omega) hz ?_; intro g' cap' w3 hown' hgrow ho; have HN : Hid (Below w.heap.size w w3 ∧ w3.ownsRow w.heap.size 60 1 (.slice (some ⟨g', 0, none⟩) (m + n2) cap') (m + n2) (bs1.map ptr ++ bs2.map ptr)) := ⟨HK.out.1.grown hgrow hz (fun k e => (HK.out.2.lt k e).1), hown'⟩; clear hown' hgrow ho)
          go_roundw
          case rel => exact ⟨g', cap', 2, m + n2, bs1.map ptr ++ bs2.map ptr, rfl, by go_num, .inr (.inr ⟨rfl, rfl, rfl⟩), HN.out⟩
          case measure => simp [intOf]
        · subst hm hxs
          go_wp2_with fail
          go_ret
          exact ⟨g, cap, rfl, HK.out.1, by rw [List.map_append]; exact HK.out.2⟩
end Go.Proofs.YtjdjpbdfchhcfaaGreat

