/- What quicksort's rounds come to: all that is not within the part that is left stands in order. -/
import Derived.Test.YtikhpbidbcfedaaGreatKp1
import Derived.Test.YtikhpbidbcfedaaGreatKp3
import Derived.Test.YtikhpbidbcfedaaGreatKp4
import Derived.Test.YtikhpbidbcfedaaGreatKp5
import Derived.Test.YtikhpbidbcfedaaGreatKp6
import Derived.Test.YtikhpbidbcfedaaGreatKp7
import Derived.Deep.Cut
namespace Go.Proofs.YtikhpbidbcfedaaGreat
open Go.RowKit

def Cr (a b a' b' : Nat) (d : Array Int) : Prop := ∀ i j, a ≤ i → i < j → j < b → ¬ (a' ≤ i ∧ j < b') → Sort.ltInt d[j]! d[i]! = false
section
variable {a b a' b' m : Nat} {d d' : Array Int}
theorem Cr.perm (h : Cr a b a' b' d) (hb : b' ≤ d.size) (ha : a ≤ a') (hbb : b' ≤ b) (hP : Sort.PermIn a' b' d d') : Cr a b a' b' d' := by
  intro i j h1 h2 h3 h4
  by_cases hi : a' ≤ i ∧ i < b'
  · have hj : ¬ (a' ≤ j ∧ j < b') := fun k => h4 ⟨hi.1, k.2⟩
    rw [hP.2.1 j (by omega)]
    refine Sort.permIn_all d d' a' b' (fun x => Sort.ltInt d[j]! x = false) hb hP (fun t k1 k2 => ?_) i hi.1 hi.2
    exact h t j (by omega) (by omega) h3 (by omega)
  · rw [hP.2.1 i (by omega)]
    by_cases hj : a' ≤ j ∧ j < b'
    · refine Sort.permIn_all d d' a' b' (fun x => Sort.ltInt x d[i]! = false) hb hP (fun t k1 k2 => ?_) j hj.1 hj.2
      exact h i t h1 (by omega) (by omega) (by omega)
    · rw [hP.2.1 j (by omega)]; exact h i j h1 h2 h3 h4
theorem Cr.fin (h : Cr a b a' b' d) (hs : Sort.SortedIn Sort.ltInt a' b' d) : Sort.SortedIn Sort.ltInt a b d := fun i j h1 h2 h3 => by
  by_cases h4 : a' ≤ i ∧ j < b'
  · exact hs i j h4.1 h2 h4.2
  · exact h i j h1 h2 h3 h4
theorem asym_ref {x y : Int} (h : Sort.ltInt x y = true) : Sort.ltInt y x = false := by
  unfold Sort.ltInt at *; simp at *; omega
theorem Cr.eq (h : Cr a b a' b' d) (x : Int) (hx : ∀ t, a' ≤ t → t < b' → Sort.ltInt d[t]! x = false) (h1 : ∀ t, a' ≤ t → t < m → Sort.ltInt x d[t]! = false) : Cr a b m b' d := by
  intro i j k1 k2 k3 k4
  by_cases h4 : a' ≤ i ∧ j < b'
  · exact swo_ref.ntrans _ x _ (hx j (by omega) h4.2) (h1 i h4.1 (by omega))
  · exact h i j k1 k2 k3 h4
theorem eq_below (hm : 0 < m) (ham : a' < m) (x : Int) (h1 : ∀ t, a' ≤ t → t < m → Sort.ltInt x d[t]! = false) (h2 : ∀ t, m ≤ t → t < b' → Sort.ltInt x d[t]! = true) : Sort.Below Sort.ltInt m b' d := by
  refine .inr fun i k1 k2 => ?_
  have e1 := h1 (m - 1) (by omega) (by omega)
  have e2 := h2 i k1 k2
  unfold Sort.ltInt at *; simp at *; omega
theorem Cr.left (h : Cr a b a' b' d) (hs : Sort.SortedIn Sort.ltInt a' m d) (h1 : ∀ t, a' ≤ t → t < m → Sort.ltInt d[t]! d[m]! = true) (h2 : ∀ t, m < t → t < b' → Sort.ltInt d[t]! d[m]! = false) : Cr a b (m + 1) b' d := by
  intro i j k1 k2 k3 k4
  by_cases h4 : a' ≤ i ∧ j < b'
  · by_cases hj : j < m
    · exact hs i j h4.1 k2 hj
    · by_cases hi : i = m
      · subst hi; exact h2 j k2 h4.2
      · have e1 := h1 i h4.1 (by omega)
        by_cases hjm : j = m
        · subst hjm; exact asym_ref e1
        · have e2 := h2 j (by omega) h4.2
          unfold Sort.ltInt at *; simp at *; omega
  · exact h i j k1 k2 k3 h4
theorem Cr.right (h : Cr a b a' b' d) (hs : Sort.SortedIn Sort.ltInt (m + 1) b' d) (h1 : ∀ t, a' ≤ t → t < m → Sort.ltInt d[t]! d[m]! = true) (h2 : ∀ t, m < t → t < b' → Sort.ltInt d[t]! d[m]! = false) : Cr a b a' m d := by
  intro i j k1 k2 k3 k4
  by_cases h4 : a' ≤ i ∧ j < b'
  · by_cases hi : m < i
    · exact hs i j hi k2 h4.2
    · by_cases hj : j = m
      · subst hj; exact asym_ref (h1 i h4.1 k2)
      · have e2 := h2 j (by omega) h4.2
        by_cases him : i = m
        · subst him; exact e2
        · have e1 := h1 i h4.1 (by omega)
          unfold Sort.ltInt at *; simp at *; omega
  · exact h i j k1 k2 k3 h4
theorem side_left (hP : Sort.PermIn a' m d d') (hm : m < d.size) (h1 : ∀ t, a' ≤ t → t < m → Sort.ltInt d[t]! d[m]! = true) (h2 : ∀ t, m < t → t < b' → Sort.ltInt d[t]! d[m]! = false) :
    (∀ t, a' ≤ t → t < m → Sort.ltInt d'[t]! d'[m]! = true) ∧ (∀ t, m < t → t < b' → Sort.ltInt d'[t]! d'[m]! = false) := by
  have e : d'[m]! = d[m]! := hP.2.1 m (by omega)
  refine ⟨fun t k1 k2 => ?_, fun t k1 k2 => ?_⟩
  · rw [e]; exact Sort.permIn_all d d' a' m (fun x => Sort.ltInt x d[m]! = true) (by omega) hP h1 t k1 k2
  · rw [e, hP.2.1 t (by omega)]; exact h2 t k1 k2
theorem side_right (hP : Sort.PermIn (m + 1) b' d d') (hb : b' ≤ d.size) (h1 : ∀ t, a' ≤ t → t < m → Sort.ltInt d[t]! d[m]! = true) (h2 : ∀ t, m < t → t < b' → Sort.ltInt d[t]! d[m]! = false) :
    (∀ t, a' ≤ t → t < m → Sort.ltInt d'[t]! d'[m]! = true) ∧ (∀ t, m < t → t < b' → Sort.ltInt d'[t]! d'[m]! = false) := by
  have e : d'[m]! = d[m]! := hP.2.1 m (by omega)
  refine ⟨fun t k1 k2 => ?_, fun t k1 k2 => ?_⟩
  · rw [e, hP.2.1 t (by omega)]; exact h1 t k1 k2
  · rw [e]; exact Sort.permIn_all d d' (m + 1) b' (fun x => Sort.ltInt x d[m]! = false) hb hP (fun t k1 k2 => h2 t (by omega) k2) t (by omega) k2
theorem below_perm (h : Sort.Below Sort.ltInt a' b' d) (hb : b' ≤ d.size) (hP : Sort.PermIn a' b' d d') : Sort.Below Sort.ltInt a' b' d' := Sort.Below.perm h hb hP
end
end Go.Proofs.YtikhpbidbcfedaaGreat

/- slices.pdqsortOrdered and slices.Sort at references: the row is put in order. -/
namespace Go.Proofs.YtikhpbidbcfedaaGreat
open Go.RowKit

def SoE (w : World) (blk off a b : Nat) (d : Array Int) (e : Ending) (w' : World) : Prop := e = .returned (.tuple #[]) ∧ ∃ d', Sort.PermIn a b d d' ∧ Sort.SortedIn Sort.ltInt a b d' ∧ SR w blk off d d' w'
def PQ (w : World) (blk off a b a' b' : Nat) (d dk : Array Int) (wr : World) : Prop := SR w blk off d dk wr ∧ Sort.PermIn a b d dk ∧ Sort.Below Sort.ltInt a' b' dk ∧ Cr a b a' b' dk
section
variable {w wr wx : World} {blk off a b a' b' m : Nat} {d dk d1 : Array Int}
theorem PQ.perm (h : PQ w blk off a b a' b' d dk wr) (ha : a ≤ a') (hbb : b' ≤ b) (hb : b ≤ d.size) (hP : Sort.PermIn a' b' dk d1) (hS : SR w blk off d d1 wx) : PQ w blk off a b a' b' d d1 wx :=
  ⟨hS, Sort.permIn_trans _ _ _ _ _ h.2.1 (Sort.permIn_mono _ _ _ _ _ _ ha hbb (by rw [h.1.sz]; exact hb) hP), below_perm h.2.2.1 (by rw [h.1.sz]; omega) hP, h.2.2.2.perm (by rw [h.1.sz]; omega) ha hbb hP⟩
theorem PQ.fin (h : PQ w blk off a b a' b' d dk wr) (hs : Sort.SortedIn Sort.ltInt a' b' dk) : SoE w blk off a b d (.returned (.tuple #[])) wr := ⟨rfl, dk, h.2.1, h.2.2.2.fin hs, h.1⟩
theorem PQ.eq (h : PQ w blk off a b a' b' d dk wr) (ha : a ≤ a') (hbb : b' ≤ b) (hb : b ≤ d.size) (h0 : 0 < a') (x : Int) (hx : Sort.ltInt dk[a' - 1]! x = false) (hP : Sort.PermIn a' b' dk d1) (hS : SR w blk off d d1 wx) (ham : a' < m) (h1 : ∀ t, a' ≤ t → t < m → Sort.ltInt x d1[t]! = false) (h2 : ∀ t, m ≤ t → t < b' → Sort.ltInt x d1[t]! = true) : PQ w blk off a b m b' d d1 wx := by
  have k := h.perm ha hbb hb hP hS
  refine ⟨k.1, k.2.1, eq_below (by omega) ham x h1 h2, k.2.2.2.eq x (fun t k1 k2 => ?_) h1⟩
  have e : d1[a' - 1]! = dk[a' - 1]! := hP.2.1 _ (by omega)
  rcases k.2.2.1 with h0' | hB
  · omega
  · exact swo_ref.ntrans _ _ _ (hB t k1 k2) (by rw [e]; exact hx)
theorem PQ.left {d2 : Array Int} (h : PQ w blk off a b a' b' d d1 wr) (ha : a ≤ a') (hbb : b' ≤ b) (hb : b ≤ d.size) (hm2 : m < b') (h1 : ∀ t, a' ≤ t → t < m → Sort.ltInt d1[t]! d1[m]! = true) (h2 : ∀ t, m < t → t < b' → Sort.ltInt d1[t]! d1[m]! = false)
    (hP : Sort.PermIn a' m d1 d2) (hs : Sort.SortedIn Sort.ltInt a' m d2) (hS : SR w blk off d d2 wx) : PQ w blk off a b (m + 1) b' d d2 wx := by
  have hz : d1.size = d.size := h.1.sz
  have hP2 : Sort.PermIn a' b' d1 d2 := Sort.permIn_mono _ _ _ _ _ _ (Nat.le_refl _) (by omega) (by omega) hP
  have k := h.perm ha hbb hb hP2 hS
  obtain ⟨g1, g2⟩ := side_left (b' := b') hP (by omega) h1 h2
  refine ⟨k.1, k.2.1, .inr fun i k1 k2 => ?_, k.2.2.2.left hs g1 g2⟩
  rw [Nat.add_sub_cancel]; exact g2 i (by omega) k2
theorem PQ.right {d2 : Array Int} (h : PQ w blk off a b a' b' d d1 wr) (ha : a ≤ a') (hbb : b' ≤ b) (hb : b ≤ d.size) (hm : a' ≤ m) (hm2 : m < b') (h1 : ∀ t, a' ≤ t → t < m → Sort.ltInt d1[t]! d1[m]! = true) (h2 : ∀ t, m < t → t < b' → Sort.ltInt d1[t]! d1[m]! = false)
    (hP : Sort.PermIn (m + 1) b' d1 d2) (hs : Sort.SortedIn Sort.ltInt (m + 1) b' d2) (hS : SR w blk off d d2 wx) : PQ w blk off a b a' m d d2 wx := by
  have hz : d1.size = d.size := h.1.sz
  have hP2 : Sort.PermIn a' b' d1 d2 := Sort.permIn_mono _ _ _ _ _ _ (by omega) (Nat.le_refl _) (by omega) hP
  have k := h.perm ha hbb hb hP2 hS
  obtain ⟨g1, g2⟩ := side_right (a' := a') hP (by omega) h1 h2
  refine ⟨k.1, k.2.1, ?_, k.2.2.2.right hs g1 g2⟩
  rcases k.2.2.1 with h0 | h0
  · exact .inl h0
  · exact .inr fun i k1 k2 => h0 i k1 (by omega)
theorem part_below (h1 : ∀ t, m < t → t < b' → Sort.ltInt d1[t]! d1[m]! = false) : Sort.Below Sort.ltInt (m + 1) b' d1 := .inr fun i k1 k2 => by rw [Nat.add_sub_cancel]; exact h1 i (by omega) k2
theorem below_mono (h : Sort.Below Sort.ltInt a' b' d1) (hm : m ≤ b') : Sort.Below Sort.ltInt a' m d1 := h.imp id fun h i k1 k2 => h i k1 (by omega)
end

set_option maxRecDepth 1000000 in
set_option maxHeartbeats 12800000 in
theorem pdq_ref : ∀ (N blk off cap a b limit : Nat) (d : Array Int) (w : World), b - a < N → Sort.Holds (Value.int .u64) w blk off d → blk < w.heap.size → a ≤ b → b ≤ d.size → d.size < 4611686018427387904 → limit < 4611686018427387904 → Sort.Below Sort.ltInt a b d →
    Calls Tryz.prog 68 #[.slice (some ⟨blk, off, none⟩) d.size cap, .int .i64 a, .int .i64 b, .int .i64 limit] w (SoE w blk off a b d) := by
  intro N
  induction N with
  | zero => intro _ _ _ _ _ _ _ _ h; exact absurd h (Nat.not_lt_zero _)
  | succ N ih =>
    intro blk off cap a b limit d w hN hH hblk hab hb hsz hlimit hBel0
    have H0 : Hid (PQ w blk off a b a b d d w) := ⟨SR.refl hH hblk, Sort.permIn_refl _ _ _, hBel0, fun i j h1 h2 h3 h4 => absurd ⟨h1, h3⟩ h4⟩
    clear hH hblk hBel0
    go_enter Tryz.func68, Tryz.ntmps68
    go_wp2
    go_loopg [1, 2, 3, 8, 9] (b - a) (fun k s1 s2 s3 s8 s9 wr => ∃ (a' b' lim : Nat) (wb wp : Bool) (dk : Array Int), s1 = .int .i64 a' ∧ s2 = .int .i64 b' ∧ s3 = .int .i64 lim ∧ s8 = .bool wb ∧ s9 = .bool wp ∧
      a ≤ a' ∧ a' ≤ b' ∧ b' ≤ b ∧ b' - a' ≤ k ∧ k ≤ b - a ∧ lim ≤ limit ∧ dk.size = d.size ∧ Hid (PQ w blk off a b a' b' d dk wr))
    case atStart => exact ⟨a, b, limit, true, true, d, rfl, rfl, rfl, rfl, rfl, Nat.le_refl _, hab, Nat.le_refl _, Nat.le_refl _, Nat.le_refl _, Nat.le_refl _, rfl, H0.out⟩
    case round =>
      obtain ⟨a', b', lim, wb, wp, dk, rfl, rfl, rfl, rfl, rfl, haa, hab', hbb, hk, hkN, hlim, hds, HK⟩ := hrel
      clear H0
      by_cases h12 : b' - a' ≤ 12
      · have h12z : (b' : Int) - (a' : Int) ≤ 12 := by omega
        have hc := ins_ref blk off cap a' b' dk wr HK.out.1.holds HK.out.1.blt hab' (by omega) (by omega)
        rw [hds] at hc
        go_wp2_with (go_at_call 85; refine hc.mono ?_; rintro e w1 ⟨rfl, hw1⟩)
        (try simp only [Exit.inBlock, Exit.then]); refine bodyPost_ret (results_none rfl _ _ _) rfl ?_
        obtain ⟨p1, p2⟩ := Sort.insertionSort_holds swo_ref dk a' b' hab' (by omega)
        exact (HK.out.perm haa hbb hb p1 (HK.out.1.trans hw1)).fin p2
      · have h12z : ¬ ((b' : Int) - (a' : Int) ≤ 12) := by omega
        by_cases hl0 : lim = 0
        · subst hl0
          have hc := heap_ref blk off cap dk a' b' wr HK.out.1.holds HK.out.1.blt hab' (by omega) (by omega)
          rw [hds] at hc
          go_wp2_with (go_at_call 86; refine hc.mono ?_; rintro e w1 ⟨rfl, hw1⟩)
          (try simp only [Exit.inBlock, Exit.then]); refine bodyPost_ret (results_none rfl _ _ _) rfl ?_
          obtain ⟨p1, p2⟩ := Sort.heapSort_holds swo_ref dk a' b' hab' (by omega)
          exact (HK.out.perm haa hbb hb p1 (HK.out.1.trans hw1)).fin p2
        · have hl0z : ¬ ((lim : Int) = 0) := by omega
          go_upto_if 35 with fail
          go_cut [3] from 19 (fun s3 wc => ∃ (l2 : Nat) (d1 : Array Int), s3 = .int .i64 l2 ∧ l2 ≤ lim ∧ d1.size = d.size ∧ Hid (PQ w blk off a b a' b' d d1 wc))
          case first =>
            cases wb
            · have hc := brk_ref blk off cap a' (b' - a') dk wr HK.out.1.holds HK.out.1.blt (by omega) (by omega) (by omega)
              rw [hds, show a' + (b' - a') = b' by omega] at hc
              go_wp2_with (go_at_call 87; refine hc.mono ?_; rintro e w1 ⟨rfl, d1, p1, hw1⟩)
              go_meet
              case rel =>
                have S1 := HK.out.1.trans hw1
                exact ⟨lim - 1, d1, by congr 1; omega, by omega, S1.sz, HK.out.perm haa hbb hb p1 S1⟩
            · go_wp2_with fail
              go_meet
              case rel => exact ⟨lim, dk, rfl, Nat.le_refl _, hds, HK.out⟩
          case rest =>
            obtain ⟨l2, d1, rfl, hl2, hs1, H1⟩ := hcut
            clear HK
            have hc17 := cho_ref blk off cap a' b' d1 wc H1.out.1.holds H1.out.1.blt (by omega) (by omega) (by omega)
            rw [hs1] at hc17
            go_upto_if 50 with (go_at_call 88; refine hc17.mono ?_; rintro e w2 ⟨p, hn, rfl, hp1, hp2, hhn, hw2⟩)
            have H2 : Hid (PQ w blk off a b a' b' d d1 w2) := H1.out.perm haa hbb hb (Sort.permIn_refl _ _ _) (H1.out.1.trans hw2)
            clear hc17 H1 hw2
            go_cut [11, 12] from 19 (fun s11 s12 wc => ∃ (p : Nat) (hn : Int) (d2 : Array Int), s11 = .int .i64 p ∧ s12 = .int .i64 hn ∧ a' ≤ p ∧ p < b' ∧ d2.size = d.size ∧ Hid (PQ w blk off a b a' b' d d2 wc))
            case first =>
              by_cases hh : hn = 2
              · subst hh
                have hc18 := rev_ref blk off cap d1 a' b' w2 H2.out.1.holds H2.out.1.blt hab' (by omega) (by omega)
                rw [hs1] at hc18
                go_wp2_with (go_at_call 89; refine hc18.mono ?_; rintro e w3 ⟨rfl, d2, p2, hw3⟩)
                go_meet
                case rel =>
                  have S2 := H2.out.1.trans hw3
                  exact ⟨b' - 1 - (p - a'), 1, d2, by congr 1; omega, rfl, by omega, by omega, S2.sz, H2.out.perm haa hbb hb p2 S2⟩
              · go_wp2_with fail
                go_meet
                case rel => exact ⟨p, hn, d1, rfl, rfl, hp1, hp2, hs1, H2.out⟩
            case rest =>
              obtain ⟨p, hn, d2, rfl, rfl, hp1, hp2, hs2, H3⟩ := hcut
              clear H2
              go_upto_region 15 with fail
              go_cut [12, 68] from 19 (fun s12 s68 wx => s12 = .int .i64 hn ∧ (∃ b68 : Bool, s68 = .bool b68) ∧ wx = wc)
              case first =>
                cases wb <;> cases wp <;> by_cases h3 : hn = 1 <;>
                  (go_wp2_with fail
                   go_meet
                   exact ⟨rfl, ⟨_, rfl⟩, rfl⟩)
              case rest =>
                obtain ⟨rfl, ⟨b68, rfl⟩, rfl⟩ := hcut
                go_upto_if 68 with fail
                go_cut [] from 19 (fun wx => ∃ d3 : Array Int, d3.size = d.size ∧ Hid (PQ w blk off a b a' b' d d3 wx))
                case first =>
                  cases b68
                  · go_wp2_with fail
                    go_meet
                    case rel => exact ⟨d2, hs2, H3.out⟩
                  · have hc19 := pis_ref blk off cap a' b' d2 wc H3.out.1.holds H3.out.1.blt (by omega) (by omega) (by omega)
                    obtain ⟨p1, p2⟩ := Sort.partialInsertionSort_holds swo_ref d2 a' b' (by omega) (by omega) H3.out.2.2.1
                    rw [hs2] at hc19
                    obtain ⟨d3, r3, h3⟩ : ∃ d3 r3, Sort.partialInsertionSort Sort.ltInt d2 a' b' = (d3, r3) := ⟨_, _, rfl⟩
                    rw [h3] at hc19 p1 p2
                    clear h3
                    have P1 : Hid (Sort.PermIn a' b' d2 d3) := p1
                    have P2 : Hid (r3 = true → Sort.SortedIn Sort.ltInt a' b' d3) := p2
                    clear p1 p2
                    cases r3
                    · go_wp2_with (go_at_call 90; refine hc19.mono ?_; rintro e w4 ⟨rfl, hw4⟩)
                      go_meet
                      case rel =>
                        have S3 := H3.out.1.trans hw4
                        exact ⟨d3, S3.sz, H3.out.perm haa hbb hb P1.out S3⟩
                    · go_wp2_with (go_at_call 90; refine hc19.mono ?_; rintro e w4 ⟨rfl, hw4⟩)
                      (try simp only [Exit.inBlock, Exit.then]); refine bodyPost_ret (results_none rfl _ _ _) rfl ?_
                      exact (H3.out.perm haa hbb hb P1.out (H3.out.1.trans hw4)).fin (P2.out (by simp))
                case rest =>
                  obtain ⟨d3, hs3, H5⟩ := hcut
                  clear H3
                  obtain ⟨G, hG⟩ : ∃ G : Nat → Int, ∀ t, G t = d3[t]! := ⟨fun t => d3[t]!, fun _ => rfl⟩
                  have hcw : ∀ t, t < d.size → wc.cell? ⟨blk, off + t, none⟩ = some (.int .u64 (G t)) := fun t ht => by rw [hG]; exact (H5.out.1.holds t (by omega)).1
                  have hfw : ∀ t, t < d.size → wc.frozen? ⟨blk, off + t, none⟩ = false := fun t ht => (H5.out.1.holds t (by omega)).2
                  have AG : Hid (∀ t, G t = d3[t]!) := hG
                  clear hG
                  go_upto_region 17 with fail
                  go_cut [87] from 19 (fun s87 wx => ∃ b87 : Bool, s87 = .bool b87 ∧ Hid ((b87 = true → 0 < a' ∧ Sort.ltInt d3[a' - 1]! d3[p]! = false) ∧ PQ w blk off a b a' b' d d3 wx))
                  case first =>
                    rcases Nat.eq_zero_or_pos a' with ha0 | ha0
                    · have ha0z : decide ((a' : Int) > 0) = false := decide_eq_false (by omega)
                      go_big_quiet (first | (go_at_call 91; refine Calls.quiet_of_same (less_ref _ _ _)))
                      go_wp2_with fail
                      go_meet
                      case rel => exact ⟨false, rfl, (fun h => by cases h), H5.out.perm haa hbb hb (Sort.permIn_refl _ _ _) (H5.out.1.drewN _)⟩
                    · have ha0z : (a' : Int) > 0 := by omega
                      go_big_quiet (first | (go_at_call 91; refine Calls.quiet_of_same (less_ref _ _ _)))
                      go_wp2_with fail
                      go_meet
                      case rel => exact ⟨!Sort.ltInt (G (a' - 1)) (G p), rfl, fun h => ⟨ha0, by rw [← AG.out, ← AG.out]; simpa using h⟩, H5.out.perm haa hbb hb (Sort.permIn_refl _ _ _) (H5.out.1.drewN _)⟩
                  case rest =>
                    clear hcw hfw AG H5
                    obtain ⟨b87, rfl, H6⟩ := hcut
                    cases b87
                    · have hc22 := part_ref blk off cap a' b' p d3 wc H6.out.2.1.holds H6.out.2.1.blt hp1 hp2 (by omega) (by omega)
                      rw [hs3] at hc22
                      go_upto_if 113 with (go_at_call 93; refine hc22.mono ?_; rintro e w7 ⟨mid, d4, ap, rfl, r1, r2, r3, hw7, r4, r5⟩)
                      have H7 : Hid (PQ w blk off a b a' b' d d4 w7) := H6.out.2.perm haa hbb hb r3 (H6.out.2.1.trans hw7)
                      have R4 : Hid (∀ t, a' ≤ t → t < mid → Sort.ltInt d4[t]! d4[mid]! = true) := r4
                      have R5 : Hid (∀ t, mid < t → t < b' → Sort.ltInt d4[t]! d4[mid]! = false) := r5
                      have hs4 : d4.size = d.size := H7.out.1.sz
                      clear r3 r4 r5 hw7 hc22 H6
                      by_cases h4 : mid - a' < b' - mid
                      · have h4z : (mid : Int) - (a' : Int) < (b' : Int) - (mid : Int) := by omega
                        have hih := ih blk off cap a' mid l2 d4 w7 (by omega) H7.out.1.holds H7.out.1.blt (by omega) (by omega) (by omega) (by omega) (below_mono H7.out.2.2.1 (by omega))
                        rw [hs4] at hih
                        go_wp2_with (go_at_call 68; refine hih.mono ?_; rintro e w8 ⟨rfl, d5, q1, q2, hw8⟩)
                        go_roundg (b' - (mid + 1))
                        case measure => omega
                        case rel =>
                          have S5 := H7.out.1.trans hw8
                          exact ⟨mid + 1, b', l2, _, ap, d5, by simp, rfl, rfl, rfl, rfl, by omega, by omega, hbb, Nat.le_refl _, by omega, by omega, S5.sz, H7.out.left haa hbb hb r2 R4.out R5.out q1 q2 S5⟩
                      · have h4z : ¬ ((mid : Int) - (a' : Int) < (b' : Int) - (mid : Int)) := by omega
                        have hih := ih blk off cap (mid + 1) b' l2 d4 w7 (by omega) H7.out.1.holds H7.out.1.blt (by omega) (by omega) (by omega) (by omega) (part_below R5.out)
                        rw [hs4] at hih
                        go_wp2_with (go_at_call 68; refine hih.mono ?_; rintro e w8 ⟨rfl, d5, q1, q2, hw8⟩)
                        go_roundg (mid - a')
                        case measure => omega
                        case rel =>
                          have S5 := H7.out.1.trans hw8
                          exact ⟨a', mid, l2, _, ap, d5, rfl, rfl, rfl, rfl, rfl, by omega, by omega, by omega, Nat.le_refl _, by omega, by omega, S5.sz, H7.out.right haa hbb hb r1 r2 R4.out R5.out q1 q2 S5⟩
                    · have hc21 := peq_ref blk off cap a' b' p d3 wc H6.out.2.1.holds H6.out.2.1.blt hp1 hp2 (by omega) (by omega)
                      rw [hs3] at hc21
                      obtain ⟨ha0, hx⟩ := H6.out.1 rfl
                      have HX : Hid (Sort.ltInt d3[a' - 1]! d3[p]! = false) := hx
                      clear hx
                      go_wp2_with (go_at_call 92; refine hc21.mono ?_; rintro e w7 ⟨mid, d4, rfl, r1, r2, r3, hw7, r4, r5⟩)
                      go_roundg (b' - mid)
                      case measure => omega
                      case rel =>
                        have S5 := H6.out.2.1.trans hw7
                        exact ⟨mid, b', l2, wb, wp, d4, rfl, rfl, rfl, rfl, rfl, by omega, r2, hbb, Nat.le_refl _, by omega, by omega, S5.sz, H6.out.2.eq haa hbb hb ha0 _ HX.out r3 S5 r1 r4 r5⟩

set_option maxRecDepth 100000 in
set_option maxHeartbeats 4000000 in
theorem sort_ref (blk off cap : Nat) (d : Array Int) (w : World) (hH : Sort.Holds (Value.int .u64) w blk off d) (hblk : blk < w.heap.size) (hsz : d.size < 4611686018427387904) :
    Calls Tryz.prog 48 #[.slice (some ⟨blk, off, none⟩) d.size cap] w fun e w' =>
      e = .returned (.tuple #[]) ∧ SR w blk off d (d.toList.mergeSort fun x y => decide (x ≤ y)).toArray w' := by
  obtain ⟨k, hk⟩ : ∃ k, k = Sort.bitsLen d.size := ⟨_, rfl⟩
  have hLen : ∀ W, Calls Tryz.prog 60 #[.int .u64 (d.size : Int)] W fun e w' => e = .returned (.int .i64 (k : Nat)) ∧ w' = W := fun W => by
    have h := Tryz.bits_Len (d.size : Int) W (by omega) (by omega)
    rw [Int.toNat_natCast, bitLen_eq _ (by omega), ← hk] at h; exact h
  have hk2 : k ≤ 62 := by rw [hk]; exact (Sort.bitsLen_le_iff d.size 62).2 (by omega)
  clear hk
  have hc := pdq_ref (d.size + 1) blk off cap 0 d.size k d w (by omega) hH hblk (Nat.zero_le _) (Nat.le_refl _) hsz (by omega) (.inl rfl)
  go_enter Tryz.func48, Tryz.ntmps48
  go_wp2_with (first | (go_at_call 60; refine (hLen _).mono ?_; rintro e w' ⟨rfl, rfl⟩) | (go_at_call 68; refine hc.mono ?_; rintro e w1 ⟨rfl, d', p1, p2, hw1⟩))
  go_end0
  refine ⟨rfl, ?_⟩
  have e := Sort.sorted_unique_holds (lt := Sort.ltInt) swo_ref (fun x y h1 h2 => by unfold Sort.ltInt at *; simp at *; omega) d d' p1 p2
  have e2 : (fun x y : Int => !Sort.ltInt y x) = fun x y => decide (x ≤ y) := by
    funext x y; unfold Sort.ltInt; by_cases h : y < x <;> simp [h] <;> omega
  rw [e2] at e
  rw [← e]; exact hw1
end Go.Proofs.YtikhpbidbcfedaaGreat

/- slices.Sort of a row of references with nothing in it, a nil one too. -/
namespace Go.Proofs.YtikhpbidbcfedaaGreat
open Go.RowKit

set_option maxRecDepth 100000 in
set_option maxHeartbeats 4000000 in
theorem ins_none (p : Option Addr) (cap : Nat) (w : World) : Calls Tryz.prog 85 #[.slice p 0 cap, .int .i64 0, .int .i64 0] w fun e w' => e = .returned (.tuple #[]) ∧ w' = w := by
  go_enter Tryz.func85, Tryz.ntmps85
  go_wp2
  go_loopw [6] (fun vi wr => vi = .int .i64 1 ∧ wr = w) (fun _ _ => 0)
  case atStart => exact ⟨rfl, rfl⟩
  case round =>
    obtain ⟨rfl, rfl⟩ := hrel
    go_wp2
    go_end0
    exact ⟨rfl, rfl⟩
set_option maxRecDepth 100000 in
set_option maxHeartbeats 4000000 in
theorem pdq_none (p : Option Addr) (cap : Nat) (w : World) : Calls Tryz.prog 68 #[.slice p 0 cap, .int .i64 0, .int .i64 0, .int .i64 0] w fun e w' => e = .returned (.tuple #[]) ∧ w' = w := by
  go_enter Tryz.func68, Tryz.ntmps68
  go_wp2
  go_loopg [1, 2, 3, 8, 9] 0 (fun _ s1 s2 s3 s8 s9 wr => s1 = .int .i64 0 ∧ s2 = .int .i64 0 ∧ s3 = .int .i64 0 ∧ s8 = .bool true ∧ s9 = .bool true ∧ wr = w)
  case atStart => exact ⟨rfl, rfl, rfl, rfl, rfl, rfl⟩
  case round =>
    obtain ⟨rfl, rfl, rfl, rfl, rfl, rfl⟩ := hrel
    go_wp2_with (go_at_call 85; refine (ins_none _ _ _).mono ?_; rintro e w1 ⟨rfl, rfl⟩)
    (try simp only [Exit.inBlock, Exit.then]); refine bodyPost_ret (results_none rfl _ _ _) rfl ?_
    exact ⟨rfl, rfl⟩
set_option maxRecDepth 100000 in
set_option maxHeartbeats 4000000 in
theorem sort_none (p : Option Addr) (cap : Nat) (w : World) : Calls Tryz.prog 48 #[.slice p 0 cap] w fun e w' => e = .returned (.tuple #[]) ∧ w' = w := by
  have hLen : ∀ W, Calls Tryz.prog 60 #[.int .u64 0] W fun e w' => e = .returned (.int .i64 0) ∧ w' = W := fun W => Tryz.bits_Len 0 W (by omega) (by omega)
  go_enter Tryz.func48, Tryz.ntmps48
  go_wp2_with (first | (go_at_call 60; refine (hLen _).mono ?_; rintro e w' ⟨rfl, rfl⟩) | (go_at_call 68; refine (pdq_none _ _ _).mono ?_; rintro e w1 ⟨rfl, rfl⟩))
  go_end0
  exact ⟨rfl, rfl⟩
end Go.Proofs.YtikhpbidbcfedaaGreat

