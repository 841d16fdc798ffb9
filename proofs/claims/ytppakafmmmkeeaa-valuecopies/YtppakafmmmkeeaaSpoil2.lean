/- tenonmake.Spoil at lists; spoilt; Spoil at dicts and records, and at whatever value. -/
import Derived.Test.YtppakafmmmkeeaaSpoil
namespace Go.Proofs.Ytppakafmmmkeeaa
open Go.RowKit

theorem lf_int (i : Int) : Lf (.iface 2 (.int .i64 i)) := .inr (.inl ⟨_, _, rfl, by decide, by decide, by decide, by decide⟩)
theorem lf_bool (b : Bool) : Lf (.iface 4 (.bool b)) := .inr (.inl ⟨_, _, rfl, by decide, by decide, by decide, by decide⟩)

set_option maxRecDepth 100000 in
set_option maxHeartbeats 1000000 in
theorem spoil_list (n : Nat) (HC : SpC n) (a : Option Addr) (len cap : Nat) (B : Nat → Prop) (w : World) (hlen : len ≤ 4096) (h : Rowk w B 20 1 a len cap (fun _ x => Ws w B n x ∧ Shp x)) (hB : Sub B w) :
    Calls Try.prog 21 #[.iface 63 (.slice a len cap)] w fun e w' => e = .returned (.tuple #[]) ∧ Dg B w w' := by
  obtain ⟨i0, hi, hz0, hz1, hz2⟩ := info_parts Try.infoI
  have HR0 : Hid (∀ W, Dg B w W → Rowk W B 20 1 a len cap (fun _ x => Ws W B n x ∧ Shp x)) := fun W hW => h.dg hW (fun _ x h => ⟨Ws.dg hW n x h.1, h.2⟩) (fun _ _ h => fits_list h)
  have HB : Hid (Sub B w) := hB
  have HCH : Hid (SpC n) := HC
  clear h hB HC
  go_enter Try.func21, Try.ntmps21
  go_wp2_with fail
  go_loopw [6] (fun x wr => ∃ k : Nat, x = .int .i64 k ∧ k ≤ len ∧ Hid (Dg B w wr)) (fun x _ => len - (intOf x).toNat)
  case atStart => exact ⟨0, rfl, by omega, Dg.refl _ _⟩
  case round =>
    obtain ⟨k, rfl, hk, HD⟩ := hrel
    have hi0 : (0 : Int) ≤ (k : Int) := Int.natCast_nonneg _
    by_cases hkl : k < len
    · have hi1 : (k : Int) < (len : Int) := by omega
      rcases HR0.out wr HD.out with ⟨_, rfl, _⟩ | ⟨g, cur, rfl, h2, h3, h4, h5, h6, h7⟩
      · omega
      · obtain ⟨x, hx, hws, hsh⟩ := h7 k (by omega)
        obtain ⟨c0, f0⟩ := row_cell h3 hx
        have HX : Hid (Calls Try.prog 21 #[x] wr fun e w' => e = .returned (.tuple #[]) ∧ Dg B wr w') := HCH.out x B wr hws (HD.out.sub HB.out)
        clear h2 h3 h4 h5 h6 h7 hx hws f0
        have HN : Hid (∀ w1, Dg B wr w1 → (∃ u, w1.cell? ⟨g, k, none⟩ = some u) ∧ w1.frozen? ⟨g, k, none⟩ = false ∧ Dg B w (w1.setCell ⟨g, k, none⟩ (.iface 2 (.int .i64 4711)))) := fun w1 hw1 => by
          have hd := HD.out.trans hw1
          rcases HR0.out w1 hd with ⟨e, _⟩ | ⟨g2, cur2, e, h2, h3, h4, h5, h6, h7⟩
          · simp at e
          · simp only [Option.some.injEq, Addr.mk.injEq, and_true] at e
            subst e
            obtain ⟨x2, hx2, _⟩ := h7 k (by omega)
            obtain ⟨c2, f2⟩ := row_cell h3 hx2
            exact ⟨⟨x2, c2⟩, f2, hd.trans (Dg.set h2 h3 (.inl ⟨rfl, lf_int _⟩))⟩
        rcases hsh with rfl | ⟨T, y, rfl⟩
        all_goals
          go_wp2_with fail
          refine HX.out.mono ?_
          rintro e w1 ⟨rfl, hd1⟩
          obtain ⟨⟨u, c1⟩, f1, hd2⟩ := HN.out w1 hd1
          have HN2 : Hid (Dg B w (w1.setCell ⟨g, k, none⟩ (.iface 2 (.int .i64 4711)))) := hd2
          clear hd1 hd2
          go_wp2_with fail
          go_roundw
          case rel => exact ⟨k + 1, by go_num, by omega, HN2.out⟩
          case measure => simp [intOf]; omega
    · have hi1 : ¬ ((k : Int) < (len : Int)) := by omega
      obtain ⟨xs, hxs⟩ := (HR0.out wr HD.out).owns
      have HG0 : Hid (Grw B w wr 20 1 (.slice a (len + 0) cap) (len + 0) xs) := ⟨hxs, fun q hq => .inl ((HR0.out wr HD.out).own q hq), HD.out⟩
      clear hxs
      go_wp2_with fail
      go_loopw [5, 7] (fun v x wr => ∃ (k : Nat) (a' : Option Addr) (cap' : Nat) (ys : List Value), v = .slice a' (len + k) cap' ∧ x = .int .i64 k ∧ k ≤ 20 ∧ Hid (Grw B w wr 20 1 (.slice a' (len + k) cap') (len + k) ys)) (fun _ x _ => 20 - (intOf x).toNat)
      case atStart => exact ⟨0, a, cap, xs, rfl, rfl, by omega, HG0.out⟩
      case round =>
        obtain ⟨k', a', cap', ys, rfl, rfl, hk', HG⟩ := hrel
        have hi0' : (0 : Int) ≤ (k' : Int) := Int.natCast_nonneg _
        by_cases hkl' : k' < 20
        · have hi1' : (k' : Int) < 20 := by omega
          go_wp2_with (at_builtin; refine wpList_app2 _ rfl _ _ 63 rfl 20 i0 .nilIface 1 16 Try.undL hi hz0 hz1 hz2 rfl (by decide) _ _ ys rfl (HG.out.own.alloc _) ⟨wr.heap.size, 0, none⟩ 1 1 [.iface 4 (.bool true)] rfl rfl (cell_one_new _ _ _) (one_iface _ _) (by decide) (by unfold maxLen; omega) (by omega) (fun j u hu => .inl ⟨rfl, by cases j <;> simp at hu; subst hu; exact lf_bool _⟩) ?_; intro g' cap2 w3 hown' hor hdg)
          have HN := HG.out.step HB.out rfl hown' hor hdg
          clear hown' hor hdg
          go_roundw
          case rel => exact ⟨k' + 1, some ⟨g', 0, none⟩, cap2, _, rfl, by go_num, by omega, HN⟩
          case measure => simp [intOf]; omega
        · have hi1' : ¬ ((k' : Int) < 20) := by omega
          go_wp2_with fail
          go_end0
          exact ⟨rfl, HG.out.dg⟩

def nmSpoilt : ByteArray := ⟨#[115, 112, 111, 105, 108, 116]⟩
theorem two_new (w : World) (x y : Value) (e : TypeId) : ∀ j u, [x, y][j]? = some u → (w.alloc (.cells #[x, y] e)).cell? ((⟨w.heap.size, 0, none⟩ : Addr).add j) = some u := by
  intro j u hu
  rw [addr_add]
  match j, hu with
  | 0, hu => simp at hu; subst hu; simp
  | 1, hu => simp at hu; subst hu; simp
  | j + 2, hu => simp at hu

set_option maxRecDepth 100000 in
set_option maxHeartbeats 1000000 in
theorem spoilt_any (n : Nat) (HC : SpC n) (a : Option Addr) (len cap : Nat) (B : Nat → Prop) (w : World) (hlen : len ≤ 4096) (h : WsF w B n a len cap) (hB : Sub B w) :
    Calls Try.prog 40 #[.slice a len cap] w fun e w' => e = .returned (.tuple #[]) ∧ Dg B w w' := by
  obtain ⟨i0, hi, hz0, hz1, hz2⟩ := info_parts Try.infoF
  have HR0 : Hid (∀ W, Dg B w W → WsF W B n a len cap) := fun W hW => h.dg hW (fun _ x h => ⟨h.1, fun e => ⟨Ws.dg hW n x (h.2 e).1, (h.2 e).2⟩⟩) (fun _ _ h => fits_field h)
  have HB : Hid (Sub B w) := hB
  have HCH : Hid (SpC n) := HC
  clear h hB HC
  go_enter Try.func40, Try.ntmps40
  go_wp2_with fail
  go_loopw [2] (fun x wr => ∃ k : Nat, x = .int .i64 k ∧ k ≤ len ∧ Hid (Dg B w wr)) (fun x _ => len - (intOf x).toNat)
  case atStart => exact ⟨0, rfl, by omega, Dg.refl _ _⟩
  case round =>
    obtain ⟨k, rfl, hk, HD⟩ := hrel
    have hi0 : (0 : Int) ≤ (k : Int) := Int.natCast_nonneg _
    by_cases hkl : k < len
    · have hi1 : (k : Int) < (len : Int) := by omega
      rcases HR0.out wr HD.out with ⟨_, rfl, _⟩ | ⟨g, cur, rfl, h2, h3, h4, h5, h6, h7⟩
      · omega
      · obtain ⟨x, hx, _, hws⟩ := h7 (k * 2 + 1) (by omega)
        obtain ⟨hws, hsh⟩ := hws (by omega)
        obtain ⟨c0, f0⟩ := row_cell h3 hx
        have HX : Hid (Calls Try.prog 21 #[x] wr fun e w' => e = .returned (.tuple #[]) ∧ Dg B wr w') := HCH.out x B wr hws (HD.out.sub HB.out)
        clear h2 h3 h4 h5 h6 h7 hx hws f0
        have HN : Hid (∀ w1, Dg B wr w1 → (∃ u, w1.cell? ⟨g, k * 2, none⟩ = some u) ∧ w1.frozen? ⟨g, k * 2, none⟩ = false ∧ (∃ u, w1.cell? ⟨g, k * 2 + 1, none⟩ = some u) ∧ w1.frozen? ⟨g, k * 2 + 1, none⟩ = false ∧ Dg B w ((w1.setCell ⟨g, k * 2, none⟩ (.string nmSpoilt)).setCell ⟨g, k * 2 + 1, none⟩ .nilIface)) := fun w1 hw1 => by
          have hd := HD.out.trans hw1
          rcases HR0.out w1 hd with ⟨e, _⟩ | ⟨g2, cur2, e, h2, h3, h4, h5, h6, h7⟩
          · simp at e
          · simp only [Option.some.injEq, Addr.mk.injEq, and_true] at e
            subst e
            obtain ⟨x2, hx2, _⟩ := h7 (k * 2) (by omega)
            obtain ⟨c2, f2⟩ := row_cell h3 hx2
            obtain ⟨x3, hx3, _⟩ := h7 (k * 2 + 1) (by omega)
            obtain ⟨c3, f3⟩ := row_cell h3 hx3
            refine ⟨⟨x2, c2⟩, f2, ⟨x3, c3⟩, f3, ?_⟩
            refine (hd.trans (Dg.set (v := .string nmSpoilt) h2 h3 (.inr (.inr (.inl ⟨rfl, .inl ⟨by omega, _, rfl⟩⟩))))).trans (Dg.set h2 (heap_setCell_same w1 g (k * 2) _ _ _ h3) (.inr (.inr (.inl ⟨rfl, .inr ⟨by omega, .inl rfl⟩⟩))))
        rcases hsh with rfl | ⟨T, y, rfl⟩
        all_goals
          go_wp2_with fail
          refine HX.out.mono ?_
          rintro e w1 ⟨rfl, hd1⟩
          obtain ⟨⟨u, c1⟩, f1, ⟨u2, c2⟩, f2, hd2⟩ := HN.out w1 hd1
          have HN2 : Hid (Dg B w ((w1.setCell ⟨g, k * 2, none⟩ (.string nmSpoilt)).setCell ⟨g, k * 2 + 1, none⟩ .nilIface)) := hd2
          clear hd1 hd2
          go_wp2_with fail
          go_roundw
          case rel => exact ⟨k + 1, by go_num, by omega, HN2.out⟩
          case measure => simp [intOf]; omega
    · have hi1 : ¬ ((k : Int) < (len : Int)) := by omega
      obtain ⟨xs, hxs⟩ := (HR0.out wr HD.out).owns
      have HG0 : Hid (Grw B w wr 60 2 (.slice a (len + 0) cap) (len + 0) xs) := ⟨hxs, fun q hq => .inl ((HR0.out wr HD.out).own q hq), HD.out⟩
      clear hxs
      go_wp2_with fail
      go_loopw [0, 3] (fun v x wr => ∃ (k : Nat) (a' : Option Addr) (cap' : Nat) (ys : List Value), v = .slice a' (len + k) cap' ∧ x = .int .i64 k ∧ k ≤ 20 ∧ Hid (Grw B w wr 60 2 (.slice a' (len + k) cap') (len + k) ys)) (fun _ x _ => 20 - (intOf x).toNat)
      case atStart => exact ⟨0, a, cap, xs, rfl, rfl, by omega, HG0.out⟩
      case round =>
        obtain ⟨k', a', cap', ys, rfl, rfl, hk', HG⟩ := hrel
        have hi0' : (0 : Int) ≤ (k' : Int) := Int.natCast_nonneg _
        by_cases hkl' : k' < 20
        · have hi1' : (k' : Int) < 20 := by omega
          go_wp2_with (at_builtin; refine wpList_app2 _ rfl _ _ 62 rfl 60 i0 _ 2 32 Try.undD hi hz0 hz1 hz2 rfl (by decide) _ _ ys rfl (HG.out.own.alloc _) ⟨wr.heap.size, 0, none⟩ 1 1 [.string ⟨#[103, 114, 111, 119, 110]⟩, .nilIface] rfl rfl (two_new _ _ _ _) (two_nil _) (by decide) (by unfold maxLen; omega) (by omega) (fun j u hu => .inr (.inr (.inl ⟨rfl, by
            match j, hu with
            | 0, hu => simp at hu; subst hu; exact .inl ⟨by omega, _, rfl⟩
            | 1, hu => simp at hu; subst hu; exact .inr ⟨by omega, .inl rfl⟩
            | j + 2, hu => simp at hu⟩))) ?_; intro g' cap2 w3 hown' hor hdg)
          have HN := HG.out.step HB.out rfl hown' hor hdg
          clear hown' hor hdg
          go_roundw
          case rel => exact ⟨k' + 1, some ⟨g', 0, none⟩, cap2, _, rfl, by go_num, by omega, HN⟩
          case measure => simp [intOf]; omega
        · have hi1' : ¬ ((k' : Int) < 20) := by omega
          go_wp2_with fail
          go_end0
          exact ⟨rfl, HG.out.dg⟩

set_option maxRecDepth 100000 in
set_option maxHeartbeats 1000000 in
theorem spoil_dict (n : Nat) (HC : SpC n) (a : Option Addr) (len cap : Nat) (B : Nat → Prop) (w : World) (hlen : len ≤ 4096) (h : WsF w B n a len cap) (hB : Sub B w) :
    Calls Try.prog 21 #[.iface 62 (.slice a len cap)] w fun e w' => e = .returned (.tuple #[]) ∧ Dg B w w' := by
  have HX : Hid (Calls Try.prog 40 #[.slice a len cap] w fun e w' => e = .returned (.tuple #[]) ∧ Dg B w w') := spoilt_any n HC a len cap B w hlen h hB
  clear h HC
  go_enter Try.func21, Try.ntmps21
  go_wp2_with fail
  refine HX.out.mono ?_
  rintro e w1 ⟨rfl, hd1⟩
  go_wp2_with fail
  go_end0
  exact ⟨rfl, hd1⟩
end Go.Proofs.Ytppakafmmmkeeaa
