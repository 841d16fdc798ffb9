/- types.fits: a type that is wrong by itself, or without parts. -/
import Derived.Test.YtjdjpbdfchhcfaaGreatKE19
import Derived.Test.YtjdjpbdfchhcfaaGreatKE20
namespace Go.Proofs.YtjdjpbdfchhcfaaGreat
open Go.RowKit

set_option maxRecDepth 100000 in
set_option maxHeartbeats 4000000 in
theorem fits_a (N : Nat) (HC : FitC N) (k o : Int) (t : Tm) (p : TyL) (hN : p.sz ≤ N) (n : List ByteArray) (l : List Bool) (op : Bool) (c : ByteArray) (cs : Array Value) (w : World) (wb : Nat) (m d : Int) (h : (Ty.mk k o t p n l op c).In w (Lo wb) cs) (hc : Cnt w wb m) (h0 : 0 ≤ m) (h1 : m ≤ 16384) (h2 : 0 ≤ d) (h3 : d ≤ 65) (b1 : 16384 < m + 1) :
    Calls Tryz.prog 108 #[.pointer (some ⟨wb, 0, none⟩), .agg cs, .int .i64 d] w (FitE wb ((Ty.mk k o t p n l op c).fit d m) w) := by
  have hlt := hc.lt
  have hkeep : p.sz ≤ N ∧ 0 ≤ d ∧ d ≤ 65 := ⟨hN, h2, h3⟩
  clear hkeep
  obtain ⟨RES, HRES⟩ : ∃ RES : Bool × Int, Hid (RES = (Ty.mk k o t p n l op c).fit d m) := ⟨_, show _ = _ from rfl⟩
  rw [← HRES.out]
  have HOW : Hid (∀ W, Below wb w W → wb < W.heap.size → Calls Tryz.prog 124 #[.agg cs] W fun e w' => e = .returned (.bool (Ty.mk k o t p n l op c).own) ∧ Below W.heap.size W w') := fun W hW hz => ownFits_any _ cs (Lo wb) W ((Ty.mk k o t p n l op c).In_same (Same.of_below hW (Nat.le_refl _)) (fun _ hk => hk) cs h) (fun k hk => Nat.lt_trans hk hz)
  obtain ⟨hsz, HONE⟩ := Ty.In_cells h
  obtain ⟨ap, cp, hz, hp, hpn, hpy⟩ := Ty.In_parts h
  have HP0 : Hid (p.In w (Lo wb) ap 0) := hp
  have HPN : Hid (Sp.parted k = false → ∀ W, Calls Tryz.prog 125 #[.agg cs] W fun e w' => e = .returned (.slice none 0 0) ∧ Below W.heap.size W w') := hpn
  have HPY : Hid (Sp.parted k = true → ∀ W, Calls Tryz.prog 125 #[.agg cs] W fun e w' => e = .returned (.slice ap p.len cp) ∧ Below W.heap.size W w') := hpy
  have HCH : Hid (FitC N) := HC
  obtain ⟨W1, HW1⟩ : ∃ W1, (w.alloc (.cells cs 34)).setCell ⟨wb, 0, none⟩ (.int .i64 (m + 1)) = W1 := ⟨_, rfl⟩
  have HF1 : Hid (Cnt W1 wb (m + 1) ∧ Below wb w W1 ∧ W1.heap.size = w.heap.size + 1 ∧ W1.heap[w.heap.size]? = some (.cells cs 34 (0, 0))) := by
    rw [← HW1]
    refine ⟨(hc.on ((Below.refl _ _).alloc (Nat.le_refl _) _)).put _, ((Below.refl wb w).alloc (by omega) _).setCell (p := ⟨wb, 0, none⟩) (Nat.le_refl _) _, by simp [World.setCell], ?_⟩
    rw [Below.heap_setCell _ _ _ _ (by show w.heap.size ≠ wb; omega)]
    exact heap_alloc_new w _
  have HL1 : Hid ((loadVar 34 ⟨w.heap.size, 0, none⟩).run Tryz.prog W1 = .ok (.agg cs) W1) := yld hsz HF1.out.2.2.2
  obtain ⟨c0, f0⟩ := hc.cell
  obtain ⟨c0', f0'⟩ := HF1.out.1.cell
  have hz1 := HF1.out.2.2.1
  clear hc HC h hp hpn hpy HONE
  have HX : Hid (RES = (false, m + 1)) := by show _ = _; rw [HRES.out, Ty.fit, if_pos (.inl b1)]
  go_enter Tryz.func108, Tryz.ntmps108
  go_wp2_with ((with_reducible refine ld_row ?_ ?_ HL1.out ?_); rfl; rfl)
  go_ret
  exact FitE.of HX.out HF1.out.1 HF1.out.2.1

set_option maxRecDepth 100000 in
set_option maxHeartbeats 4000000 in
theorem fits_b (N : Nat) (HC : FitC N) (k o : Int) (t : Tm) (p : TyL) (hN : p.sz ≤ N) (n : List ByteArray) (l : List Bool) (op : Bool) (c : ByteArray) (cs : Array Value) (w : World) (wb : Nat) (m d : Int) (h : (Ty.mk k o t p n l op c).In w (Lo wb) cs) (hc : Cnt w wb m) (h0 : 0 ≤ m) (h1 : m ≤ 16384) (h2 : 0 ≤ d) (h3 : d ≤ 65) (b1 : ¬ 16384 < m + 1) (b2 : 64 < d) :
    Calls Tryz.prog 108 #[.pointer (some ⟨wb, 0, none⟩), .agg cs, .int .i64 d] w (FitE wb ((Ty.mk k o t p n l op c).fit d m) w) := by
  have hlt := hc.lt
  have hkeep : p.sz ≤ N ∧ 0 ≤ d ∧ d ≤ 65 := ⟨hN, h2, h3⟩
  clear hkeep
  obtain ⟨RES, HRES⟩ : ∃ RES : Bool × Int, Hid (RES = (Ty.mk k o t p n l op c).fit d m) := ⟨_, show _ = _ from rfl⟩
  rw [← HRES.out]
  have HOW : Hid (∀ W, Below wb w W → wb < W.heap.size → Calls Tryz.prog 124 #[.agg cs] W fun e w' => e = .returned (.bool (Ty.mk k o t p n l op c).own) ∧ Below W.heap.size W w') := fun W hW hz => ownFits_any _ cs (Lo wb) W ((Ty.mk k o t p n l op c).In_same (Same.of_below hW (Nat.le_refl _)) (fun _ hk => hk) cs h) (fun k hk => Nat.lt_trans hk hz)
  obtain ⟨hsz, HONE⟩ := Ty.In_cells h
  obtain ⟨ap, cp, hz, hp, hpn, hpy⟩ := Ty.In_parts h
  have HP0 : Hid (p.In w (Lo wb) ap 0) := hp
  have HPN : Hid (Sp.parted k = false → ∀ W, Calls Tryz.prog 125 #[.agg cs] W fun e w' => e = .returned (.slice none 0 0) ∧ Below W.heap.size W w') := hpn
  have HPY : Hid (Sp.parted k = true → ∀ W, Calls Tryz.prog 125 #[.agg cs] W fun e w' => e = .returned (.slice ap p.len cp) ∧ Below W.heap.size W w') := hpy
  have HCH : Hid (FitC N) := HC
  obtain ⟨W1, HW1⟩ : ∃ W1, (w.alloc (.cells cs 34)).setCell ⟨wb, 0, none⟩ (.int .i64 (m + 1)) = W1 := ⟨_, rfl⟩
  have HF1 : Hid (Cnt W1 wb (m + 1) ∧ Below wb w W1 ∧ W1.heap.size = w.heap.size + 1 ∧ W1.heap[w.heap.size]? = some (.cells cs 34 (0, 0))) := by
    rw [← HW1]
    refine ⟨(hc.on ((Below.refl _ _).alloc (Nat.le_refl _) _)).put _, ((Below.refl wb w).alloc (by omega) _).setCell (p := ⟨wb, 0, none⟩) (Nat.le_refl _) _, by simp [World.setCell], ?_⟩
    rw [Below.heap_setCell _ _ _ _ (by show w.heap.size ≠ wb; omega)]
    exact heap_alloc_new w _
  have HL1 : Hid ((loadVar 34 ⟨w.heap.size, 0, none⟩).run Tryz.prog W1 = .ok (.agg cs) W1) := yld hsz HF1.out.2.2.2
  obtain ⟨c0, f0⟩ := hc.cell
  obtain ⟨c0', f0'⟩ := HF1.out.1.cell
  have hz1 := HF1.out.2.2.1
  clear hc HC h hp hpn hpy HONE
  have HX : Hid (RES = (false, m + 1)) := by show _ = _; rw [HRES.out, Ty.fit, if_pos (.inr (.inl b2))]
  go_enter Tryz.func108, Tryz.ntmps108
  go_wp2_with ((with_reducible refine ld_row ?_ ?_ HL1.out ?_); rfl; rfl)
  go_ret
  exact FitE.of HX.out HF1.out.1 HF1.out.2.1

set_option maxRecDepth 100000 in
set_option maxHeartbeats 4000000 in
theorem fits_c (N : Nat) (HC : FitC N) (k o : Int) (t : Tm) (p : TyL) (hN : p.sz ≤ N) (n : List ByteArray) (l : List Bool) (op : Bool) (c : ByteArray) (cs : Array Value) (w : World) (wb : Nat) (m d : Int) (h : (Ty.mk k o t p n l op c).In w (Lo wb) cs) (hc : Cnt w wb m) (h0 : 0 ≤ m) (h1 : m ≤ 16384) (h2 : 0 ≤ d) (h3 : d ≤ 65) (b1 : ¬ 16384 < m + 1) (b2 : ¬ 64 < d) (how : (Ty.mk k o t p n l op c).own = false) :
    Calls Tryz.prog 108 #[.pointer (some ⟨wb, 0, none⟩), .agg cs, .int .i64 d] w (FitE wb ((Ty.mk k o t p n l op c).fit d m) w) := by
  have hlt := hc.lt
  have hkeep : p.sz ≤ N ∧ 0 ≤ d ∧ d ≤ 65 := ⟨hN, h2, h3⟩
  clear hkeep
  obtain ⟨RES, HRES⟩ : ∃ RES : Bool × Int, Hid (RES = (Ty.mk k o t p n l op c).fit d m) := ⟨_, show _ = _ from rfl⟩
  rw [← HRES.out]
  have HOW : Hid (∀ W, Below wb w W → wb < W.heap.size → Calls Tryz.prog 124 #[.agg cs] W fun e w' => e = .returned (.bool (Ty.mk k o t p n l op c).own) ∧ Below W.heap.size W w') := fun W hW hz => ownFits_any _ cs (Lo wb) W ((Ty.mk k o t p n l op c).In_same (Same.of_below hW (Nat.le_refl _)) (fun _ hk => hk) cs h) (fun k hk => Nat.lt_trans hk hz)
  obtain ⟨hsz, HONE⟩ := Ty.In_cells h
  obtain ⟨ap, cp, hz, hp, hpn, hpy⟩ := Ty.In_parts h
  have HP0 : Hid (p.In w (Lo wb) ap 0) := hp
  have HPN : Hid (Sp.parted k = false → ∀ W, Calls Tryz.prog 125 #[.agg cs] W fun e w' => e = .returned (.slice none 0 0) ∧ Below W.heap.size W w') := hpn
  have HPY : Hid (Sp.parted k = true → ∀ W, Calls Tryz.prog 125 #[.agg cs] W fun e w' => e = .returned (.slice ap p.len cp) ∧ Below W.heap.size W w') := hpy
  have HCH : Hid (FitC N) := HC
  obtain ⟨W1, HW1⟩ : ∃ W1, (w.alloc (.cells cs 34)).setCell ⟨wb, 0, none⟩ (.int .i64 (m + 1)) = W1 := ⟨_, rfl⟩
  have HF1 : Hid (Cnt W1 wb (m + 1) ∧ Below wb w W1 ∧ W1.heap.size = w.heap.size + 1 ∧ W1.heap[w.heap.size]? = some (.cells cs 34 (0, 0))) := by
    rw [← HW1]
    refine ⟨(hc.on ((Below.refl _ _).alloc (Nat.le_refl _) _)).put _, ((Below.refl wb w).alloc (by omega) _).setCell (p := ⟨wb, 0, none⟩) (Nat.le_refl _) _, by simp [World.setCell], ?_⟩
    rw [Below.heap_setCell _ _ _ _ (by show w.heap.size ≠ wb; omega)]
    exact heap_alloc_new w _
  have HL1 : Hid ((loadVar 34 ⟨w.heap.size, 0, none⟩).run Tryz.prog W1 = .ok (.agg cs) W1) := yld hsz HF1.out.2.2.2
  obtain ⟨c0, f0⟩ := hc.cell
  obtain ⟨c0', f0'⟩ := HF1.out.1.cell
  have hz1 := HF1.out.2.2.1
  clear hc HC h hp hpn hpy HONE
  have HX : Hid (RES = (false, m + 1)) := by show _ = _; rw [HRES.out, Ty.fit, if_pos (.inr (.inr how))]
  rw [how] at HOW
  go_enter Tryz.func108, Tryz.ntmps108
  go_wp2_with ((with_reducible refine ld_row ?_ ?_ HL1.out ?_); rfl; rfl)
  refine (HOW.out W1 HF1.out.2.1 (by omega)).mono ?_
  rintro e w2 ⟨rfl, hb2⟩
  have H2 : Hid (Cnt w2 wb (m + 1) ∧ Below wb w w2) := ⟨HF1.out.1.on hb2, HF1.out.2.1.trans (hb2.mono (by omega))⟩
  clear hb2
  go_wp2_with fail
  go_ret
  exact FitE.of HX.out H2.out.1 H2.out.2

set_option maxRecDepth 100000 in
set_option maxHeartbeats 4000000 in
theorem fits_d (N : Nat) (HC : FitC N) (k o : Int) (t : Tm) (p : TyL) (hN : p.sz ≤ N) (n : List ByteArray) (l : List Bool) (op : Bool) (c : ByteArray) (cs : Array Value) (w : World) (wb : Nat) (m d : Int) (h : (Ty.mk k o t p n l op c).In w (Lo wb) cs) (hc : Cnt w wb m) (h0 : 0 ≤ m) (h1 : m ≤ 16384) (h2 : 0 ≤ d) (h3 : d ≤ 65) (b1 : ¬ 16384 < m + 1) (b2 : ¬ 64 < d) (how : (Ty.mk k o t p n l op c).own = true) (hpt : Sp.parted k = false) :
    Calls Tryz.prog 108 #[.pointer (some ⟨wb, 0, none⟩), .agg cs, .int .i64 d] w (FitE wb ((Ty.mk k o t p n l op c).fit d m) w) := by
  have hlt := hc.lt
  have hkeep : p.sz ≤ N ∧ 0 ≤ d ∧ d ≤ 65 := ⟨hN, h2, h3⟩
  clear hkeep
  obtain ⟨RES, HRES⟩ : ∃ RES : Bool × Int, Hid (RES = (Ty.mk k o t p n l op c).fit d m) := ⟨_, show _ = _ from rfl⟩
  rw [← HRES.out]
  have HOW : Hid (∀ W, Below wb w W → wb < W.heap.size → Calls Tryz.prog 124 #[.agg cs] W fun e w' => e = .returned (.bool (Ty.mk k o t p n l op c).own) ∧ Below W.heap.size W w') := fun W hW hz => ownFits_any _ cs (Lo wb) W ((Ty.mk k o t p n l op c).In_same (Same.of_below hW (Nat.le_refl _)) (fun _ hk => hk) cs h) (fun k hk => Nat.lt_trans hk hz)
  obtain ⟨hsz, HONE⟩ := Ty.In_cells h
  obtain ⟨ap, cp, hz, hp, hpn, hpy⟩ := Ty.In_parts h
  have HP0 : Hid (p.In w (Lo wb) ap 0) := hp
  have HPN : Hid (Sp.parted k = false → ∀ W, Calls Tryz.prog 125 #[.agg cs] W fun e w' => e = .returned (.slice none 0 0) ∧ Below W.heap.size W w') := hpn
  have HPY : Hid (Sp.parted k = true → ∀ W, Calls Tryz.prog 125 #[.agg cs] W fun e w' => e = .returned (.slice ap p.len cp) ∧ Below W.heap.size W w') := hpy
  have HCH : Hid (FitC N) := HC
  obtain ⟨W1, HW1⟩ : ∃ W1, (w.alloc (.cells cs 34)).setCell ⟨wb, 0, none⟩ (.int .i64 (m + 1)) = W1 := ⟨_, rfl⟩
  have HF1 : Hid (Cnt W1 wb (m + 1) ∧ Below wb w W1 ∧ W1.heap.size = w.heap.size + 1 ∧ W1.heap[w.heap.size]? = some (.cells cs 34 (0, 0))) := by
    rw [← HW1]
    refine ⟨(hc.on ((Below.refl _ _).alloc (Nat.le_refl _) _)).put _, ((Below.refl wb w).alloc (by omega) _).setCell (p := ⟨wb, 0, none⟩) (Nat.le_refl _) _, by simp [World.setCell], ?_⟩
    rw [Below.heap_setCell _ _ _ _ (by show w.heap.size ≠ wb; omega)]
    exact heap_alloc_new w _
  have HL1 : Hid ((loadVar 34 ⟨w.heap.size, 0, none⟩).run Tryz.prog W1 = .ok (.agg cs) W1) := yld hsz HF1.out.2.2.2
  obtain ⟨c0, f0⟩ := hc.cell
  obtain ⟨c0', f0'⟩ := HF1.out.1.cell
  have hz1 := HF1.out.2.2.1
  clear hc HC h hp hpn hpy HONE
  rw [how] at HOW
  have HX : Hid (RES = (true, m + 1)) := by show _ = _; rw [HRES.out, Ty.fit, if_neg (by rw [how]; simp; omega), hpt]; rfl
  go_enter Tryz.func108, Tryz.ntmps108
  go_wp2_with ((with_reducible refine ld_row ?_ ?_ HL1.out ?_); rfl; rfl)
  refine (HOW.out W1 HF1.out.2.1 (by omega)).mono ?_
  rintro e w2 ⟨rfl, hb2⟩
  have H2 : Hid (Cnt w2 wb (m + 1) ∧ Below wb w w2 ∧ wb < w2.heap.size) := ⟨HF1.out.1.on hb2, HF1.out.2.1.trans (hb2.mono (by omega)), by have := hb2.size; omega⟩
  have HL2 : Hid ((loadVar 34 ⟨w.heap.size, 0, none⟩).run Tryz.prog w2 = .ok (.agg cs) w2) := yld hsz (by rw [hb2.block w.heap.size (by omega)]; exact HF1.out.2.2.2)
  clear hb2
  go_wp2_with ((with_reducible refine ld_row ?_ ?_ HL2.out ?_); rfl; rfl)
  refine (HPN.out hpt w2).mono ?_
  rintro e w3 ⟨rfl, hb3⟩
  have H3 : Hid (Cnt w3 wb (m + 1) ∧ Below wb w w3) := ⟨H2.out.1.on hb3, H2.out.2.1.trans (hb3.mono (by have := H2.out.2.2; omega))⟩
  clear hb3
  go_wp2_with fail
  go_loopw [33] (fun i wr => i = .int .i64 0 ∧ wr = w3) (fun _ _ => 0)
  case atStart => exact ⟨rfl, rfl⟩
  case round =>
    obtain ⟨rfl, rfl⟩ := hrel
    go_wp2_with fail
    go_ret
    exact FitE.of HX.out H3.out.1 H3.out.2

end Go.Proofs.YtjdjpbdfchhcfaaGreat

/- types.fits: a type with parts. -/
namespace Go.Proofs.YtjdjpbdfchhcfaaGreat
open Go.RowKit

set_option maxRecDepth 100000 in
set_option maxHeartbeats 4000000 in
theorem fits_e (N : Nat) (HC : FitC N) (k o : Int) (t : Tm) (p : TyL) (hN : p.sz ≤ N) (n : List ByteArray) (l : List Bool) (op : Bool) (c : ByteArray) (cs : Array Value) (w : World) (wb : Nat) (m d : Int) (h : (Ty.mk k o t p n l op c).In w (Lo wb) cs) (hc : Cnt w wb m) (h0 : 0 ≤ m) (h1 : m ≤ 16384) (h2 : 0 ≤ d) (h3 : d ≤ 65) (b1 : ¬ 16384 < m + 1) (b2 : ¬ 64 < d) (how : (Ty.mk k o t p n l op c).own = true) (hpt : Sp.parted k = true) :
    Calls Tryz.prog 108 #[.pointer (some ⟨wb, 0, none⟩), .agg cs, .int .i64 d] w (FitE wb ((Ty.mk k o t p n l op c).fit d m) w) := by
  have hlt := hc.lt
  have hkeep : p.sz ≤ N ∧ 0 ≤ d ∧ d ≤ 65 := ⟨hN, h2, h3⟩
  clear hkeep
  obtain ⟨RES, HRES⟩ : ∃ RES : Bool × Int, Hid (RES = (Ty.mk k o t p n l op c).fit d m) := ⟨_, show _ = _ from rfl⟩
  rw [← HRES.out]
  have HOW : Hid (∀ W, Below wb w W → wb < W.heap.size → Calls Tryz.prog 124 #[.agg cs] W fun e w' => e = .returned (.bool (Ty.mk k o t p n l op c).own) ∧ Below W.heap.size W w') := fun W hW hz => ownFits_any _ cs (Lo wb) W ((Ty.mk k o t p n l op c).In_same (Same.of_below hW (Nat.le_refl _)) (fun _ hk => hk) cs h) (fun k hk => Nat.lt_trans hk hz)
  obtain ⟨hsz, HONE⟩ := Ty.In_cells h
  obtain ⟨ap, cp, hz, hp, hpn, hpy⟩ := Ty.In_parts h
  have HP0 : Hid (p.In w (Lo wb) ap 0) := hp
  have HPN : Hid (Sp.parted k = false → ∀ W, Calls Tryz.prog 125 #[.agg cs] W fun e w' => e = .returned (.slice none 0 0) ∧ Below W.heap.size W w') := hpn
  have HPY : Hid (Sp.parted k = true → ∀ W, Calls Tryz.prog 125 #[.agg cs] W fun e w' => e = .returned (.slice ap p.len cp) ∧ Below W.heap.size W w') := hpy
  have HCH : Hid (FitC N) := HC
  obtain ⟨W1, HW1⟩ : ∃ W1, (w.alloc (.cells cs 34)).setCell ⟨wb, 0, none⟩ (.int .i64 (m + 1)) = W1 := ⟨_, rfl⟩
  have HF1 : Hid (Cnt W1 wb (m + 1) ∧ Below wb w W1 ∧ W1.heap.size = w.heap.size + 1 ∧ W1.heap[w.heap.size]? = some (.cells cs 34 (0, 0))) := by
    rw [← HW1]
    refine ⟨(hc.on ((Below.refl _ _).alloc (Nat.le_refl _) _)).put _, ((Below.refl wb w).alloc (by omega) _).setCell (p := ⟨wb, 0, none⟩) (Nat.le_refl _) _, by simp [World.setCell], ?_⟩
    rw [Below.heap_setCell _ _ _ _ (by show w.heap.size ≠ wb; omega)]
    exact heap_alloc_new w _
  have HL1 : Hid ((loadVar 34 ⟨w.heap.size, 0, none⟩).run Tryz.prog W1 = .ok (.agg cs) W1) := yld hsz HF1.out.2.2.2
  obtain ⟨c0, f0⟩ := hc.cell
  obtain ⟨c0', f0'⟩ := HF1.out.1.cell
  have hz1 := HF1.out.2.2.1
  clear hc HC h hp hpn hpy HONE
  rw [how] at HOW
  have HX : Hid (RES = p.fit (d + 1) (m + 1)) := by show _ = _; rw [HRES.out, Ty.fit, if_neg (by rw [how]; simp; omega), hpt]; rfl
  go_enter Tryz.func108, Tryz.ntmps108
  go_wp2_with ((with_reducible refine ld_row ?_ ?_ HL1.out ?_); rfl; rfl)
  refine (HOW.out W1 HF1.out.2.1 (by omega)).mono ?_
  rintro e w2 ⟨rfl, hb2⟩
  have H2 : Hid (Cnt w2 wb (m + 1) ∧ Below wb w w2 ∧ wb < w2.heap.size) := ⟨HF1.out.1.on hb2, HF1.out.2.1.trans (hb2.mono (by omega)), by have := hb2.size; omega⟩
  have HL2 : Hid ((loadVar 34 ⟨w.heap.size, 0, none⟩).run Tryz.prog w2 = .ok (.agg cs) w2) := yld hsz (by rw [hb2.block w.heap.size (by omega)]; exact HF1.out.2.2.2)
  clear hb2
  go_wp2_with ((with_reducible refine ld_row ?_ ?_ HL2.out ?_); rfl; rfl)
  refine (HPY.out hpt w2).mono ?_
  rintro e w3 ⟨rfl, hb3⟩
  have H3 : Hid (Cnt w3 wb (m + 1) ∧ Below wb w w3) := ⟨H2.out.1.on hb3, H2.out.2.1.trans (hb3.mono (by have := H2.out.2.2; omega))⟩
  clear hb3 c0 f0 c0' f0'
  go_wp2_with fail
  go_loopw [33] (fun i wr => ∃ (j : Nat) (l' : TyL) (m' : Int), i = .int .i64 (j : Int) ∧ l'.len + j = p.len ∧ l'.sz ≤ N ∧ 0 ≤ m' ∧ m' ≤ 16384 ∧ Hid (p.fit (d + 1) (m + 1) = l'.fit (d + 1) m') ∧ Hid (l'.In w (Lo wb) ap j ∧ Cnt wr wb m' ∧ Below wb w wr)) (fun i _ => p.len - (intOf i).toNat)
  case atStart => exact ⟨0, p, m + 1, rfl, by omega, hN, by omega, by omega, (show _ = _ from rfl), ⟨HP0.out, H3.out.1, H3.out.2⟩⟩
  case round =>
    obtain ⟨j, l', m', rfl, hj, hlN, hm0, hm1, HM, HK⟩ := hrel
    cases l' with
    | nil =>
      have hj' : p.len ≤ j := by simp [TyL.len] at hj; omega
      clear hj
      go_wp2_with fail
      go_ret
      exact FitE.of (q := m') (by rw [HX.out, HM.out]; rfl) HK.out.2.1 HK.out.2.2
    | cons t' l' =>
      obtain ⟨hin, hcn, hbw⟩ := HK.out
      simp only [TyL.In] at hin
      obtain ⟨g, o', cs', rfl, hg, hcl, hti, hin'⟩ := hin
      have hj1 : j < p.len := by simp [TyL.len] at hj; omega
      have HJ : Hid (l'.len + (j + 1) = p.len) := by show _ = _; simp [TyL.len] at hj; omega
      have htN : t'.sz ≤ N ∧ l'.sz ≤ N := by simp [TyL.sz] at hlN; omega
      have HCT : Hid (∀ W, Below wr.heap.size wr W → Calls Tryz.prog 108 #[.pointer (some ⟨wb, 0, none⟩), .agg cs', .int .i64 (d + 1)] W (FitE wb (t'.fit (d + 1) m') W)) := fun W hW => HCH.out t' htN.1 cs' W wb m' (d + 1) (t'.In_same (Same.of_below (hbw.trans (hW.mono (Nat.le_of_lt hcn.lt))) (Nat.le_refl _)) (fun _ hk => hk) cs' hti) (hcn.on hW) hm0 hm1 (by omega) (by omega)
      have hl1 := hcn.lt
      obtain ⟨hs', ho'⟩ := Ty.In_cells hti
      have HLE : Hid ((loadVar 34 ⟨g, o' + j * 18, none⟩).run Tryz.prog wr = .ok (.agg cs') wr) := yldE hs' (fun x hx => by rw [hbw.cell (p := ⟨g, o' + j * 18 + x, none⟩) hg]; exact hcl x hx)
      have HSN : Hid (∀ c : Array Value, c.size = 18 → (storeVar 34 ⟨wr.heap.size, 0, none⟩ (.agg cs')).run Tryz.prog (wr.alloc (.cells c 34)) = .ok () (wr.alloc (.cells cs' 34))) := fun c hc => yst hc hs' ho'
      have HLN : Hid ((loadVar 34 ⟨wr.heap.size, 0, none⟩).run Tryz.prog (wr.alloc (.cells cs' 34)) = .ok (.agg cs') (wr.alloc (.cells cs' 34))) := yld hs' (heap_alloc_new wr _)
      have HB : Hid (Below wb w wr ∧ l'.In w (Lo wb) (some ⟨g, o', none⟩) (j + 1)) := ⟨hbw, hin'⟩
      have hi0 : (0 : Int) ≤ (j : Int) := Int.natCast_nonneg _
      have hi1 : (j : Int) < (p.len : Int) := by omega
      have hmn := Ty.fit_mono t' (d + 1) m'
      have HM2 : Hid (p.fit (d + 1) (m + 1) = if (t'.fit (d + 1) m').1 then l'.fit (d + 1) (t'.fit (d + 1) m').2 else (false, (t'.fit (d + 1) m').2)) := by show _ = _; rw [HM.out]; rfl
      clear hcl hti hin' hg hj hlN hcn hbw HK HM hs' ho'
      generalize t'.fit (d + 1) m' = x at *
      obtain ⟨xb, xm⟩ := x
      simp only at hmn HM2
      cases xb with
      | false =>
        go_wp2_with (first | ((with_reducible refine ld_row ?_ ?_ HLE.out ?_); rfl; rfl) | ((with_reducible refine st_row ?_ ?_ ?_ (HSN.out _ ?_) ?_); rfl; rfl; rfl; rfl) | ((with_reducible refine ld_row ?_ ?_ HLN.out ?_); rfl; rfl))
        refine (HCT.out _ ((Below.refl _ _).alloc (Nat.le_refl _) _)).mono ?_
        rintro e w5 ⟨rfl, hc5, hb5⟩
        have H5 : Hid (Cnt w5 wb xm ∧ Below wb w w5) := ⟨hc5, HB.out.1.trans (((Below.refl wb wr).alloc (by omega) _).trans hb5)⟩
        clear hc5 hb5
        go_wp2_with fail
        go_ret
        exact FitE.of (by rw [HX.out, HM2.out]; rfl) H5.out.1 H5.out.2
      | true =>
        have hx1 : xm ≤ 16384 := (hmn.2 rfl).1
        have hx0 : 0 ≤ xm := by omega
        have HM3 : Hid (p.fit (d + 1) (m + 1) = l'.fit (d + 1) xm) := by show _ = _; rw [HM2.out]; rfl
        clear hmn HM2
        go_wp2_with (first | ((with_reducible refine ld_row ?_ ?_ HLE.out ?_); rfl; rfl) | ((with_reducible refine st_row ?_ ?_ ?_ (HSN.out _ ?_) ?_); rfl; rfl; rfl; rfl) | ((with_reducible refine ld_row ?_ ?_ HLN.out ?_); rfl; rfl))
        refine (HCT.out _ ((Below.refl _ _).alloc (Nat.le_refl _) _)).mono ?_
        rintro e w5 ⟨rfl, hc5, hb5⟩
        have H5 : Hid (l'.In w (Lo wb) (some ⟨g, o', none⟩) (j + 1) ∧ Cnt w5 wb xm ∧ Below wb w w5) := ⟨HB.out.2, hc5, HB.out.1.trans (((Below.refl wb wr).alloc (by omega) _).trans hb5)⟩
        clear hc5 hb5
        go_wp2_with fail
        go_roundw
        case rel => exact ⟨j + 1, l', xm, by go_num, HJ.out, htN.2, hx0, hx1, HM3, H5⟩
        case measure => simp [intOf]; omega

end Go.Proofs.YtjdjpbdfchhcfaaGreat

/- types.fits: the walk through a type. -/
namespace Go.Proofs.YtjdjpbdfchhcfaaGreat
open Go.RowKit

theorem fits_step (N : Nat) (HC : FitC N) (k o : Int) (t : Tm) (p : TyL) (hN : p.sz ≤ N) (n : List ByteArray) (l : List Bool) (op : Bool) (c : ByteArray) (cs : Array Value) (w : World) (wb : Nat) (m d : Int) (h : (Ty.mk k o t p n l op c).In w (Lo wb) cs) (hc : Cnt w wb m) (h0 : 0 ≤ m) (h1 : m ≤ 16384) (h2 : 0 ≤ d) (h3 : d ≤ 65) :
    Calls Tryz.prog 108 #[.pointer (some ⟨wb, 0, none⟩), .agg cs, .int .i64 d] w (FitE wb ((Ty.mk k o t p n l op c).fit d m) w) := by
  by_cases b1 : 16384 < m + 1
  · exact fits_a N HC k o t p hN n l op c cs w wb m d h hc h0 h1 h2 h3 b1
  · by_cases b2 : 64 < d
    · exact fits_b N HC k o t p hN n l op c cs w wb m d h hc h0 h1 h2 h3 b1 b2
    · cases how : (Ty.mk k o t p n l op c).own with
      | false => exact fits_c N HC k o t p hN n l op c cs w wb m d h hc h0 h1 h2 h3 b1 b2 how
      | true =>
        cases hpt : Sp.parted k with
        | false => exact fits_d N HC k o t p hN n l op c cs w wb m d h hc h0 h1 h2 h3 b1 b2 how hpt
        | true => exact fits_e N HC k o t p hN n l op c cs w wb m d h hc h0 h1 h2 h3 b1 b2 how hpt
theorem fits_any : ∀ N, FitC N
  | 0 => fun t h => by cases t; simp [Ty.sz] at h
  | N + 1 => fun t hN cs w wb m d h hc h0 h1 h2 h3 => by
    cases t with
    | mk k o t p n l op c => exact fits_step N (fits_any N) k o t p (by simp only [Ty.sz] at hN; omega) n l op c cs w wb m d h hc h0 h1 h2 h3
end Go.Proofs.YtjdjpbdfchhcfaaGreat

