/- tenonref07.is of a dict's type; of every type. -/
import Derived.Test.YtbjcabpmndhfmaaGreatQ39
import Derived.Test.YtbjcabpmndhfmaaGreatQ34
namespace Go.Proofs.YtbjcabpmndhfmaaGreat
open Go.RowKit

set_option maxRecDepth 100000 in
set_option maxHeartbeats 4000000 in
theorem ris_6 (N : Nat) (HC : RIsC N) (o : Int) (t : Tm) (p : TyL) (n : List ByteArray) (l : List Bool) (op : Bool) (c : ByteArray) (hN : p.sz ≤ N) (hok : p.ok = true) (v : Tm) (ct cs : Array Value) (B : Nat → Prop) (w : World) (at_ : Int) (hs : (Ty.mk 6 o t p n l op c).In w B cs) (hv : v.In w B ct) (hB : Sub B w) (hg : v.all.e = 0) (h0 : 0 ≤ at_) (h1 : at_ + v.pn ≤ 16384) (hl1 : n.length = p.len) (hl2 : n.length = l.length) (hl3 : n.length ≤ 4096) :
    Calls Tryz.prog 33 #[.agg ct, .agg cs, .int .i64 at_] w (RIsE ((Ty.mk 6 o t p n l op c).has v) at_ w) := by
  obtain ⟨hz, c0, -, c16, -, ap, cp, an, cn, ak, ck, c13, c14, c15, hp, hn, hl, -, hpl, -⟩ := Ty.In_all hs
  obtain ⟨W2, hW2, hb, hsz, b0, b1⟩ := is_boxes w ct cs
  have d0 : W2.cell? ⟨w.heap.size + 1, 0, none⟩ = some (.int .i64 6) := by rw [cell_of_row _ _ _ _ _ _ b1]; exact c0
  have d2 : W2.cell? ⟨w.heap.size, 0, none⟩ = some (.int .i64 v.knd) := by rw [cell_of_row _ _ _ _ _ _ b0]; cases v; exact (Tm.In_all hv).2.1
  have HB : Hid (Below w.heap.size w W2) := hb
  have H : Hid ((Ty.mk 6 o t p n l op c).has v = if v.knd = 9 then Sp.hasD op (n.length + v.flds.len) n l p.fns v.flds 1 else (false, 0)) := by show _ = _; simp [Ty.has]
  by_cases hk : v.knd = 9
  · have HL1 : Hid ((loadVar 38 ⟨w.heap.size, 0, none⟩).run Tryz.prog W2 = .ok (.agg ct) W2) := yldT (Tm.In_size hv) (fun x hx => by rw [Nat.zero_add, cell_of_row _ _ _ _ _ _ b0])
    have HL2 : Hid ((loadVar 43 ⟨w.heap.size + 1, 0, none⟩).run Tryz.prog W2 = .ok (.agg cs) W2) := yld hz b1
    have HLC : Hid (Calls Tryz.prog 59 #[.agg ct, .agg cs, .int .i64 at_] W2 (RIsE (Sp.hasD op (n.length + v.flds.len) n l p.fns v.flds 1) at_ W2)) := by
      cases v with
      | mk k b2 i f tx by' rf l' fs c' vr =>
        have hk' : k = 9 := hk
        subst hk'
        obtain ⟨-, -, -, al, cl, af, cf, -, q8, -, qf⟩ := Tm.In_all hv
        have hgp2 := (Tm.good_parts hg).2 (.inl rfl)
        have hsB := hB.same hb
        have h1' : at_ + 1 + fs.pn ≤ 16384 := by simp only [Tm.pn] at h1; simp at h1; omega
        have hlen : fs.len ≤ 16384 := by have := TmF.len_pn fs; omega
        exact rdict_any N HC n l p hN hok op fs ct cs B W2 at_ af ap an ak cf cp cn ck (hB.later hb) q8 (by rw [hl1]; exact c13) c14 (by rw [hl2]; exact c15) c16 (p.In_same hsB (fun _ h => h) ap 0 hp) (hn.same hsB (fun _ h => h)) (hl.same hsB (fun _ h => h)) (fs.In_same hsB (fun _ h => h) af 0 qf) hgp2.1 h0 h1' hl1.symm hl2.symm hl3 hlen
    have HE : Hid ((Ty.mk 6 o t p n l op c).has v = Sp.hasD op (n.length + v.flds.len) n l p.fns v.flds 1) := by show _ = _; rw [H.out, if_pos hk]
    rw [hk] at d2
    clear H hk hs hv hg b0 b1 hz c0 c13 c14 c15 c16 hp hn hl hb hB HC hl1 hl2 hl3
    rw [HE.out]
    unfold RIsE at HLC ⊢
    generalize Sp.hasD op (n.length + v.flds.len) n l p.fns v.flds 1 = r at *
    generalize (if r.1 = true then (0 : Int) else at_ + r.2) = q at *
    obtain ⟨rb, rq⟩ := r
    go_enter Tryz.func33, Tryz.ntmps33
    go_wp2_with (first | ((with_reducible refine ld_row ?_ ?_ HL1.out ?_); rfl; rfl) | ((with_reducible refine ld_row ?_ ?_ HL2.out ?_); rfl; rfl))
    refine HLC.out.mono ?_
    rintro e w1 ⟨rfl, hb1⟩
    have H1 : Hid (Below w.heap.size w w1) := HB.out.trans (hb1.mono HB.out.size)
    clear hb1
    go_wp2_with fail
    go_ret2
    exact ⟨rfl, H1.out⟩
  · have HE : Hid ((Ty.mk 6 o t p n l op c).has v = (false, 0)) := by show _ = _; rw [H.out, if_neg hk]
    have hkb : (v.knd == 9) = false := by simp [hk]
    clear H hk hs hv hg b0 b1 hz c0 c13 c14 c15 c16 hp hn hl hb hB HC hl1 hl2 hl3
    generalize v.knd = kv at *
    go_enter Tryz.func33, Tryz.ntmps33
    go_wp2_with fail
    go_ret2
    exact RIsE.no0 HE.out HB.out
theorem ris_any : ∀ N, RIsC N
  | 0 => fun t h => by cases t; simp [Ty.sz] at h
  | N + 1 => fun t hN hok v ct cs B w at_ hg hv hs hB h0 h1 => by
    cases t with
    | mk k o t p n l op c =>
      have hN' : p.sz ≤ N := by simp only [Ty.sz] at hN; omega
      have how : (Ty.mk k o t p n l op c).own = true := by simp only [Ty.ok, Bool.and_eq_true] at hok; exact hok.1.1
      have hkk : k = 1 ∨ k = 2 ∨ k = 3 ∨ k = 4 ∨ k = 5 ∨ k = 6 ∨ k = 7 ∨ k = 8 := by
        simp only [Ty.own] at how
        (repeat' split at how) <;> simp_all <;> omega
      have hpo : Sp.parted k = true → p.ok = true := fun h => by simp only [Ty.ok, h, if_true, Bool.and_eq_true] at hok; exact hok.2
      rcases hkk with rfl | rfl | rfl | rfl | rfl | rfl | rfl | rfl
      · exact ris_1 1 o t p n l op c v ct cs B w at_ (.inl rfl) hs
      · exact ris_1 2 o t p n l op c v ct cs B w at_ (.inr rfl) hs
      · exact ris_3 o t p n l op c v ct cs B w at_ hs hv
      · have ht : t.all.e = 0 := by simp only [Ty.ok, Bool.and_eq_true] at hok; have := hok.1.2; simpa using this
        exact ris_4 o t p n l op c v ct cs B w at_ hs hv hB hg ht
      · have hpl : p.len = 1 := by simpa [Ty.own] using how
        have hp' := hpo rfl
        cases p with
        | nil => simp [TyL.len] at hpl
        | cons t0 p' =>
          cases p' with
          | cons _ _ => simp [TyL.len] at hpl
          | nil => exact ris_5 N (ris_any N) o t t0 n l op c (by simp [TyL.sz] at hN'; omega) (by simpa [TyL.ok] using hp') v ct cs B w at_ hs hv hB hg h0 h1
      · simp [Ty.own] at how
        obtain ⟨⟨a1, a2⟩, a3⟩ := how
        simp only [Sp.namesFit, Bool.and_eq_true, decide_eq_true_eq] at a3
        exact ris_6 N (ris_any N) o t p n l op c hN' (hpo rfl) v ct cs B w at_ hs hv hB hg h0 h1 a1 a2 a3.1
      · exact ris_7 N (ris_any N) o t p hN' (hpo rfl) n l op c v ct cs B w at_ hs hv hB hg h0 h1
      · exact ris_8 o t p n l op c v ct cs B w at_ hs hv
end Go.Proofs.YtbjcabpmndhfmaaGreat

