/- tenonlaw01.same answers true at two terms that are one clean term. -/
import Derived.Test.YtdklpdclbedceaaClnG
import Derived.Test.YtdklpdclbedceaaMSameG
import Derived.Test.YtdklpdclbedceaaBackM
import Derived.Test.YtdklpdclbedceaaTwo
namespace Go.Proofs.Ytdklpdclbedceaa
open Go.RowKit

def SaC (N : Nat) : Prop := ∀ (u : Tm), u.sz ≤ N → ∀ (ca cb : Array Value) (S : Nat → Prop) (w : World), u.In w S ca → u.In w S cb → Sub S w → u.Ok → u.clean = u →
  Calls Try.prog 15 #[.agg ca, .agg cb] w fun e w' => e = .returned (.bool true) ∧ Below w.heap.size w w'
theorem SaC.at {N : Nat} (HC : SaC N) {u : Tm} (hN : u.sz ≤ N) {ca cb : Array Value} {S : Nat → Prop} {w : World} (ha : u.In w S ca) (hb : u.In w S cb) (hS : Sub S w) (ho : u.Ok) (hc : u.clean = u) :
    ∀ W, Below w.heap.size w W → Calls Try.prog 15 #[.agg ca, .agg cb] W fun e w' => e = .returned (.bool true) ∧ Below W.heap.size W w' :=
  fun W hW => HC u hN ca cb S W (u.In_same (hS.same hW) (fun _ h => h) ca ha) (u.In_same (hS.same hW) (fun _ h => h) cb hb) (hS.later hW) ho hc
theorem clean_parts {k : Int} {b : Bool} {i : Int} {f : Nat} {tx by' : ByteArray} {rf : Int} {l : TmL} {fs : TmF} {c : ByteArray} {vr : Int} (h : (Tm.mk k b i f tx by' rf l fs c vr).clean = .mk k b i f tx by' rf l fs c vr) (ho : (Tm.mk k b i f tx by' rf l fs c vr).Ok) : (k ≠ 4 → f = 0) ∧ (l.Ok ∧ l.clean = l) ∧ (fs.Ok ∧ fs.clean = fs) := by
  obtain ⟨p1, p2, p3, p4⟩ := ho.parts
  simp only [Tm.clean, Tm.mk.injEq, true_and] at h
  obtain ⟨_, _, h4, _, _, _, h8, h9, _⟩ := h
  refine ⟨fun hk => by rw [if_neg hk] at h4; exact h4.symm, ?_, ?_⟩
  · by_cases hk : k = 8
    · rw [if_pos hk] at h8; exact ⟨p3 hk, h8⟩
    · rw [if_neg hk] at h8; rw [← h8]; exact ⟨⟨0, 0, 0, rfl⟩, rfl⟩
  · by_cases hk : k = 9 ∨ k = 10
    · rw [if_pos hk] at h9; exact ⟨p4 hk, h9⟩
    · rw [if_neg hk] at h9; rw [← h9]; exact ⟨⟨0, 0, 0, rfl⟩, rfl⟩

set_option maxRecDepth 100000 in
set_option maxHeartbeats 8000000 in
theorem same_step (N : Nat) (HC : SaC N) (k : Int) (b : Bool) (i : Int) (f : Nat) (tx by' : ByteArray) (rf : Int) (l : TmL) (fs : TmF) (c : ByteArray) (vr : Int) (ab1 : Option Addr) (cb1 : Nat) (al1 : Option Addr) (cl1 : Nat) (af1 : Option Addr) (cf1 : Nat) (ab2 : Option Addr) (cb2 : Nat) (al2 : Option Addr) (cl2 : Nat) (af2 : Option Addr) (cf2 : Nat) (S : Nat → Prop) (w : World) (hS : Sub S w) (hN : l.sz ≤ N ∧ fs.sz ≤ N) (hln : l.len ≤ 140737488355328 ∧ fs.len ≤ 140737488355328)
    (hf : k ≠ 4 → f = 0) (hl : l.Ok ∧ l.clean = l) (hfs : fs.Ok ∧ fs.clean = fs) (hb1 : BytesAt w S ab1 by') (hb2 : BytesAt w S ab2 by') (hl1 : l.In w S al1 0) (hl2 : l.In w S al2 0) (hf1 : fs.In w S af1 0) (hf2 : fs.In w S af2 0)
    (HM : ∀ W, Below w.heap.size w W → Calls Try.prog 22 #[.agg #[.int .i64 k, .bool b, .int .i64 i, .float .f64 f, .string tx, .slice ab1 by'.size cb1, .int .u64 rf, .slice al1 l.len cl1, .slice af1 fs.len cf1, .string c, .int .i64 vr], .agg #[.int .i64 k, .bool b, .int .i64 i, .float .f64 f, .string tx, .slice ab2 by'.size cb2, .int .u64 rf, .slice al2 l.len cl2, .slice af2 fs.len cf2, .string c, .int .i64 vr]] W fun e w' => e = .returned (.bool true) ∧ Below W.heap.size W w') :
    Calls Try.prog 15 #[.agg #[.int .i64 k, .bool b, .int .i64 i, .float .f64 f, .string tx, .slice ab1 by'.size cb1, .int .u64 rf, .slice al1 l.len cl1, .slice af1 fs.len cf1, .string c, .int .i64 vr], .agg #[.int .i64 k, .bool b, .int .i64 i, .float .f64 f, .string tx, .slice ab2 by'.size cb2, .int .u64 rf, .slice al2 l.len cl2, .slice af2 fs.len cf2, .string c, .int .i64 vr]] w fun e w' => e = .returned (.bool true) ∧ Below w.heap.size w w' := by
  have HMH : Hid (∀ W, Below w.heap.size w W → Calls Try.prog 22 #[.agg #[.int .i64 k, .bool b, .int .i64 i, .float .f64 f, .string tx, .slice ab1 by'.size cb1, .int .u64 rf, .slice al1 l.len cl1, .slice af1 fs.len cf1, .string c, .int .i64 vr], .agg #[.int .i64 k, .bool b, .int .i64 i, .float .f64 f, .string tx, .slice ab2 by'.size cb2, .int .u64 rf, .slice al2 l.len cl2, .slice af2 fs.len cf2, .string c, .int .i64 vr]] W fun e w' => e = .returned (.bool true) ∧ Below W.heap.size W w') := HM
  have HCH : Hid (SaC N) := HC
  have HT : Hid (∀ W, Below (two w #[.int .i64 k, .bool b, .int .i64 i, .float .f64 f, .string tx, .slice ab1 by'.size cb1, .int .u64 rf, .slice al1 l.len cl1, .slice af1 fs.len cf1, .string c, .int .i64 vr] #[.int .i64 k, .bool b, .int .i64 i, .float .f64 f, .string tx, .slice ab2 by'.size cb2, .int .u64 rf, .slice al2 l.len cl2, .slice af2 fs.len cf2, .string c, .int .i64 vr]).heap.size (two w #[.int .i64 k, .bool b, .int .i64 i, .float .f64 f, .string tx, .slice ab1 by'.size cb1, .int .u64 rf, .slice al1 l.len cl1, .slice af1 fs.len cf1, .string c, .int .i64 vr] #[.int .i64 k, .bool b, .int .i64 i, .float .f64 f, .string tx, .slice ab2 by'.size cb2, .int .u64 rf, .slice al2 l.len cl2, .slice af2 fs.len cf2, .string c, .int .i64 vr]) W → (W.cell? ⟨w.heap.size, 0, none⟩ = some (.int .i64 k) ∧ W.cell? ⟨w.heap.size, 1, none⟩ = some (.bool b) ∧ W.cell? ⟨w.heap.size, 2, none⟩ = some (.int .i64 i) ∧ W.cell? ⟨w.heap.size, 3, none⟩ = some (.float .f64 f) ∧ W.cell? ⟨w.heap.size, 4, none⟩ = some (.string tx) ∧ W.cell? ⟨w.heap.size, 5, none⟩ = some (.slice ab1 by'.size cb1) ∧ W.cell? ⟨w.heap.size, 6, none⟩ = some (.int .u64 rf) ∧ W.cell? ⟨w.heap.size, 7, none⟩ = some (.slice al1 l.len cl1) ∧ W.cell? ⟨w.heap.size, 8, none⟩ = some (.slice af1 fs.len cf1) ∧ W.cell? ⟨w.heap.size, 9, none⟩ = some (.string c) ∧ W.cell? ⟨w.heap.size, 10, none⟩ = some (.int .i64 vr)) ∧ (W.cell? ⟨w.heap.size + 1, 0, none⟩ = some (.int .i64 k) ∧ W.cell? ⟨w.heap.size + 1, 1, none⟩ = some (.bool b) ∧ W.cell? ⟨w.heap.size + 1, 2, none⟩ = some (.int .i64 i) ∧ W.cell? ⟨w.heap.size + 1, 3, none⟩ = some (.float .f64 f) ∧ W.cell? ⟨w.heap.size + 1, 4, none⟩ = some (.string tx) ∧ W.cell? ⟨w.heap.size + 1, 5, none⟩ = some (.slice ab2 by'.size cb2) ∧ W.cell? ⟨w.heap.size + 1, 6, none⟩ = some (.int .u64 rf) ∧ W.cell? ⟨w.heap.size + 1, 7, none⟩ = some (.slice al2 l.len cl2) ∧ W.cell? ⟨w.heap.size + 1, 8, none⟩ = some (.slice af2 fs.len cf2) ∧ W.cell? ⟨w.heap.size + 1, 9, none⟩ = some (.string c) ∧ W.cell? ⟨w.heap.size + 1, 10, none⟩ = some (.int .i64 vr)) ∧ Below w.heap.size w W) := fun W hW => ⟨tbox (two_a hW), tbox (two_b hW), below_to (two_bel _ _ _) hW⟩
  have HV : Hid (∀ W, Below w.heap.size w W → (convert 23 9 (.slice ab1 by'.size cb1)).run Try.prog W = .ok (.string by') W ∧ (convert 23 9 (.slice ab2 by'.size cb2)).run Try.prog W = .ok (.string by') W) := fun W hW => ⟨conv_run by' ab1 cb1 S _ (hb1.same (hS.same hW) (fun _ h => h)), conv_run by' ab2 cb2 S _ (hb2.same (hS.same hW) (fun _ h => h))⟩
  have HI0 : Hid (l.In w S al1 0 ∧ l.In w S al2 0 ∧ l.Ok ∧ l.clean = l) := ⟨hl1, hl2, hl⟩
  have HJ0 : Hid (fs.In w S af1 0 ∧ fs.In w S af2 0 ∧ fs.Ok ∧ fs.clean = fs) := ⟨hf1, hf2, hfs⟩
  have HS : Hid (Sub S w) := hS
  clear HM HC hb1 hb2 hl1 hl2 hf1 hf2 hl hfs hS
  go_enter Try.func15, Try.ntmps15
  go_wp2_with fail
  refine (HMH.out _ (HT.out (two w #[.int .i64 k, .bool b, .int .i64 i, .float .f64 f, .string tx, .slice ab1 by'.size cb1, .int .u64 rf, .slice al1 l.len cl1, .slice af1 fs.len cf1, .string c, .int .i64 vr] #[.int .i64 k, .bool b, .int .i64 i, .float .f64 f, .string tx, .slice ab2 by'.size cb2, .int .u64 rf, .slice al2 l.len cl2, .slice af2 fs.len cf2, .string c, .int .i64 vr]) (Below.refl _ _)).2.2).mono ?_
  rintro e w1 ⟨rfl, hw1⟩
  have HW1 : Hid (Below (two w #[.int .i64 k, .bool b, .int .i64 i, .float .f64 f, .string tx, .slice ab1 by'.size cb1, .int .u64 rf, .slice al1 l.len cl1, .slice af1 fs.len cf1, .string c, .int .i64 vr] #[.int .i64 k, .bool b, .int .i64 i, .float .f64 f, .string tx, .slice ab2 by'.size cb2, .int .u64 rf, .slice al2 l.len cl2, .slice af2 fs.len cf2, .string c, .int .i64 vr]).heap.size (two w #[.int .i64 k, .bool b, .int .i64 i, .float .f64 f, .string tx, .slice ab1 by'.size cb1, .int .u64 rf, .slice al1 l.len cl1, .slice af1 fs.len cf1, .string c, .int .i64 vr] #[.int .i64 k, .bool b, .int .i64 i, .float .f64 f, .string tx, .slice ab2 by'.size cb2, .int .u64 rf, .slice al2 l.len cl2, .slice af2 fs.len cf2, .string c, .int .i64 vr]) w1) := hw1
  clear hw1
  generalize two w #[.int .i64 k, .bool b, .int .i64 i, .float .f64 f, .string tx, .slice ab1 by'.size cb1, .int .u64 rf, .slice al1 l.len cl1, .slice af1 fs.len cf1, .string c, .int .i64 vr] #[.int .i64 k, .bool b, .int .i64 i, .float .f64 f, .string tx, .slice ab2 by'.size cb2, .int .u64 rf, .slice al2 l.len cl2, .slice af2 fs.len cf2, .string c, .int .i64 vr] = T2 at HT HW1
  obtain ⟨⟨x0, x1, x2, x3, x4, x5, x6, x7, x8, x9, x10⟩, ⟨y0, y1, y2, y3, y4, y5, y6, y7, y8, y9, y10⟩, hbw⟩ := HT.out w1 HW1.out
  obtain ⟨v1, v2⟩ := HV.out w1 hbw
  clear hbw
  by_cases hk4 : k = 4
  · subst hk4
    go_wp2_with fail
    go_loopw [5] (fun x wr => ∃ (j : Nat) (q : TmL), x = .int .i64 j ∧ q.len + j = l.len ∧ q.sz ≤ N ∧ Hid ((q.In w S al1 j ∧ q.In w S al2 j ∧ q.Ok ∧ q.clean = q) ∧ Below T2.heap.size T2 wr)) (fun x _ => l.len - (intOf x).toNat)
    case atStart => exact ⟨0, l, rfl, rfl, hN.1, HI0.out, HW1.out⟩
    case round =>
      obtain ⟨j, q, rfl, hq, hqN, HR⟩ := hrel
      obtain ⟨⟨x0, x1, x2, x3, x4, x5, x6, x7, x8, x9, x10⟩, ⟨y0, y1, y2, y3, y4, y5, y6, y7, y8, y9, y10⟩, hbw⟩ := HT.out wr HR.out.2
      have hi0 : (0 : Int) ≤ (j : Int) := Int.natCast_nonneg _
      cases q with
      | nil =>
        have hi1 : ¬ ((j : Int) < (l.len : Int)) := by simp [TmL.len] at hq; omega
        have HWn : Hid (Below T2.heap.size T2 wr) := HR.out.2
        clear hq HR hbw
        go_wp2_with fail
        go_loopw [6] (fun x wr => ∃ (j : Nat) (q : TmF), x = .int .i64 j ∧ q.len + j = fs.len ∧ q.sz ≤ N ∧ Hid ((q.In w S af1 j ∧ q.In w S af2 j ∧ q.Ok ∧ q.clean = q) ∧ Below T2.heap.size T2 wr)) (fun x _ => fs.len - (intOf x).toNat)
        case atStart => exact ⟨0, fs, rfl, rfl, hN.2, HJ0.out, HWn.out⟩
        case round =>
          obtain ⟨j, q, rfl, hq, hqN, HR⟩ := hrel
          obtain ⟨⟨x0, x1, x2, x3, x4, x5, x6, x7, x8, x9, x10⟩, ⟨y0, y1, y2, y3, y4, y5, y6, y7, y8, y9, y10⟩, hbw⟩ := HT.out wr HR.out.2
          have hi0 : (0 : Int) ≤ (j : Int) := Int.natCast_nonneg _
          cases q with
          | nil =>
            have hi1 : ¬ ((j : Int) < (fs.len : Int)) := by simp [TmF.len] at hq; omega
            have HWn : Hid (Below T2.heap.size T2 wr) := HR.out.2
            clear hq HR hbw
            go_wp2_with fail
            go_ret
            exact ⟨rfl, (HT.out wr HWn.out).2.2⟩
          | cons nm t q =>
            obtain ⟨⟨hi1', hi2', ho, hcl⟩, hW⟩ := HR.out
            simp only [TmF.In] at hi1' hi2'
            obtain ⟨g1, o1, cs1, rfl, hg1, nc1, nb1, m1, ht1, hl1'⟩ := hi1'
            obtain ⟨g2, o2, cs2, rfl, hg2, nc2, nb2, m2, ht2, hl2'⟩ := hi2'
            have hj1 : j < fs.len := by simp only [TmF.len] at hq; omega
            have hi1 : (j : Int) < (fs.len : Int) := by omega
            have HL : Hid (q.len + (j + 1) = fs.len) := by show _ = _; simp only [TmF.len] at hq; omega
            have htN : t.sz ≤ N ∧ q.sz ≤ N := by simp [TmF.sz] at hqN; omega
            have hs : Same S w wr := HS.out.same hbw
            have hcl' : t.clean = t ∧ q.clean = q := by simpa [TmF.clean] using hcl
            have HO := HCH.out.at htN.1 (t.In_same hs (fun _ h => h) cs1 ht1) (t.In_same hs (fun _ h => h) cs2 ht2) (HS.out.later hbw) ho.head.1 hcl'.1
            have HN : Hid ((q.In w S (some ⟨g1, o1, none⟩) (j + 1) ∧ q.In w S (some ⟨g2, o2, none⟩) (j + 1) ∧ q.Ok ∧ q.clean = q)) := ⟨hl1', hl2', ho.head.2, hcl'.2⟩
            obtain ⟨k3, b3, i3, f3, tx3, vb3, rf3, vl3, vf3, c3, vr3, rfl⟩ := Tm.In_tc ht1
            obtain ⟨k4, b4, i4, f4, tx4, vb4, rf4, vl4, vf4, c4, vr4, rfl⟩ := Tm.In_tc ht2
            have HX : Hid (∀ W, Below wr.heap.size wr W → W.cell? ⟨w.heap.size, 8, none⟩ = some (.slice (some ⟨g1, o1, none⟩) fs.len cf1) ∧ W.cell? ⟨w.heap.size + 1, 8, none⟩ = some (.slice (some ⟨g2, o2, none⟩) fs.len cf2) ∧ W.cell? ⟨g1, o1 + j * 12 + 1, none⟩ = some (.int .i64 k3) ∧ W.cell? ⟨g1, o1 + j * 12 + 1 + 1, none⟩ = some (.bool b3) ∧ W.cell? ⟨g1, o1 + j * 12 + 1 + 2, none⟩ = some (.int .i64 i3) ∧ W.cell? ⟨g1, o1 + j * 12 + 1 + 3, none⟩ = some (.float .f64 f3) ∧ W.cell? ⟨g1, o1 + j * 12 + 1 + 4, none⟩ = some (.string tx3) ∧ W.cell? ⟨g1, o1 + j * 12 + 1 + 5, none⟩ = some (vb3) ∧ W.cell? ⟨g1, o1 + j * 12 + 1 + 6, none⟩ = some (.int .u64 rf3) ∧ W.cell? ⟨g1, o1 + j * 12 + 1 + 7, none⟩ = some (vl3) ∧ W.cell? ⟨g1, o1 + j * 12 + 1 + 8, none⟩ = some (vf3) ∧ W.cell? ⟨g1, o1 + j * 12 + 1 + 9, none⟩ = some (.string c3) ∧ W.cell? ⟨g1, o1 + j * 12 + 1 + 10, none⟩ = some (.int .i64 vr3) ∧ W.cell? ⟨g2, o2 + j * 12 + 1, none⟩ = some (.int .i64 k4) ∧ W.cell? ⟨g2, o2 + j * 12 + 1 + 1, none⟩ = some (.bool b4) ∧ W.cell? ⟨g2, o2 + j * 12 + 1 + 2, none⟩ = some (.int .i64 i4) ∧ W.cell? ⟨g2, o2 + j * 12 + 1 + 3, none⟩ = some (.float .f64 f4) ∧ W.cell? ⟨g2, o2 + j * 12 + 1 + 4, none⟩ = some (.string tx4) ∧ W.cell? ⟨g2, o2 + j * 12 + 1 + 5, none⟩ = some (vb4) ∧ W.cell? ⟨g2, o2 + j * 12 + 1 + 6, none⟩ = some (.int .u64 rf4) ∧ W.cell? ⟨g2, o2 + j * 12 + 1 + 7, none⟩ = some (vl4) ∧ W.cell? ⟨g2, o2 + j * 12 + 1 + 8, none⟩ = some (vf4) ∧ W.cell? ⟨g2, o2 + j * 12 + 1 + 9, none⟩ = some (.string c4) ∧ W.cell? ⟨g2, o2 + j * 12 + 1 + 10, none⟩ = some (.int .i64 vr4)) := fun W hW' => by
              have hh := HT.out W (below_to hW hW')
              have h1 := HS.out.later hbw _ hg1
              have h2 := HS.out.later hbw _ hg2
              have e := eleven (w := W) (g := g1) (o := o1 + j * 12 + 1) (fun x hx => by rw [hW'.cell (p := ⟨g1, o1 + j * 12 + 1 + x, none⟩) h1, hs.cell (p := ⟨g1, o1 + j * 12 + 1 + x, none⟩) hg1]; exact m1 x hx)
              have d := eleven (w := W) (g := g2) (o := o2 + j * 12 + 1) (fun x hx => by rw [hW'.cell (p := ⟨g2, o2 + j * 12 + 1 + x, none⟩) h2, hs.cell (p := ⟨g2, o2 + j * 12 + 1 + x, none⟩) hg2]; exact m2 x hx)
              exact ⟨hh.1.2.2.2.2.2.2.2.2.1, hh.2.1.2.2.2.2.2.2.2.2.1, e.1, e.2.1, e.2.2.1, e.2.2.2.1, e.2.2.2.2.1, e.2.2.2.2.2.1, e.2.2.2.2.2.2.1, e.2.2.2.2.2.2.2.1, e.2.2.2.2.2.2.2.2.1, e.2.2.2.2.2.2.2.2.2.1, e.2.2.2.2.2.2.2.2.2.2, d⟩
            have HWr : Hid (Below T2.heap.size T2 wr) := hW
            unfold tcells at HO
            have HO : Hid _ := HO
            clear hq hqN HR ho hcl hcl' ht1 ht2 hl1' hl2' m1 m2 hs hbw hW hg1 hg2 nc1 nc2 nb1 nb2
            clear x0 x1 x2 x3 x4 x5 x6 x7 x9 x10 y0 y1 y2 y3 y4 y5 y6 y7 y9 y10
            go_wp2_with fail
            go_region_held3 (fun W => W.cell? ⟨w.heap.size, 8, none⟩ = some (.slice (some ⟨g1, o1, none⟩) fs.len cf1) ∧ W.cell? ⟨w.heap.size + 1, 8, none⟩ = some (.slice (some ⟨g2, o2, none⟩) fs.len cf2) ∧ W.cell? ⟨g1, o1 + j * 12 + 1, none⟩ = some (.int .i64 k3) ∧ W.cell? ⟨g1, o1 + j * 12 + 1 + 1, none⟩ = some (.bool b3) ∧ W.cell? ⟨g1, o1 + j * 12 + 1 + 2, none⟩ = some (.int .i64 i3) ∧ W.cell? ⟨g1, o1 + j * 12 + 1 + 3, none⟩ = some (.float .f64 f3) ∧ W.cell? ⟨g1, o1 + j * 12 + 1 + 4, none⟩ = some (.string tx3) ∧ W.cell? ⟨g1, o1 + j * 12 + 1 + 5, none⟩ = some (vb3) ∧ W.cell? ⟨g1, o1 + j * 12 + 1 + 6, none⟩ = some (.int .u64 rf3) ∧ W.cell? ⟨g1, o1 + j * 12 + 1 + 7, none⟩ = some (vl3) ∧ W.cell? ⟨g1, o1 + j * 12 + 1 + 8, none⟩ = some (vf3) ∧ W.cell? ⟨g1, o1 + j * 12 + 1 + 9, none⟩ = some (.string c3) ∧ W.cell? ⟨g1, o1 + j * 12 + 1 + 10, none⟩ = some (.int .i64 vr3) ∧ W.cell? ⟨g2, o2 + j * 12 + 1, none⟩ = some (.int .i64 k4) ∧ W.cell? ⟨g2, o2 + j * 12 + 1 + 1, none⟩ = some (.bool b4) ∧ W.cell? ⟨g2, o2 + j * 12 + 1 + 2, none⟩ = some (.int .i64 i4) ∧ W.cell? ⟨g2, o2 + j * 12 + 1 + 3, none⟩ = some (.float .f64 f4) ∧ W.cell? ⟨g2, o2 + j * 12 + 1 + 4, none⟩ = some (.string tx4) ∧ W.cell? ⟨g2, o2 + j * 12 + 1 + 5, none⟩ = some (vb4) ∧ W.cell? ⟨g2, o2 + j * 12 + 1 + 6, none⟩ = some (.int .u64 rf4) ∧ W.cell? ⟨g2, o2 + j * 12 + 1 + 7, none⟩ = some (vl4) ∧ W.cell? ⟨g2, o2 + j * 12 + 1 + 8, none⟩ = some (vf4) ∧ W.cell? ⟨g2, o2 + j * 12 + 1 + 9, none⟩ = some (.string c4) ∧ W.cell? ⟨g2, o2 + j * 12 + 1 + 10, none⟩ = some (.int .i64 vr4))
              (first | with_reducible exact HX.out w4 HB4.out | with_reducible exact HX.out _ (Below.refl _ _) | with_reducible exact HX.out _ (Below.refl _ _).drew)
              ((first
                | (go_at_call 15; refine (HO.out _ ?_).mono ?_; exact (Below.refl _ _).drew; rintro e w4 ⟨rfl, hb4⟩; have HB4 : Hid (Below wr.heap.size wr w4) := (Below.refl _ _).drew.trans hb4; clear hb4)))
            go_wp2_with fail
            go_roundw
            case rel => exact ⟨j + 1, q, by go_num, HL.out, htN.2, HN.out, below_to HWr.out HB4.out⟩
            case measure => simp [intOf]; omega

      | cons t q =>
        obtain ⟨⟨hi1', hi2', ho, hcl⟩, hW⟩ := HR.out
        simp only [TmL.In] at hi1' hi2'
        obtain ⟨g1, o1, cs1, rfl, hg1, m1, ht1, hl1'⟩ := hi1'
        obtain ⟨g2, o2, cs2, rfl, hg2, m2, ht2, hl2'⟩ := hi2'
        have hj1 : j < l.len := by simp only [TmL.len] at hq; omega
        have hi1 : (j : Int) < (l.len : Int) := by omega
        have HL : Hid (q.len + (j + 1) = l.len) := by show _ = _; simp only [TmL.len] at hq; omega
        have htN : t.sz ≤ N ∧ q.sz ≤ N := by simp [TmL.sz] at hqN; omega
        have hs : Same S w wr := HS.out.same hbw
        have hcl' : t.clean = t ∧ q.clean = q := by simpa [TmL.clean] using hcl
        have HO := HCH.out.at htN.1 (t.In_same hs (fun _ h => h) cs1 ht1) (t.In_same hs (fun _ h => h) cs2 ht2) (HS.out.later hbw) ho.head.1 hcl'.1
        have HN : Hid ((q.In w S (some ⟨g1, o1, none⟩) (j + 1) ∧ q.In w S (some ⟨g2, o2, none⟩) (j + 1) ∧ q.Ok ∧ q.clean = q)) := ⟨hl1', hl2', ho.head.2, hcl'.2⟩
        obtain ⟨k3, b3, i3, f3, tx3, vb3, rf3, vl3, vf3, c3, vr3, rfl⟩ := Tm.In_tc ht1
        obtain ⟨k4, b4, i4, f4, tx4, vb4, rf4, vl4, vf4, c4, vr4, rfl⟩ := Tm.In_tc ht2
        have HX : Hid (∀ W, Below wr.heap.size wr W → W.cell? ⟨w.heap.size, 7, none⟩ = some (.slice (some ⟨g1, o1, none⟩) l.len cl1) ∧ W.cell? ⟨w.heap.size + 1, 7, none⟩ = some (.slice (some ⟨g2, o2, none⟩) l.len cl2) ∧ W.cell? ⟨g1, o1 + j * 11, none⟩ = some (.int .i64 k3) ∧ W.cell? ⟨g1, o1 + j * 11 + 1, none⟩ = some (.bool b3) ∧ W.cell? ⟨g1, o1 + j * 11 + 2, none⟩ = some (.int .i64 i3) ∧ W.cell? ⟨g1, o1 + j * 11 + 3, none⟩ = some (.float .f64 f3) ∧ W.cell? ⟨g1, o1 + j * 11 + 4, none⟩ = some (.string tx3) ∧ W.cell? ⟨g1, o1 + j * 11 + 5, none⟩ = some (vb3) ∧ W.cell? ⟨g1, o1 + j * 11 + 6, none⟩ = some (.int .u64 rf3) ∧ W.cell? ⟨g1, o1 + j * 11 + 7, none⟩ = some (vl3) ∧ W.cell? ⟨g1, o1 + j * 11 + 8, none⟩ = some (vf3) ∧ W.cell? ⟨g1, o1 + j * 11 + 9, none⟩ = some (.string c3) ∧ W.cell? ⟨g1, o1 + j * 11 + 10, none⟩ = some (.int .i64 vr3) ∧ W.cell? ⟨g2, o2 + j * 11, none⟩ = some (.int .i64 k4) ∧ W.cell? ⟨g2, o2 + j * 11 + 1, none⟩ = some (.bool b4) ∧ W.cell? ⟨g2, o2 + j * 11 + 2, none⟩ = some (.int .i64 i4) ∧ W.cell? ⟨g2, o2 + j * 11 + 3, none⟩ = some (.float .f64 f4) ∧ W.cell? ⟨g2, o2 + j * 11 + 4, none⟩ = some (.string tx4) ∧ W.cell? ⟨g2, o2 + j * 11 + 5, none⟩ = some (vb4) ∧ W.cell? ⟨g2, o2 + j * 11 + 6, none⟩ = some (.int .u64 rf4) ∧ W.cell? ⟨g2, o2 + j * 11 + 7, none⟩ = some (vl4) ∧ W.cell? ⟨g2, o2 + j * 11 + 8, none⟩ = some (vf4) ∧ W.cell? ⟨g2, o2 + j * 11 + 9, none⟩ = some (.string c4) ∧ W.cell? ⟨g2, o2 + j * 11 + 10, none⟩ = some (.int .i64 vr4)) := fun W hW' => by
          have hh := HT.out W (below_to hW hW')
          have h1 := HS.out.later hbw _ hg1
          have h2 := HS.out.later hbw _ hg2
          have e := eleven (w := W) (g := g1) (o := o1 + j * 11) (fun x hx => by rw [hW'.cell (p := ⟨g1, o1 + j * 11 + x, none⟩) h1, hs.cell (p := ⟨g1, o1 + j * 11 + x, none⟩) hg1]; exact m1 x hx)
          have d := eleven (w := W) (g := g2) (o := o2 + j * 11) (fun x hx => by rw [hW'.cell (p := ⟨g2, o2 + j * 11 + x, none⟩) h2, hs.cell (p := ⟨g2, o2 + j * 11 + x, none⟩) hg2]; exact m2 x hx)
          exact ⟨hh.1.2.2.2.2.2.2.2.1, hh.2.1.2.2.2.2.2.2.2.1, e.1, e.2.1, e.2.2.1, e.2.2.2.1, e.2.2.2.2.1, e.2.2.2.2.2.1, e.2.2.2.2.2.2.1, e.2.2.2.2.2.2.2.1, e.2.2.2.2.2.2.2.2.1, e.2.2.2.2.2.2.2.2.2.1, e.2.2.2.2.2.2.2.2.2.2, d⟩
        have HWr : Hid (Below T2.heap.size T2 wr) := hW
        unfold tcells at HO
        have HO : Hid _ := HO
        clear hq hqN HR ho hcl hcl' ht1 ht2 hl1' hl2' m1 m2 hs hbw hW hg1 hg2
        clear x0 x1 x2 x3 x4 x5 x6 x8 x9 x10 y0 y1 y2 y3 y4 y5 y6 y8 y9 y10
        go_wp2_with fail
        go_region_held3 (fun W => W.cell? ⟨w.heap.size, 7, none⟩ = some (.slice (some ⟨g1, o1, none⟩) l.len cl1) ∧ W.cell? ⟨w.heap.size + 1, 7, none⟩ = some (.slice (some ⟨g2, o2, none⟩) l.len cl2) ∧ W.cell? ⟨g1, o1 + j * 11, none⟩ = some (.int .i64 k3) ∧ W.cell? ⟨g1, o1 + j * 11 + 1, none⟩ = some (.bool b3) ∧ W.cell? ⟨g1, o1 + j * 11 + 2, none⟩ = some (.int .i64 i3) ∧ W.cell? ⟨g1, o1 + j * 11 + 3, none⟩ = some (.float .f64 f3) ∧ W.cell? ⟨g1, o1 + j * 11 + 4, none⟩ = some (.string tx3) ∧ W.cell? ⟨g1, o1 + j * 11 + 5, none⟩ = some (vb3) ∧ W.cell? ⟨g1, o1 + j * 11 + 6, none⟩ = some (.int .u64 rf3) ∧ W.cell? ⟨g1, o1 + j * 11 + 7, none⟩ = some (vl3) ∧ W.cell? ⟨g1, o1 + j * 11 + 8, none⟩ = some (vf3) ∧ W.cell? ⟨g1, o1 + j * 11 + 9, none⟩ = some (.string c3) ∧ W.cell? ⟨g1, o1 + j * 11 + 10, none⟩ = some (.int .i64 vr3) ∧ W.cell? ⟨g2, o2 + j * 11, none⟩ = some (.int .i64 k4) ∧ W.cell? ⟨g2, o2 + j * 11 + 1, none⟩ = some (.bool b4) ∧ W.cell? ⟨g2, o2 + j * 11 + 2, none⟩ = some (.int .i64 i4) ∧ W.cell? ⟨g2, o2 + j * 11 + 3, none⟩ = some (.float .f64 f4) ∧ W.cell? ⟨g2, o2 + j * 11 + 4, none⟩ = some (.string tx4) ∧ W.cell? ⟨g2, o2 + j * 11 + 5, none⟩ = some (vb4) ∧ W.cell? ⟨g2, o2 + j * 11 + 6, none⟩ = some (.int .u64 rf4) ∧ W.cell? ⟨g2, o2 + j * 11 + 7, none⟩ = some (vl4) ∧ W.cell? ⟨g2, o2 + j * 11 + 8, none⟩ = some (vf4) ∧ W.cell? ⟨g2, o2 + j * 11 + 9, none⟩ = some (.string c4) ∧ W.cell? ⟨g2, o2 + j * 11 + 10, none⟩ = some (.int .i64 vr4))
          (first | with_reducible exact HX.out w4 HB4.out | with_reducible exact HX.out _ (Below.refl _ _) | with_reducible exact HX.out _ (Below.refl _ _).drew)
          ((first
            | (go_at_call 15; refine (HO.out _ ?_).mono ?_; exact (Below.refl _ _).drew; rintro e w4 ⟨rfl, hb4⟩; have HB4 : Hid (Below wr.heap.size wr w4) := (Below.refl _ _).drew.trans hb4; clear hb4)))
        go_wp2_with fail
        go_roundw
        case rel => exact ⟨j + 1, q, by go_num, HL.out, htN.2, HN.out, below_to HWr.out HB4.out⟩
        case measure => simp [intOf]; omega
  · have hk4' : (FloatKind.f64.format.order 0 0 != some Ordering.eq) = false := by kernel_rfl
    obtain rfl := hf hk4
    clear hf
    go_wp2_with fail
    go_loopw [5] (fun x wr => ∃ (j : Nat) (q : TmL), x = .int .i64 j ∧ q.len + j = l.len ∧ q.sz ≤ N ∧ Hid ((q.In w S al1 j ∧ q.In w S al2 j ∧ q.Ok ∧ q.clean = q) ∧ Below T2.heap.size T2 wr)) (fun x _ => l.len - (intOf x).toNat)
    case atStart => exact ⟨0, l, rfl, rfl, hN.1, HI0.out, HW1.out⟩
    case round =>
      obtain ⟨j, q, rfl, hq, hqN, HR⟩ := hrel
      obtain ⟨⟨x0, x1, x2, x3, x4, x5, x6, x7, x8, x9, x10⟩, ⟨y0, y1, y2, y3, y4, y5, y6, y7, y8, y9, y10⟩, hbw⟩ := HT.out wr HR.out.2
      have hi0 : (0 : Int) ≤ (j : Int) := Int.natCast_nonneg _
      cases q with
      | nil =>
        have hi1 : ¬ ((j : Int) < (l.len : Int)) := by simp [TmL.len] at hq; omega
        have HWn : Hid (Below T2.heap.size T2 wr) := HR.out.2
        clear hq HR hbw
        go_wp2_with fail
        go_loopw [6] (fun x wr => ∃ (j : Nat) (q : TmF), x = .int .i64 j ∧ q.len + j = fs.len ∧ q.sz ≤ N ∧ Hid ((q.In w S af1 j ∧ q.In w S af2 j ∧ q.Ok ∧ q.clean = q) ∧ Below T2.heap.size T2 wr)) (fun x _ => fs.len - (intOf x).toNat)
        case atStart => exact ⟨0, fs, rfl, rfl, hN.2, HJ0.out, HWn.out⟩
        case round =>
          obtain ⟨j, q, rfl, hq, hqN, HR⟩ := hrel
          obtain ⟨⟨x0, x1, x2, x3, x4, x5, x6, x7, x8, x9, x10⟩, ⟨y0, y1, y2, y3, y4, y5, y6, y7, y8, y9, y10⟩, hbw⟩ := HT.out wr HR.out.2
          have hi0 : (0 : Int) ≤ (j : Int) := Int.natCast_nonneg _
          cases q with
          | nil =>
            have hi1 : ¬ ((j : Int) < (fs.len : Int)) := by simp [TmF.len] at hq; omega
            have HWn : Hid (Below T2.heap.size T2 wr) := HR.out.2
            clear hq HR hbw
            go_wp2_with fail
            go_ret
            exact ⟨rfl, (HT.out wr HWn.out).2.2⟩
          | cons nm t q =>
            obtain ⟨⟨hi1', hi2', ho, hcl⟩, hW⟩ := HR.out
            simp only [TmF.In] at hi1' hi2'
            obtain ⟨g1, o1, cs1, rfl, hg1, nc1, nb1, m1, ht1, hl1'⟩ := hi1'
            obtain ⟨g2, o2, cs2, rfl, hg2, nc2, nb2, m2, ht2, hl2'⟩ := hi2'
            have hj1 : j < fs.len := by simp only [TmF.len] at hq; omega
            have hi1 : (j : Int) < (fs.len : Int) := by omega
            have HL : Hid (q.len + (j + 1) = fs.len) := by show _ = _; simp only [TmF.len] at hq; omega
            have htN : t.sz ≤ N ∧ q.sz ≤ N := by simp [TmF.sz] at hqN; omega
            have hs : Same S w wr := HS.out.same hbw
            have hcl' : t.clean = t ∧ q.clean = q := by simpa [TmF.clean] using hcl
            have HO := HCH.out.at htN.1 (t.In_same hs (fun _ h => h) cs1 ht1) (t.In_same hs (fun _ h => h) cs2 ht2) (HS.out.later hbw) ho.head.1 hcl'.1
            have HN : Hid ((q.In w S (some ⟨g1, o1, none⟩) (j + 1) ∧ q.In w S (some ⟨g2, o2, none⟩) (j + 1) ∧ q.Ok ∧ q.clean = q)) := ⟨hl1', hl2', ho.head.2, hcl'.2⟩
            obtain ⟨k3, b3, i3, f3, tx3, vb3, rf3, vl3, vf3, c3, vr3, rfl⟩ := Tm.In_tc ht1
            obtain ⟨k4, b4, i4, f4, tx4, vb4, rf4, vl4, vf4, c4, vr4, rfl⟩ := Tm.In_tc ht2
            have HX : Hid (∀ W, Below wr.heap.size wr W → W.cell? ⟨w.heap.size, 8, none⟩ = some (.slice (some ⟨g1, o1, none⟩) fs.len cf1) ∧ W.cell? ⟨w.heap.size + 1, 8, none⟩ = some (.slice (some ⟨g2, o2, none⟩) fs.len cf2) ∧ W.cell? ⟨g1, o1 + j * 12 + 1, none⟩ = some (.int .i64 k3) ∧ W.cell? ⟨g1, o1 + j * 12 + 1 + 1, none⟩ = some (.bool b3) ∧ W.cell? ⟨g1, o1 + j * 12 + 1 + 2, none⟩ = some (.int .i64 i3) ∧ W.cell? ⟨g1, o1 + j * 12 + 1 + 3, none⟩ = some (.float .f64 f3) ∧ W.cell? ⟨g1, o1 + j * 12 + 1 + 4, none⟩ = some (.string tx3) ∧ W.cell? ⟨g1, o1 + j * 12 + 1 + 5, none⟩ = some (vb3) ∧ W.cell? ⟨g1, o1 + j * 12 + 1 + 6, none⟩ = some (.int .u64 rf3) ∧ W.cell? ⟨g1, o1 + j * 12 + 1 + 7, none⟩ = some (vl3) ∧ W.cell? ⟨g1, o1 + j * 12 + 1 + 8, none⟩ = some (vf3) ∧ W.cell? ⟨g1, o1 + j * 12 + 1 + 9, none⟩ = some (.string c3) ∧ W.cell? ⟨g1, o1 + j * 12 + 1 + 10, none⟩ = some (.int .i64 vr3) ∧ W.cell? ⟨g2, o2 + j * 12 + 1, none⟩ = some (.int .i64 k4) ∧ W.cell? ⟨g2, o2 + j * 12 + 1 + 1, none⟩ = some (.bool b4) ∧ W.cell? ⟨g2, o2 + j * 12 + 1 + 2, none⟩ = some (.int .i64 i4) ∧ W.cell? ⟨g2, o2 + j * 12 + 1 + 3, none⟩ = some (.float .f64 f4) ∧ W.cell? ⟨g2, o2 + j * 12 + 1 + 4, none⟩ = some (.string tx4) ∧ W.cell? ⟨g2, o2 + j * 12 + 1 + 5, none⟩ = some (vb4) ∧ W.cell? ⟨g2, o2 + j * 12 + 1 + 6, none⟩ = some (.int .u64 rf4) ∧ W.cell? ⟨g2, o2 + j * 12 + 1 + 7, none⟩ = some (vl4) ∧ W.cell? ⟨g2, o2 + j * 12 + 1 + 8, none⟩ = some (vf4) ∧ W.cell? ⟨g2, o2 + j * 12 + 1 + 9, none⟩ = some (.string c4) ∧ W.cell? ⟨g2, o2 + j * 12 + 1 + 10, none⟩ = some (.int .i64 vr4)) := fun W hW' => by
              have hh := HT.out W (below_to hW hW')
              have h1 := HS.out.later hbw _ hg1
              have h2 := HS.out.later hbw _ hg2
              have e := eleven (w := W) (g := g1) (o := o1 + j * 12 + 1) (fun x hx => by rw [hW'.cell (p := ⟨g1, o1 + j * 12 + 1 + x, none⟩) h1, hs.cell (p := ⟨g1, o1 + j * 12 + 1 + x, none⟩) hg1]; exact m1 x hx)
              have d := eleven (w := W) (g := g2) (o := o2 + j * 12 + 1) (fun x hx => by rw [hW'.cell (p := ⟨g2, o2 + j * 12 + 1 + x, none⟩) h2, hs.cell (p := ⟨g2, o2 + j * 12 + 1 + x, none⟩) hg2]; exact m2 x hx)
              exact ⟨hh.1.2.2.2.2.2.2.2.2.1, hh.2.1.2.2.2.2.2.2.2.2.1, e.1, e.2.1, e.2.2.1, e.2.2.2.1, e.2.2.2.2.1, e.2.2.2.2.2.1, e.2.2.2.2.2.2.1, e.2.2.2.2.2.2.2.1, e.2.2.2.2.2.2.2.2.1, e.2.2.2.2.2.2.2.2.2.1, e.2.2.2.2.2.2.2.2.2.2, d⟩
            have HWr : Hid (Below T2.heap.size T2 wr) := hW
            unfold tcells at HO
            have HO : Hid _ := HO
            clear hq hqN HR ho hcl hcl' ht1 ht2 hl1' hl2' m1 m2 hs hbw hW hg1 hg2 nc1 nc2 nb1 nb2
            clear x0 x1 x2 x3 x4 x5 x6 x7 x9 x10 y0 y1 y2 y3 y4 y5 y6 y7 y9 y10
            go_wp2_with fail
            go_region_held3 (fun W => W.cell? ⟨w.heap.size, 8, none⟩ = some (.slice (some ⟨g1, o1, none⟩) fs.len cf1) ∧ W.cell? ⟨w.heap.size + 1, 8, none⟩ = some (.slice (some ⟨g2, o2, none⟩) fs.len cf2) ∧ W.cell? ⟨g1, o1 + j * 12 + 1, none⟩ = some (.int .i64 k3) ∧ W.cell? ⟨g1, o1 + j * 12 + 1 + 1, none⟩ = some (.bool b3) ∧ W.cell? ⟨g1, o1 + j * 12 + 1 + 2, none⟩ = some (.int .i64 i3) ∧ W.cell? ⟨g1, o1 + j * 12 + 1 + 3, none⟩ = some (.float .f64 f3) ∧ W.cell? ⟨g1, o1 + j * 12 + 1 + 4, none⟩ = some (.string tx3) ∧ W.cell? ⟨g1, o1 + j * 12 + 1 + 5, none⟩ = some (vb3) ∧ W.cell? ⟨g1, o1 + j * 12 + 1 + 6, none⟩ = some (.int .u64 rf3) ∧ W.cell? ⟨g1, o1 + j * 12 + 1 + 7, none⟩ = some (vl3) ∧ W.cell? ⟨g1, o1 + j * 12 + 1 + 8, none⟩ = some (vf3) ∧ W.cell? ⟨g1, o1 + j * 12 + 1 + 9, none⟩ = some (.string c3) ∧ W.cell? ⟨g1, o1 + j * 12 + 1 + 10, none⟩ = some (.int .i64 vr3) ∧ W.cell? ⟨g2, o2 + j * 12 + 1, none⟩ = some (.int .i64 k4) ∧ W.cell? ⟨g2, o2 + j * 12 + 1 + 1, none⟩ = some (.bool b4) ∧ W.cell? ⟨g2, o2 + j * 12 + 1 + 2, none⟩ = some (.int .i64 i4) ∧ W.cell? ⟨g2, o2 + j * 12 + 1 + 3, none⟩ = some (.float .f64 f4) ∧ W.cell? ⟨g2, o2 + j * 12 + 1 + 4, none⟩ = some (.string tx4) ∧ W.cell? ⟨g2, o2 + j * 12 + 1 + 5, none⟩ = some (vb4) ∧ W.cell? ⟨g2, o2 + j * 12 + 1 + 6, none⟩ = some (.int .u64 rf4) ∧ W.cell? ⟨g2, o2 + j * 12 + 1 + 7, none⟩ = some (vl4) ∧ W.cell? ⟨g2, o2 + j * 12 + 1 + 8, none⟩ = some (vf4) ∧ W.cell? ⟨g2, o2 + j * 12 + 1 + 9, none⟩ = some (.string c4) ∧ W.cell? ⟨g2, o2 + j * 12 + 1 + 10, none⟩ = some (.int .i64 vr4))
              (first | with_reducible exact HX.out w4 HB4.out | with_reducible exact HX.out _ (Below.refl _ _) | with_reducible exact HX.out _ (Below.refl _ _).drew)
              ((first
                | (go_at_call 15; refine (HO.out _ ?_).mono ?_; exact (Below.refl _ _).drew; rintro e w4 ⟨rfl, hb4⟩; have HB4 : Hid (Below wr.heap.size wr w4) := (Below.refl _ _).drew.trans hb4; clear hb4)))
            go_wp2_with fail
            go_roundw
            case rel => exact ⟨j + 1, q, by go_num, HL.out, htN.2, HN.out, below_to HWr.out HB4.out⟩
            case measure => simp [intOf]; omega

      | cons t q =>
        obtain ⟨⟨hi1', hi2', ho, hcl⟩, hW⟩ := HR.out
        simp only [TmL.In] at hi1' hi2'
        obtain ⟨g1, o1, cs1, rfl, hg1, m1, ht1, hl1'⟩ := hi1'
        obtain ⟨g2, o2, cs2, rfl, hg2, m2, ht2, hl2'⟩ := hi2'
        have hj1 : j < l.len := by simp only [TmL.len] at hq; omega
        have hi1 : (j : Int) < (l.len : Int) := by omega
        have HL : Hid (q.len + (j + 1) = l.len) := by show _ = _; simp only [TmL.len] at hq; omega
        have htN : t.sz ≤ N ∧ q.sz ≤ N := by simp [TmL.sz] at hqN; omega
        have hs : Same S w wr := HS.out.same hbw
        have hcl' : t.clean = t ∧ q.clean = q := by simpa [TmL.clean] using hcl
        have HO := HCH.out.at htN.1 (t.In_same hs (fun _ h => h) cs1 ht1) (t.In_same hs (fun _ h => h) cs2 ht2) (HS.out.later hbw) ho.head.1 hcl'.1
        have HN : Hid ((q.In w S (some ⟨g1, o1, none⟩) (j + 1) ∧ q.In w S (some ⟨g2, o2, none⟩) (j + 1) ∧ q.Ok ∧ q.clean = q)) := ⟨hl1', hl2', ho.head.2, hcl'.2⟩
        obtain ⟨k3, b3, i3, f3, tx3, vb3, rf3, vl3, vf3, c3, vr3, rfl⟩ := Tm.In_tc ht1
        obtain ⟨k4, b4, i4, f4, tx4, vb4, rf4, vl4, vf4, c4, vr4, rfl⟩ := Tm.In_tc ht2
        have HX : Hid (∀ W, Below wr.heap.size wr W → W.cell? ⟨w.heap.size, 7, none⟩ = some (.slice (some ⟨g1, o1, none⟩) l.len cl1) ∧ W.cell? ⟨w.heap.size + 1, 7, none⟩ = some (.slice (some ⟨g2, o2, none⟩) l.len cl2) ∧ W.cell? ⟨g1, o1 + j * 11, none⟩ = some (.int .i64 k3) ∧ W.cell? ⟨g1, o1 + j * 11 + 1, none⟩ = some (.bool b3) ∧ W.cell? ⟨g1, o1 + j * 11 + 2, none⟩ = some (.int .i64 i3) ∧ W.cell? ⟨g1, o1 + j * 11 + 3, none⟩ = some (.float .f64 f3) ∧ W.cell? ⟨g1, o1 + j * 11 + 4, none⟩ = some (.string tx3) ∧ W.cell? ⟨g1, o1 + j * 11 + 5, none⟩ = some (vb3) ∧ W.cell? ⟨g1, o1 + j * 11 + 6, none⟩ = some (.int .u64 rf3) ∧ W.cell? ⟨g1, o1 + j * 11 + 7, none⟩ = some (vl3) ∧ W.cell? ⟨g1, o1 + j * 11 + 8, none⟩ = some (vf3) ∧ W.cell? ⟨g1, o1 + j * 11 + 9, none⟩ = some (.string c3) ∧ W.cell? ⟨g1, o1 + j * 11 + 10, none⟩ = some (.int .i64 vr3) ∧ W.cell? ⟨g2, o2 + j * 11, none⟩ = some (.int .i64 k4) ∧ W.cell? ⟨g2, o2 + j * 11 + 1, none⟩ = some (.bool b4) ∧ W.cell? ⟨g2, o2 + j * 11 + 2, none⟩ = some (.int .i64 i4) ∧ W.cell? ⟨g2, o2 + j * 11 + 3, none⟩ = some (.float .f64 f4) ∧ W.cell? ⟨g2, o2 + j * 11 + 4, none⟩ = some (.string tx4) ∧ W.cell? ⟨g2, o2 + j * 11 + 5, none⟩ = some (vb4) ∧ W.cell? ⟨g2, o2 + j * 11 + 6, none⟩ = some (.int .u64 rf4) ∧ W.cell? ⟨g2, o2 + j * 11 + 7, none⟩ = some (vl4) ∧ W.cell? ⟨g2, o2 + j * 11 + 8, none⟩ = some (vf4) ∧ W.cell? ⟨g2, o2 + j * 11 + 9, none⟩ = some (.string c4) ∧ W.cell? ⟨g2, o2 + j * 11 + 10, none⟩ = some (.int .i64 vr4)) := fun W hW' => by
          have hh := HT.out W (below_to hW hW')
          have h1 := HS.out.later hbw _ hg1
          have h2 := HS.out.later hbw _ hg2
          have e := eleven (w := W) (g := g1) (o := o1 + j * 11) (fun x hx => by rw [hW'.cell (p := ⟨g1, o1 + j * 11 + x, none⟩) h1, hs.cell (p := ⟨g1, o1 + j * 11 + x, none⟩) hg1]; exact m1 x hx)
          have d := eleven (w := W) (g := g2) (o := o2 + j * 11) (fun x hx => by rw [hW'.cell (p := ⟨g2, o2 + j * 11 + x, none⟩) h2, hs.cell (p := ⟨g2, o2 + j * 11 + x, none⟩) hg2]; exact m2 x hx)
          exact ⟨hh.1.2.2.2.2.2.2.2.1, hh.2.1.2.2.2.2.2.2.2.1, e.1, e.2.1, e.2.2.1, e.2.2.2.1, e.2.2.2.2.1, e.2.2.2.2.2.1, e.2.2.2.2.2.2.1, e.2.2.2.2.2.2.2.1, e.2.2.2.2.2.2.2.2.1, e.2.2.2.2.2.2.2.2.2.1, e.2.2.2.2.2.2.2.2.2.2, d⟩
        have HWr : Hid (Below T2.heap.size T2 wr) := hW
        unfold tcells at HO
        have HO : Hid _ := HO
        clear hq hqN HR ho hcl hcl' ht1 ht2 hl1' hl2' m1 m2 hs hbw hW hg1 hg2
        clear x0 x1 x2 x3 x4 x5 x6 x8 x9 x10 y0 y1 y2 y3 y4 y5 y6 y8 y9 y10
        go_wp2_with fail
        go_region_held3 (fun W => W.cell? ⟨w.heap.size, 7, none⟩ = some (.slice (some ⟨g1, o1, none⟩) l.len cl1) ∧ W.cell? ⟨w.heap.size + 1, 7, none⟩ = some (.slice (some ⟨g2, o2, none⟩) l.len cl2) ∧ W.cell? ⟨g1, o1 + j * 11, none⟩ = some (.int .i64 k3) ∧ W.cell? ⟨g1, o1 + j * 11 + 1, none⟩ = some (.bool b3) ∧ W.cell? ⟨g1, o1 + j * 11 + 2, none⟩ = some (.int .i64 i3) ∧ W.cell? ⟨g1, o1 + j * 11 + 3, none⟩ = some (.float .f64 f3) ∧ W.cell? ⟨g1, o1 + j * 11 + 4, none⟩ = some (.string tx3) ∧ W.cell? ⟨g1, o1 + j * 11 + 5, none⟩ = some (vb3) ∧ W.cell? ⟨g1, o1 + j * 11 + 6, none⟩ = some (.int .u64 rf3) ∧ W.cell? ⟨g1, o1 + j * 11 + 7, none⟩ = some (vl3) ∧ W.cell? ⟨g1, o1 + j * 11 + 8, none⟩ = some (vf3) ∧ W.cell? ⟨g1, o1 + j * 11 + 9, none⟩ = some (.string c3) ∧ W.cell? ⟨g1, o1 + j * 11 + 10, none⟩ = some (.int .i64 vr3) ∧ W.cell? ⟨g2, o2 + j * 11, none⟩ = some (.int .i64 k4) ∧ W.cell? ⟨g2, o2 + j * 11 + 1, none⟩ = some (.bool b4) ∧ W.cell? ⟨g2, o2 + j * 11 + 2, none⟩ = some (.int .i64 i4) ∧ W.cell? ⟨g2, o2 + j * 11 + 3, none⟩ = some (.float .f64 f4) ∧ W.cell? ⟨g2, o2 + j * 11 + 4, none⟩ = some (.string tx4) ∧ W.cell? ⟨g2, o2 + j * 11 + 5, none⟩ = some (vb4) ∧ W.cell? ⟨g2, o2 + j * 11 + 6, none⟩ = some (.int .u64 rf4) ∧ W.cell? ⟨g2, o2 + j * 11 + 7, none⟩ = some (vl4) ∧ W.cell? ⟨g2, o2 + j * 11 + 8, none⟩ = some (vf4) ∧ W.cell? ⟨g2, o2 + j * 11 + 9, none⟩ = some (.string c4) ∧ W.cell? ⟨g2, o2 + j * 11 + 10, none⟩ = some (.int .i64 vr4))
          (first | with_reducible exact HX.out w4 HB4.out | with_reducible exact HX.out _ (Below.refl _ _) | with_reducible exact HX.out _ (Below.refl _ _).drew)
          ((first
            | (go_at_call 15; refine (HO.out _ ?_).mono ?_; exact (Below.refl _ _).drew; rintro e w4 ⟨rfl, hb4⟩; have HB4 : Hid (Below wr.heap.size wr w4) := (Below.refl _ _).drew.trans hb4; clear hb4)))
        go_wp2_with fail
        go_roundw
        case rel => exact ⟨j + 1, q, by go_num, HL.out, htN.2, HN.out, below_to HWr.out HB4.out⟩
        case measure => simp [intOf]; omega

theorem same_any (N : Nat) : SaC N := by
  induction N with
  | zero => intro t ht; cases t; simp [Tm.sz] at ht
  | succ N ih =>
    intro u hN ca cb S w ha hb hS ho hc
    have HM := fun W hW => (msame_any u.sz).at (Nat.le_refl _) (by have := Tm.clean_eqv u ho; rw [hc] at this; exact this) ha hb hS W hW
    cases u with
    | mk k b i f tx by' rf l fs c vr =>
      have hlN : l.sz ≤ N ∧ fs.sz ≤ N := by simp [Tm.sz] at hN; omega
      obtain ⟨c1, c2, c3⟩ := clean_parts hc ho
      simp only [Tm.In] at ha hb
      obtain ⟨ab1, cb1, al1, cl1, af1, cf1, rfl, hbd, hb1, hl1, hf1⟩ := ha
      obtain ⟨ab2, cb2, al2, cl2, af2, cf2, rfl, _, hb2, hl2, hf2⟩ := hb
      exact same_step N ih k b i f tx by' rf l fs c vr ab1 cb1 al1 cl1 af1 cf1 ab2 cb2 al2 cl2 af2 cf2 S w hS hlN ⟨by have := hbd.nl; omega, by have := hbd.nf; omega⟩ c1 c2 c3 hb1 hb2 hl1 hl2 hf1 hf2 HM
end Go.Proofs.Ytdklpdclbedceaa
