/- The document's product of two values. -/
import Derived.Test.YtocoflojlliapaaDoorS3
set_option linter.unusedVariables false
namespace Go.Proofs.YtocoflojlliapaaDoor
open Go.RowKit
theorem mul_sign (x y : Int) : signB (decide (x < 0) != decide (y < 0)) (y.natAbs * x.natAbs) = decide (x * y < 0) := by
  by_cases hx : x = 0
  · subst hx
    rw [show (0 : Int).natAbs = 0 from rfl, Nat.mul_zero, signB_zero, Int.zero_mul]
    rfl
  by_cases hy : y = 0
  · subst hy
    rw [show (0 : Int).natAbs = 0 from rfl, Nat.zero_mul, signB_zero, Int.mul_zero]
    rfl
  rw [signB_pos _ (Nat.mul_ne_zero (by omega) (by omega))]
  by_cases h1 : x < 0 <;> by_cases h2 : y < 0
  · have : 0 < x * y := Int.mul_pos_of_neg_of_neg h1 h2
    rw [decide_eq_true h1, decide_eq_true h2, decide_eq_false (by omega)]; rfl
  · have : x * y < 0 := Int.mul_neg_of_neg_of_pos h1 (by omega)
    rw [decide_eq_true h1, decide_eq_false h2, decide_eq_true this]; rfl
  · have : x * y < 0 := Int.mul_neg_of_pos_of_neg (by omega) h2
    rw [decide_eq_false h1, decide_eq_true h2, decide_eq_true this]; rfl
  · have : 0 < x * y := Int.mul_pos (by omega) (by omega)
    rw [decide_eq_false h1, decide_eq_false h2, decide_eq_false (by omega)]; rfl
/-- the product by now -/
def Pr (xs : List Nat) (b m2 i P Q m : Nat) : Prop := m = bl P ∧ P = b * val 2 (xs.take i) ∧ Q = b * 2 ^ i
theorem Pr.len {xs : List Nat} {b m2 i P Q m : Nat} (h : Pr xs b m2 i P Q m) (hb : b < 2 ^ m2) (hx : Low 2 xs) : m ≤ m2 + i := by
  obtain ⟨rfl, rfl, rfl⟩ := h
  rw [bl_le, Nat.pow_add]
  have h1 := val_lt (by decide) (hx.take i)
  have h2 : (2 : Nat) ^ (xs.take i).length ≤ 2 ^ i := pow_mono (by decide) (by rw [List.length_take]; exact Nat.min_le_left _ _)
  have h3 : val 2 (xs.take i) < 2 ^ i := Nat.lt_of_lt_of_le h1 h2
  calc b * val 2 (xs.take i) ≤ b * 2 ^ i := Nat.mul_le_mul_left _ (Nat.le_of_lt h3)
    _ < 2 ^ m2 * 2 ^ i := Nat.mul_lt_mul_of_pos_right hb (Nat.pow_pos (by decide))
theorem Pr.one {xs : List Nat} {b m2 i P Q m : Nat} (h : Pr xs b m2 i P Q m) (hx : lmb xs i = 1) : Pr xs b m2 (i + 1) (P + Q) (2 * Q) (bl (P + Q)) := by
  obtain ⟨h1, h2, h3⟩ := h
  refine ⟨rfl, ?_, ?_⟩
  · rw [vtake, hx, h2, h3, Nat.mul_one, Nat.mul_add]
  · rw [h3, Nat.pow_succ]; grind
theorem Pr.nought {xs : List Nat} {b m2 i P Q m : Nat} (h : Pr xs b m2 i P Q m) (hx : lmb xs i = 0) : Pr xs b m2 (i + 1) P (2 * Q) m := by
  obtain ⟨h1, h2, h3⟩ := h
  refine ⟨h1, ?_, ?_⟩
  · rw [vtake, hx, h2, Nat.mul_zero, Nat.add_zero]
  · rw [h3, Nat.pow_succ]; grind
set_option maxHeartbeats 3200000 in
theorem refmul_at (r1 r2 : Bool) (A1 A2 : Option Addr) (m1 c1 m2 c2 : Nat) (x y : Int) (w : World) (h1 : BVal w r1 A1 m1 c1 x) (h2 : BVal w r2 A2 m2 c2 y) (l1 : m1 ≤ 10000) (l2 : m2 ≤ 10000) :
    Calls Tryd.prog 39 #[.agg #[.bool r1, .slice A1 m1 c1], .agg #[.bool r2, .slice A2 m2 c2]] w fun e w' => ∃ r B m d, e = .returned (.agg #[.bool r, .slice B m d]) ∧ BVal w' r B m d (x * y) ∧ Below w.heap.size w w' := by
  obtain ⟨W, hW⟩ : ∃ W, W = ((w.alloc (.cells #[.bool r1, .slice A1 m1 c1] 30)).alloc (.cells #[.bool r2, .slice A2 m2 c2] 30)).alloc (.cells #[.bool false, .slice none 0 0] 30) := ⟨_, rfl⟩
  obtain ⟨t1, t2, t3, hbW, hWs⟩ := boxesW w _ _ _ _ W hW
  have HS : Hid (r1 = decide (x < 0) ∧ r2 = decide (y < 0)) := Lib.hid ⟨h1.1, h2.1⟩
  obtain ⟨a, ha⟩ : ∃ a, a = x.natAbs := ⟨_, rfl⟩
  obtain ⟨b, hb⟩ : ∃ b, b = y.natAbs := ⟨_, rfl⟩
  have B1 := h1.2.2.below hbW
  have B2 := h2.2.2.below hbW
  rw [← ha] at B1
  rw [← hb] at B2
  have HAB := Lib.hid (And.intro ha hb)
  have HBL : b < 2 ^ m2 := by
    obtain ⟨ys, y1, y2, y3, y4, y5⟩ := B2
    have := val_lt (by decide) y2
    rw [y3, y4] at this
    exact this
  have HB2 := Lib.hid HBL
  obtain ⟨xs, x1, x2, x3, x4, x5⟩ := B1
  obtain ⟨ys, y1, y2, y3, y4, y5⟩ := B2
  have HX := Lib.hid (And.intro x2 (And.intro x3 x4))
  have HY := Lib.hid (And.intro y2 (And.intro y3 y4))
  have Y3 := Lib.hid y3
  have X3 := Lib.hid x3
  obtain ⟨s, hs⟩ : ∃ s, (r1 == r2) = s := ⟨_, rfl⟩
  have HSS := Lib.hid hs
  have k1 := t2.snd
  clear ha hb h1 h2 HBL x2 x3 x4 x5 y2 y3 y4 y5
  go_enter Tryd.func39, Tryd.ntmps39
  go_wp2_with (at_builtin; rw [← hW]; refine app_any (k := .u8) 28 5 1 Tryd.underlying28 u8_info (by decide) _ rfl _ _ rfl rfl W.heap.size (.slice none 0 0) 0 [] rfl own_nil W.heap.size A2 m2 c2 ys rfl y1 Y3 (by omega) (Nat.le_refl _) ?_; intro v0 w0 hown0 hgr0; obtain ⟨B0, d0, rfl⟩ := own_slice hown0)
  have HW := Lib.hid hW
  have HWS := Lib.hid hWs
  clear hW hWs
  have b0 : Below W.heap.size W w0 := Below.grown (Below.refl _ _) hgr0 (Nat.le_refl _) (by simp [Value.ownBlock])
  have Q0 : Bit w0 B0 m2 d0 b := ⟨ys, by
    have h := Lim.of_own (k := .u8) (xs := ys) (by rw [Y3.out]; simpa using hown0)
    exact h, HY.out.1, Y3.out, HY.out.2.2, by simpa using own_cap hown0⟩
  clear hgr0 hown0 k1
  go_loopw [5, 6, 7] (fun ov rv iv wr => ∃ (i : Nat) (B A : Option Addr) (m d n c P Q : Nat), i ≤ m1 ∧ iv = .int .i64 i ∧ ov = .slice B m d ∧ rv = .slice A n c ∧ n ≤ m2 + i ∧ Bit wr B m d P ∧ Bit wr A n c Q ∧ Hid (Pr xs b m2 i P Q m) ∧ Fro W.heap.size B m ∧ Below W.heap.size W wr) (fun _ _ iv _ => m1 - (intOf iv).toNat)
  case atStart => exact ⟨0, none, B0, 0, 0, m2, d0, 0, b, Nat.zero_le _, rfl, rfl, rfl, Nat.le_refl _, Bit.none_ _, Q0, Lib.hid ⟨rfl, by simp [val], by simp⟩, Fro.none_ _ _, b0⟩
  case round =>
    obtain ⟨i, B, A, m, d, n, c, P, Q, hi, rfl, rfl, rfl, hn, hP, hQ, HP, hF, hbel⟩ := hrel
    have k1 := (t1.below' hbel).snd
    have hm : m ≤ m2 + i := HP.out.len HB2.out HX.out.1
    by_cases hlt : i < m1
    · have hi' : i < xs.length := by rw [X3.out]; exact hlt
      obtain ⟨ad, rfl, hb, hcell⟩ := (x1.below hbel).at hi'
      have hle := bit_lt HX.out.1 i
      have e : xs[i] = lmb xs i := (lmb_in hi').symm
      rw [e] at hcell
      obtain ⟨zs, z1, z2, z3, z4, z5⟩ := hQ
      have Z3 := Lib.hid z3
      have HQ := Lib.hid (And.intro z2 z4)
      have HL : Hid (lmb xs i = lmb xs i) := Lib.hid rfl
      rcases (show lmb xs i = 0 ∨ lmb xs i = 1 by omega) with h0 | h0
      · have HN := Lib.hid (HP.out.nought h0)
        rw [h0] at hcell
        clear h0 e hle HL z2 z3 z4
        have BO : (wr.alloc (.cells #[.int .u8 0] 5)).ownsRow W.heap.size 5 1 (.slice (some ⟨wr.heap.size, 0, none⟩) 1 1) 1 (cl .u8 [0]) := World.ownsRow_lit (base := W.heap.size) (e := 5) (size := 1) wr #[.int .u8 0] 1 hbel.size (by unfold maxLen; omega) rfl
        have hal : Below wr.heap.size wr (wr.alloc (.cells #[.int .u8 0] 5)) := below_al (Below.refl _ _) _
        have sz : W.heap.size ≤ (wr.alloc (.cells #[.int .u8 0] 5)).heap.size := by have := hbel.size; simp; omega
        have zl := z1.below hal
        go_wp2_with (at_builtin; refine app_any (k := .u8) 28 5 1 Tryd.underlying28 u8_info (by decide) _ rfl _ _ rfl rfl W.heap.size (.slice (some ⟨wr.heap.size, 0, none⟩) 1 1) 1 [0] rfl BO wr.heap.size A n c zs rfl zl Z3 (by omega) sz ?_; intro v3 w3 hown3 hgr3; refine Hid.out ?_)
        refine Lib.hid ?_
        obtain ⟨A3, d3, rfl⟩ := own_slice hown3
        have hb0 : Below wr.heap.size wr w3 := hal.grown hgr3 (by simp) (fun k hk => by simp [Value.ownBlock] at hk; omega)
        have hb3 : Below W.heap.size W w3 := below_then hbel hb0
        have hQ3 : Bit w3 A3 (1 + n) d3 (2 * Q) := ⟨[0] ++ zs, by
          have h := Lim.of_own (k := .u8) (xs := [0] ++ zs) (by rw [List.length_append, Z3.out]; exact hown3)
          exact h, Low.cons (by decide) HQ.out.1, by rw [List.length_append, Z3.out]; rfl, by simp [val]; rw [HQ.out.2], own_cap hown3⟩
        have hP3 := hP.below hb0
        clear hgr3 hown3 hal BO hb0 zl sz
        go_wp2
        go_roundw
        case rel => exact ⟨i + 1, B, A3, m, d, 1 + n, d3, P, 2 * Q, by omega, by go_num, rfl, rfl, by omega, hP3, hQ3, HN, hF, hb3⟩
        case measure => simp [intOf]; omega
      · have HN := Lib.hid (HP.out.one h0)
        rw [h0] at hcell
        clear h0 e hle HL z2 z3 z4
        have PL := Lib.hid (plusB B A m d n c P Q wr hP ⟨zs, z1, HQ.out.1, Z3.out, HQ.out.2, z5⟩ (by omega) (by omega))
        go_wp2_with fail
        refine (PL.out).mono ?_
        rintro e y ⟨B4, d4, rfl, hB4, hF4, b4⟩
        have zl0 := z1.below b4
        have BO : (y.alloc (.cells #[.int .u8 0] 5)).ownsRow W.heap.size 5 1 (.slice (some ⟨y.heap.size, 0, none⟩) 1 1) 1 (cl .u8 [0]) := World.ownsRow_lit (base := W.heap.size) (e := 5) (size := 1) y #[.int .u8 0] 1 (by have := hbel.size; have := b4.size; omega) (by unfold maxLen; omega) rfl
        have hal : Below y.heap.size y (y.alloc (.cells #[.int .u8 0] 5)) := below_al (Below.refl _ _) _
        have sz : W.heap.size ≤ (y.alloc (.cells #[.int .u8 0] 5)).heap.size := by have := hbel.size; have := b4.size; simp; omega
        have zl := zl0.below (hal.mono b4.size)
        have PB := below_then hbel b4
        clear PL
        go_wp2_with (at_builtin; refine app_any (k := .u8) 28 5 1 Tryd.underlying28 u8_info (by decide) _ rfl _ _ rfl rfl W.heap.size (.slice (some ⟨y.heap.size, 0, none⟩) 1 1) 1 [0] rfl BO wr.heap.size A n c zs rfl zl Z3 (by omega) sz ?_; intro v3 w3 hown3 hgr3; refine Hid.out ?_)
        refine Lib.hid ?_
        obtain ⟨A3, d3, rfl⟩ := own_slice hown3
        have hb0 : Below y.heap.size y w3 := hal.grown hgr3 (by simp) (fun k hk => by simp [Value.ownBlock] at hk; omega)
        have hb3 : Below W.heap.size W w3 := below_then PB hb0
        have hQ3 : Bit w3 A3 (1 + n) d3 (2 * Q) := ⟨[0] ++ zs, by
          have h := Lim.of_own (k := .u8) (xs := [0] ++ zs) (by rw [List.length_append, Z3.out]; exact hown3)
          exact h, Low.cons (by decide) HQ.out.1, by rw [List.length_append, Z3.out]; rfl, by simp [val]; rw [HQ.out.2], own_cap hown3⟩
        have hP3 := hB4.below hb0
        have hF5 := hF4.mono hbel.size
        clear hgr3 hown3 hal BO hb0 zl sz hF4 zl0 PB
        go_wp2
        go_roundw
        case rel => exact ⟨i + 1, B4, A3, _, d4, 1 + n, d3, P + Q, 2 * Q, by omega, by go_num, rfl, rfl, by omega, hP3, hQ3, HN, hF5, hb3⟩
        case measure => simp [intOf]; omega
    · obtain rfl : m1 = i := by omega
      have HV : Hid (m = bl P ∧ P = b * a) := Lib.hid (by
        obtain ⟨e1, e2, e3⟩ := HP.out
        rw [List.take_of_length_le (by rw [X3.out]; exact Nat.le_refl _), HX.out.2.2] at e2
        exact ⟨e1, e2⟩)
      have VS := Lib.hid ((value_any (!s) B m d P wr hP (by omega)))
      have p3 := t3.below' hbel
      have k3 := (t1.below' hbel).fst
      have k4 := (t2.below' hbel).fst
      have hs' := HSS.out
      go_wp2_with fail
      refine (VS.out).mono ?_
      rintro e ye ⟨rfl, b5⟩
      have p4 := p3.below' b5
      have s5 := p4.fst
      have s6 := p4.snd
      have s7 := p4.free 0
      have s8 := p4.free 1
      clear hs'
      go_wp2
      have hf := p4.set2 (a' := .bool (signB (!s) P)) (b' := .slice B (bl P) d)
      have f0 := hf.fst
      have f1 := hf.snd
      refine bodyPost_ret (v := .agg #[.bool (signB (!s) P), .slice B (bl P) d]) (by simp [results, Tryd.results39, go_sem, f0, f1]) rfl ⟨_, B, _, d, rfl, ⟨?_, ?_, ?_⟩, below_two (g := w.heap.size + 2) (below_then hbW (below_then hbel b5)) (by omega)⟩
      · rw [← HSS.out, HS.out.1, HS.out.2, HV.out.2, HAB.out.1, HAB.out.2]
        exact mul_sign x y
      · rw [HV.out.2, HAB.out.1, HAB.out.2, Int.natAbs_mul, Nat.mul_comm]
      · rw [show (x * y).natAbs = P by rw [HV.out.2, HAB.out.1, HAB.out.2, Int.natAbs_mul, Nat.mul_comm]]
        have := (hP.below b5).trim.far2 (g := w.heap.size + 2) (u := .bool (signB (!s) P)) (v := .slice B (bl P) d) ((hF.cut (by rw [HV.out.1]; exact Nat.le_refl _)).mono (by have := HWS.out; omega))
        exact this
end Go.Proofs.YtocoflojlliapaaDoor
