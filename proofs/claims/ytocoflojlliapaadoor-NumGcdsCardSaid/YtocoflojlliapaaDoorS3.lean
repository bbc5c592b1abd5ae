/- The document's sum of two values. -/
import Derived.Test.YtocoflojlliapaaDoorS2
import Derived.Test.YtocoflojlliapaaDoorK9
set_option linter.unusedVariables false
namespace Go.Proofs.YtocoflojlliapaaDoor
open Go.RowKit
theorem boxesW (w : World) (a b a' b' : Value) : ∀ W, W = ((w.alloc (.cells #[a, b] 30)).alloc (.cells #[a', b'] 30)).alloc (.cells #[.bool false, .slice none 0 0] 30) →
    Two W w.heap.size 30 a b ∧ Two W (w.heap.size + 1) 30 a' b' ∧ Two W (w.heap.size + 2) 30 (.bool false) (.slice none 0 0) ∧ Below w.heap.size w W ∧ W.heap.size = w.heap.size + 3 := by
  rintro W rfl
  refine ⟨((Two.made w 30 a b).alloc _).alloc _, ?_, ?_, below_al (below_al (below_al (Below.refl _ _) _) _) _, by simp⟩
  · have := (Two.made (w.alloc (.cells #[a, b] 30)) 30 a' b').alloc (.cells #[.bool false, .slice none 0 0] 30)
    simpa using this
  · have := Two.made ((w.alloc (.cells #[a, b] 30)).alloc (.cells #[a', b'] 30)) 30 (.bool false) (.slice none 0 0)
    simpa using this
theorem lt_bl (N : Nat) : N < 2 ^ bl N := digs_lt_pow (by decide) N
theorem pow_two_sum {a b p q k : Nat} (h1 : a < p) (h2 : b < q) (p1 : p ≤ 2 ^ k) (p2 : q ≤ 2 ^ k) : a + b < 2 ^ (k + 1) := by
  rw [Nat.pow_succ]
  omega
theorem len_sum {a b k : Nat} (h1 : bl a ≤ k) (h2 : bl b ≤ k) : bl (a + b) ≤ k + 1 := by
  rw [bl_le]
  exact pow_two_sum (lt_bl a) (lt_bl b) (pow_mono (by decide) h1) (pow_mono (by decide) h2)
set_option maxHeartbeats 3200000 in
theorem refadd_same (r : Bool) (A1 A2 : Option Addr) (m1 c1 m2 c2 : Nat) (x y : Int) (w : World) (h1 : BVal w r A1 m1 c1 x) (h2 : BVal w r A2 m2 c2 y) (l1 : m1 ≤ 100000) (l2 : m2 ≤ 100000) :
    Calls Tryd.prog 37 #[.agg #[.bool r, .slice A1 m1 c1], .agg #[.bool r, .slice A2 m2 c2]] w fun e w' => ∃ r B m d, e = .returned (.agg #[.bool r, .slice B m d]) ∧ BVal w' r B m d (x + y) ∧ Below w.heap.size w w' := by
  obtain ⟨W, hW⟩ : ∃ W, W = ((w.alloc (.cells #[.bool r, .slice A1 m1 c1] 30)).alloc (.cells #[.bool r, .slice A2 m2 c2] 30)).alloc (.cells #[.bool false, .slice none 0 0] 30) := ⟨_, rfl⟩
  obtain ⟨t1, t2, t3, hbW, hWs⟩ := boxesW w _ _ _ _ W hW
  have B1 := h1.2.2.below hbW
  have B2 := h2.2.2.below hbW
  have S1 := h1.1
  have S2 := h2.1
  have M1 := h1.2.1
  have M2 := h2.2.1
  obtain ⟨N, hN⟩ : ∃ N, N = x.natAbs + y.natAbs := ⟨_, rfl⟩
  have hz : N = (x + y).natAbs := by
    rw [hN]
    cases r
    · have a := of_decide_eq_false S1.symm; have b := of_decide_eq_false S2.symm; omega
    · have a := of_decide_eq_true S1.symm; have b := of_decide_eq_true S2.symm; omega
  obtain ⟨rz, hrz⟩ : ∃ rz, rz = decide (x + y < 0) := ⟨_, rfl⟩
  have hs : signB r N = rz := by
    rw [hrz]
    by_cases h0 : N = 0
    · rw [h0, signB_zero]
      symm; apply decide_eq_false; omega
    · rw [signB_pos _ h0]
      cases r
      · have a := of_decide_eq_false S1.symm; have b := of_decide_eq_false S2.symm; symm; apply decide_eq_false; omega
      · have a := of_decide_eq_true S1.symm; have b := of_decide_eq_true S2.symm; symm; apply decide_eq_true; omega
  have PL : ∀ V, Below W.heap.size W V → Hid (Calls Tryd.prog 59 #[.slice A1 m1 c1, .slice A2 m2 c2] V fun e w' => ∃ B d, e = .returned (.slice B (bl N) d) ∧ Bit w' B (bl N) d N ∧ Fro W.heap.size B (bl N) ∧ Below W.heap.size W w') := fun V hb => Lib.hid (by
    rw [hN]
    exact (plusB A1 A2 m1 c1 m2 c2 _ _ V (B1.below hb) (B2.below hb) l1 l2).mono fun e w' hq => by
      obtain ⟨B, d, he, hB, hF, hw⟩ := hq
      exact ⟨B, d, he, hB, hF.mono hb.size, below_then hb hw⟩)
  have hl : bl N ≤ 100001 := by
    rw [hN]
    exact len_sum (by rw [← M1]; exact l1) (by rw [← M2]; exact l2)
  have VS : ∀ V B d, Below W.heap.size W V → Bit V B (bl N) d N → Hid (Calls Tryd.prog 51 #[.bool r, .slice B (bl N) d] V fun e w' => e = .returned (.agg #[.bool rz, .slice B (bl N) d]) ∧ Bit w' B (bl N) d N ∧ Below W.heap.size W w') := fun V B d hb hB => Lib.hid ((value_any r B (bl N) d N V hB (by omega)).mono fun e w' ⟨he, hw⟩ => ⟨by rw [he, hs], hB.below hw, below_then hb hw⟩)
  have k1 := t1.fst
  have k2 := t1.snd
  have k3 := t2.fst
  have k4 := t2.snd
  have HZ := Lib.hid (And.intro hz hrz)
  clear hN hz hrz hs S1 S2 M1 M2 h1 h2 B1 B2
  go_enter Tryd.func37, Tryd.ntmps37
  go_wp2_with fail
  rw [← hW]
  have HW := Lib.hid hW
  have HWS := Lib.hid hWs
  clear hW hWs
  go_region_held3 (fun V => V.cell? ⟨w.heap.size, 0, none⟩ = some (.bool r) ∧ V.cell? ⟨w.heap.size, 1, none⟩ = some (.slice A1 m1 c1) ∧ V.cell? ⟨w.heap.size + 1, 0, none⟩ = some (.bool r) ∧ V.cell? ⟨w.heap.size + 1, 1, none⟩ = some (.slice A2 m2 c2)) (first | exact ⟨u1, u2, u3, u4⟩ | exact ⟨s1, s2, s3, s4⟩ | exact ⟨q1, q2, q3, q4⟩ | exact ⟨k1, k2, k3, k4⟩ | go_keep)
    (first
      | (go_at_call 59; refine ((PL _ (by first | exact (Below.refl _ _) | exact Below.drew (Below.refl _ _))).out).mono ?_; rintro e y1 ⟨B, d, rfl, hB, hF, b1⟩; have q1 := (t1.below' b1).fst; have q2 := (t1.below' b1).snd; have q3 := (t2.below' b1).fst; have q4 := (t2.below' b1).snd)
      | (go_at_call 51; refine ((VS _ B d (by first | exact b1 | exact b1.drew) (by exact hB)).out).mono ?_; rintro e y2 ⟨rfl, hB2, b2⟩; have s1 := (t1.below' b2).fst; have s2 := (t1.below' b2).snd; have s3 := (t2.below' b2).fst; have s4 := (t2.below' b2).snd; have s5 := (t3.below' b2).fst; have s6 := (t3.below' b2).snd; have s7 := (t3.below' b2).free 0; have s8 := (t3.below' b2).free 1; have u1 := (Two.far2 (b := w.heap.size + 2) (u' := .bool rz) (v' := .slice B (bl N) d) (t1.below' b2) (by omega)).fst; have u2 := (Two.far2 (b := w.heap.size + 2) (u' := .bool rz) (v' := .slice B (bl N) d) (t1.below' b2) (by omega)).snd; have u3 := (Two.far2 (b := w.heap.size + 2) (u' := .bool rz) (v' := .slice B (bl N) d) (t2.below' b2) (by omega)).fst; have u4 := (Two.far2 (b := w.heap.size + 2) (u' := .bool rz) (v' := .slice B (bl N) d) (t2.below' b2) (by omega)).snd))
  go_wp2
  have hf := (t3.below' b2).set2 (a' := .bool rz) (b' := .slice B (bl N) d)
  have f0 := hf.fst
  have f1 := hf.snd
  refine bodyPost_ret (v := .agg #[.bool rz, .slice B (bl N) d]) (by simp [results, Tryd.results37, go_sem, f0, f1]) rfl ⟨_, B, _, d, rfl, ⟨HZ.out.2, by rw [HZ.out.1], ?_⟩, below_two (g := w.heap.size + 2) (below_then hbW b2) (by omega)⟩
  rw [← HZ.out.1]
  exact hB2.far2 (g := w.heap.size + 2) (hF.mono (by have := HWS.out; omega))
set_option maxHeartbeats 3200000 in
theorem refadd_less (r : Bool) (A1 A2 : Option Addr) (m1 c1 m2 c2 : Nat) (x y : Int) (w : World) (h1 : BVal w r A1 m1 c1 x) (h2 : BVal w (!r) A2 m2 c2 y) (l1 : m1 ≤ 100000) (l2 : m2 ≤ 100000) (hlt : x.natAbs < y.natAbs) :
    Calls Tryd.prog 37 #[.agg #[.bool r, .slice A1 m1 c1], .agg #[.bool (!r), .slice A2 m2 c2]] w fun e w' => ∃ r B m d, e = .returned (.agg #[.bool r, .slice B m d]) ∧ BVal w' r B m d (x + y) ∧ Below w.heap.size w w' := by
  obtain ⟨W, hW⟩ : ∃ W, W = ((w.alloc (.cells #[.bool r, .slice A1 m1 c1] 30)).alloc (.cells #[.bool (!r), .slice A2 m2 c2] 30)).alloc (.cells #[.bool false, .slice none 0 0] 30) := ⟨_, rfl⟩
  obtain ⟨t1, t2, t3, hbW, hWs⟩ := boxesW w _ _ _ _ W hW
  have B1 := h1.2.2.below hbW
  have B2 := h2.2.2.below hbW
  have S1 := h1.1
  have S2 := h2.1
  have M1 := h1.2.1
  have M2 := h2.2.1
  obtain ⟨N, hN⟩ : ∃ N, N = y.natAbs - x.natAbs := ⟨_, rfl⟩
  have hz : N = (x + y).natAbs := by
    rw [hN]
    cases r
    · have a := of_decide_eq_false S1.symm; have b := of_decide_eq_true S2.symm; omega
    · have a := of_decide_eq_true S1.symm; have b := of_decide_eq_false S2.symm; omega
  obtain ⟨rz, hrz⟩ : ∃ rz, rz = decide (x + y < 0) := ⟨_, rfl⟩
  have hs : signB (!r) N = rz := by
    rw [hrz]
    by_cases h0 : N = 0
    · rw [h0, signB_zero]
      symm; apply decide_eq_false; omega
    · rw [signB_pos _ h0]
      cases r
      · have a := of_decide_eq_false S1.symm; have b := of_decide_eq_true S2.symm; symm; apply decide_eq_true; omega
      · have a := of_decide_eq_true S1.symm; have b := of_decide_eq_false S2.symm; symm; apply decide_eq_false; omega
  have PL : ∀ V, Below W.heap.size W V → Hid (Calls Tryd.prog 60 #[.slice A2 m2 c2, .slice A1 m1 c1] V fun e w' => ∃ B d, e = .returned (.slice B (bl N) d) ∧ Bit w' B (bl N) d N ∧ Fro W.heap.size B (bl N) ∧ Below W.heap.size W w') := fun V hb => Lib.hid (by
    rw [hN]
    exact (minusB A2 A1 m2 c2 m1 c1 _ _ V (B2.below hb) (B1.below hb) l2 l1 (by omega)).mono fun e w' hq => by
      obtain ⟨B, d, he, hB, hF, hw⟩ := hq
      exact ⟨B, d, he, hB, hF.mono hb.size, below_then hb hw⟩)
  have hl : bl N ≤ 100001 := by
    rw [hN]
    exact Nat.le_trans (bl_mono (Nat.sub_le _ _)) (by omega)
  have VS : ∀ V B d, Below W.heap.size W V → Bit V B (bl N) d N → Hid (Calls Tryd.prog 51 #[.bool (!r), .slice B (bl N) d] V fun e w' => e = .returned (.agg #[.bool rz, .slice B (bl N) d]) ∧ Bit w' B (bl N) d N ∧ Below W.heap.size W w') := fun V B d hb hB => Lib.hid ((value_any (!r) B (bl N) d N V hB (by omega)).mono fun e w' ⟨he, hw⟩ => ⟨by rw [he, hs], hB.below hw, below_then hb hw⟩)
  have LS : ∀ V, Below W.heap.size W V → Hid (Calls Tryd.prog 55 #[.slice A1 m1 c1, .slice A2 m2 c2] V fun e w' => e = .returned (.bool true) ∧ Below W.heap.size W w') := fun V hb => Lib.hid (by
    subst M1
    subst M2
    exact (less_bit V (B1.below hb) (B2.below hb) (by omega) (by omega)).mono fun e w' ⟨he, hw⟩ => ⟨by rw [he, decide_eq_true hlt], below_then hb hw⟩)
  have e1 : (r == !r) = false := by cases r <;> rfl
  have k1 := t1.fst
  have k2 := t1.snd
  have k3 := t2.fst
  have k4 := t2.snd
  have HZ := Lib.hid (And.intro hz hrz)
  clear hN hz hrz hs S1 S2 M1 M2 h1 h2 B1 B2 hlt
  go_enter Tryd.func37, Tryd.ntmps37
  go_wp2_with fail
  rw [← hW]
  have HW := Lib.hid hW
  have HWS := Lib.hid hWs
  clear hW hWs
  refine ((LS _ (Below.refl _ _)).out).mono ?_
  rintro e y0 ⟨rfl, b0⟩
  clear k1 k2 k3 k4
  have k1 := (t1.below' b0).fst
  have k2 := (t1.below' b0).snd
  have k3 := (t2.below' b0).fst
  have k4 := (t2.below' b0).snd
  go_wp2_with fail
  go_region_held3 (fun V => V.cell? ⟨w.heap.size, 0, none⟩ = some (.bool r) ∧ V.cell? ⟨w.heap.size, 1, none⟩ = some (.slice A1 m1 c1) ∧ V.cell? ⟨w.heap.size + 1, 0, none⟩ = some (.bool (!r)) ∧ V.cell? ⟨w.heap.size + 1, 1, none⟩ = some (.slice A2 m2 c2)) (first | exact ⟨u1, u2, u3, u4⟩ | exact ⟨s1, s2, s3, s4⟩ | exact ⟨q1, q2, q3, q4⟩ | exact ⟨k1, k2, k3, k4⟩ | go_keep)
    (first
      | (go_at_call 60; refine ((PL _ (by first | exact b0 | exact Below.drew b0)).out).mono ?_; rintro e y1 ⟨B, d, rfl, hB, hF, b1⟩; have q1 := (t1.below' b1).fst; have q2 := (t1.below' b1).snd; have q3 := (t2.below' b1).fst; have q4 := (t2.below' b1).snd)
      | (go_at_call 51; refine ((VS _ B d (by first | exact b1 | exact b1.drew) (by exact hB)).out).mono ?_; rintro e y2 ⟨rfl, hB2, b2⟩; have s1 := (t1.below' b2).fst; have s2 := (t1.below' b2).snd; have s3 := (t2.below' b2).fst; have s4 := (t2.below' b2).snd; have s5 := (t3.below' b2).fst; have s6 := (t3.below' b2).snd; have s7 := (t3.below' b2).free 0; have s8 := (t3.below' b2).free 1; have u1 := (Two.far2 (b := w.heap.size + 2) (u' := .bool rz) (v' := .slice B (bl N) d) (t1.below' b2) (by omega)).fst; have u2 := (Two.far2 (b := w.heap.size + 2) (u' := .bool rz) (v' := .slice B (bl N) d) (t1.below' b2) (by omega)).snd; have u3 := (Two.far2 (b := w.heap.size + 2) (u' := .bool rz) (v' := .slice B (bl N) d) (t2.below' b2) (by omega)).fst; have u4 := (Two.far2 (b := w.heap.size + 2) (u' := .bool rz) (v' := .slice B (bl N) d) (t2.below' b2) (by omega)).snd))
  go_wp2
  have hf := (t3.below' b2).set2 (a' := .bool rz) (b' := .slice B (bl N) d)
  have f0 := hf.fst
  have f1 := hf.snd
  refine bodyPost_ret (v := .agg #[.bool rz, .slice B (bl N) d]) (by simp [results, Tryd.results37, go_sem, f0, f1]) rfl ⟨_, B, _, d, rfl, ⟨HZ.out.2, by rw [HZ.out.1], ?_⟩, below_two (g := w.heap.size + 2) (below_then hbW b2) (by omega)⟩
  rw [← HZ.out.1]
  exact hB2.far2 (g := w.heap.size + 2) (hF.mono (by have := HWS.out; omega))
set_option maxHeartbeats 3200000 in
theorem refadd_more (r : Bool) (A1 A2 : Option Addr) (m1 c1 m2 c2 : Nat) (x y : Int) (w : World) (h1 : BVal w r A1 m1 c1 x) (h2 : BVal w (!r) A2 m2 c2 y) (l1 : m1 ≤ 100000) (l2 : m2 ≤ 100000) (hlt : y.natAbs ≤ x.natAbs) :
    Calls Tryd.prog 37 #[.agg #[.bool r, .slice A1 m1 c1], .agg #[.bool (!r), .slice A2 m2 c2]] w fun e w' => ∃ r B m d, e = .returned (.agg #[.bool r, .slice B m d]) ∧ BVal w' r B m d (x + y) ∧ Below w.heap.size w w' := by
  obtain ⟨W, hW⟩ : ∃ W, W = ((w.alloc (.cells #[.bool r, .slice A1 m1 c1] 30)).alloc (.cells #[.bool (!r), .slice A2 m2 c2] 30)).alloc (.cells #[.bool false, .slice none 0 0] 30) := ⟨_, rfl⟩
  obtain ⟨t1, t2, t3, hbW, hWs⟩ := boxesW w _ _ _ _ W hW
  have B1 := h1.2.2.below hbW
  have B2 := h2.2.2.below hbW
  have S1 := h1.1
  have S2 := h2.1
  have M1 := h1.2.1
  have M2 := h2.2.1
  obtain ⟨N, hN⟩ : ∃ N, N = x.natAbs - y.natAbs := ⟨_, rfl⟩
  have hz : N = (x + y).natAbs := by
    rw [hN]
    cases r
    · have a := of_decide_eq_false S1.symm; have b := of_decide_eq_true S2.symm; omega
    · have a := of_decide_eq_true S1.symm; have b := of_decide_eq_false S2.symm; omega
  obtain ⟨rz, hrz⟩ : ∃ rz, rz = decide (x + y < 0) := ⟨_, rfl⟩
  have hs : signB r N = rz := by
    rw [hrz]
    by_cases h0 : N = 0
    · rw [h0, signB_zero]
      symm; apply decide_eq_false; omega
    · rw [signB_pos _ h0]
      cases r
      · have a := of_decide_eq_false S1.symm; have b := of_decide_eq_true S2.symm; symm; apply decide_eq_false; omega
      · have a := of_decide_eq_true S1.symm; have b := of_decide_eq_false S2.symm; symm; apply decide_eq_true; omega
  have PL : ∀ V, Below W.heap.size W V → Hid (Calls Tryd.prog 60 #[.slice A1 m1 c1, .slice A2 m2 c2] V fun e w' => ∃ B d, e = .returned (.slice B (bl N) d) ∧ Bit w' B (bl N) d N ∧ Fro W.heap.size B (bl N) ∧ Below W.heap.size W w') := fun V hb => Lib.hid (by
    rw [hN]
    exact (minusB A1 A2 m1 c1 m2 c2 _ _ V (B1.below hb) (B2.below hb) l1 l2 hlt).mono fun e w' hq => by
      obtain ⟨B, d, he, hB, hF, hw⟩ := hq
      exact ⟨B, d, he, hB, hF.mono hb.size, below_then hb hw⟩)
  have hl : bl N ≤ 100001 := by
    rw [hN]
    exact Nat.le_trans (bl_mono (Nat.sub_le _ _)) (by omega)
  have VS : ∀ V B d, Below W.heap.size W V → Bit V B (bl N) d N → Hid (Calls Tryd.prog 51 #[.bool r, .slice B (bl N) d] V fun e w' => e = .returned (.agg #[.bool rz, .slice B (bl N) d]) ∧ Bit w' B (bl N) d N ∧ Below W.heap.size W w') := fun V B d hb hB => Lib.hid ((value_any r B (bl N) d N V hB (by omega)).mono fun e w' ⟨he, hw⟩ => ⟨by rw [he, hs], hB.below hw, below_then hb hw⟩)
  have LS : ∀ V, Below W.heap.size W V → Hid (Calls Tryd.prog 55 #[.slice A1 m1 c1, .slice A2 m2 c2] V fun e w' => e = .returned (.bool false) ∧ Below W.heap.size W w') := fun V hb => Lib.hid (by
    subst M1
    subst M2
    exact (less_bit V (B1.below hb) (B2.below hb) (by omega) (by omega)).mono fun e w' ⟨he, hw⟩ => ⟨by rw [he, decide_eq_false (by omega)], below_then hb hw⟩)
  have e1 : (r == !r) = false := by cases r <;> rfl
  have k1 := t1.fst
  have k2 := t1.snd
  have k3 := t2.fst
  have k4 := t2.snd
  have HZ := Lib.hid (And.intro hz hrz)
  clear hN hz hrz hs S1 S2 M1 M2 h1 h2 B1 B2 hlt
  go_enter Tryd.func37, Tryd.ntmps37
  go_wp2_with fail
  rw [← hW]
  have HW := Lib.hid hW
  have HWS := Lib.hid hWs
  clear hW hWs
  refine ((LS _ (Below.refl _ _)).out).mono ?_
  rintro e y0 ⟨rfl, b0⟩
  clear k1 k2 k3 k4
  have k1 := (t1.below' b0).fst
  have k2 := (t1.below' b0).snd
  have k3 := (t2.below' b0).fst
  have k4 := (t2.below' b0).snd
  go_wp2_with fail
  go_region_held3 (fun V => V.cell? ⟨w.heap.size, 0, none⟩ = some (.bool r) ∧ V.cell? ⟨w.heap.size, 1, none⟩ = some (.slice A1 m1 c1) ∧ V.cell? ⟨w.heap.size + 1, 0, none⟩ = some (.bool (!r)) ∧ V.cell? ⟨w.heap.size + 1, 1, none⟩ = some (.slice A2 m2 c2)) (first | exact ⟨u1, u2, u3, u4⟩ | exact ⟨s1, s2, s3, s4⟩ | exact ⟨q1, q2, q3, q4⟩ | exact ⟨k1, k2, k3, k4⟩ | go_keep)
    (first
      | (go_at_call 60; refine ((PL _ (by first | exact b0 | exact Below.drew b0)).out).mono ?_; rintro e y1 ⟨B, d, rfl, hB, hF, b1⟩; have q1 := (t1.below' b1).fst; have q2 := (t1.below' b1).snd; have q3 := (t2.below' b1).fst; have q4 := (t2.below' b1).snd)
      | (go_at_call 51; refine ((VS _ B d (by first | exact b1 | exact b1.drew) (by exact hB)).out).mono ?_; rintro e y2 ⟨rfl, hB2, b2⟩; have s1 := (t1.below' b2).fst; have s2 := (t1.below' b2).snd; have s3 := (t2.below' b2).fst; have s4 := (t2.below' b2).snd; have s5 := (t3.below' b2).fst; have s6 := (t3.below' b2).snd; have s7 := (t3.below' b2).free 0; have s8 := (t3.below' b2).free 1; have u1 := (Two.far2 (b := w.heap.size + 2) (u' := .bool rz) (v' := .slice B (bl N) d) (t1.below' b2) (by omega)).fst; have u2 := (Two.far2 (b := w.heap.size + 2) (u' := .bool rz) (v' := .slice B (bl N) d) (t1.below' b2) (by omega)).snd; have u3 := (Two.far2 (b := w.heap.size + 2) (u' := .bool rz) (v' := .slice B (bl N) d) (t2.below' b2) (by omega)).fst; have u4 := (Two.far2 (b := w.heap.size + 2) (u' := .bool rz) (v' := .slice B (bl N) d) (t2.below' b2) (by omega)).snd))
  go_wp2
  have hf := (t3.below' b2).set2 (a' := .bool rz) (b' := .slice B (bl N) d)
  have f0 := hf.fst
  have f1 := hf.snd
  refine bodyPost_ret (v := .agg #[.bool rz, .slice B (bl N) d]) (by simp [results, Tryd.results37, go_sem, f0, f1]) rfl ⟨_, B, _, d, rfl, ⟨HZ.out.2, by rw [HZ.out.1], ?_⟩, below_two (g := w.heap.size + 2) (below_then hbW b2) (by omega)⟩
  rw [← HZ.out.1]
  exact hB2.far2 (g := w.heap.size + 2) (hF.mono (by have := HWS.out; omega))
theorem refadd_at {r1 r2 : Bool} {A1 A2 : Option Addr} {m1 c1 m2 c2 : Nat} {x y : Int} (w : World) (h1 : BVal w r1 A1 m1 c1 x) (h2 : BVal w r2 A2 m2 c2 y) (l1 : m1 ≤ 100000) (l2 : m2 ≤ 100000) :
    Calls Tryd.prog 37 #[.agg #[.bool r1, .slice A1 m1 c1], .agg #[.bool r2, .slice A2 m2 c2]] w fun e w' => ∃ r B m d, e = .returned (.agg #[.bool r, .slice B m d]) ∧ BVal w' r B m d (x + y) ∧ Below w.heap.size w w' := by
  by_cases hr : r2 = r1
  · subst hr
    exact refadd_same r2 A1 A2 m1 c1 m2 c2 x y w h1 h2 l1 l2
  · have hr' : r2 = !r1 := by cases r1 <;> cases r2 <;> simp_all
    subst hr'
    by_cases hlt : x.natAbs < y.natAbs
    · exact refadd_less r1 A1 A2 m1 c1 m2 c2 x y w h1 h2 l1 l2 hlt
    · exact refadd_more r1 A1 A2 m1 c1 m2 c2 x y w h1 h2 l1 l2 (by omega)
end Go.Proofs.YtocoflojlliapaaDoor
