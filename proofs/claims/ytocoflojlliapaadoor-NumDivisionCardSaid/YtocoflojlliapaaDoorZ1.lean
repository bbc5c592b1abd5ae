/- NumDivision: what the walk wants. -/
import Derived.Test.YtocoflojlliapaaDoorY2
import Derived.Test.YtocoflojlliapaaDoorT2
set_option linter.unusedVariables false
namespace Go.Proofs.YtocoflojlliapaaDoor.numDivision
open Go.ChangeShapes Go.WideShapes Go.ChangeAt Go.RowKit Go.Proofs.YtocoflojlliapaaDoor
section
variable {w w' V V' : World} {r r1 r2 R : Bool} {A A1 A2 : Option Addr} {m m1 m2 c c1 c2 N : Nat} {x y z : Int} {e : Ending}
def Agr2 (g : Nat) (V V' : World) : Prop := V.heap.size ≤ V'.heap.size ∧ ∀ p : Addr, p.block < V.heap.size → (p.block < g ∨ g + 2 ≤ p.block) → V'.cell? p = V.cell? p
theorem Agr2.of_below {g : Nat} (h : Below V.heap.size V V') : Agr2 g V V' := ⟨h.size, fun p hp _ => h.cell hp⟩
theorem Agr2.trans {g : Nat} {V'' : World} (h : Agr2 g V V') (k : Agr2 g V' V'') : Agr2 g V V'' := ⟨Nat.le_trans h.1 k.1, fun p hp hg => (k.2 p (Nat.lt_of_lt_of_le hp h.1) hg).trans (h.2 p hp hg)⟩
theorem Agr2.set2 {g b : Nat} (V : World) (u v : Value) (h1 : g ≤ b) (h2 : b < g + 2) : Agr2 g V ((V.setCell ⟨b, 0, none⟩ u).setCell ⟨b, 1, none⟩ v) := by
  refine ⟨by simp, fun p hp hg => ?_⟩
  rw [World.cell?_setCell_other _ _ _ _ (fun e => by subst e; simp at hg; omega), World.cell?_setCell_other _ _ _ _ (fun e => by subst e; simp at hg; omega)]
def Firm2 (Q : World → Prop) (g : Nat) (V : World) : Prop := ∀ V', Agr2 g V V' → Q V'
theorem Firm2.step {Q : World → Prop} {g : Nat} (h : Firm2 Q g V) (k : Agr2 g V V') : Firm2 Q g V' := fun V'' k' => h V'' (k.trans k')
theorem Firm2.out {Q : World → Prop} {g : Nat} (h : Firm2 Q g V) : Q V := h V ⟨Nat.le_refl _, fun _ _ _ => rfl⟩
theorem firm_old2 (h : NumAt w r A m c z) : Firm2 (fun V => NumAt V r A m c z) w.heap.size w := by
  intro V' hk
  obtain ⟨M, ⟨xs, h1, h2, h3, h4, h5⟩, hs⟩ := h
  exact ⟨M, ⟨xs, (h1.keep fun p hp => hk.2 p hp (Or.inl hp)).more hk.1, h2, h3, h4, h5⟩, hs⟩
theorem firm_new2 {g : Nat} (h : Fresh w w' A c z.natAbs) (hg : g + 2 ≤ w.heap.size) (hf : dl z.natAbs ≤ 48) : Firm2 (fun V => Can V (decide (z < 0)) A (dl z.natAbs) c z) g w' := by
  intro V' hk
  refine ⟨rfl, rfl, hf, digs 4294967296 z.natAbs, ?_, digs_low (by decide) _, rfl, digs_val (by decide) _, own_cap h.1⟩
  have hl := Lim.of_own h.1
  intro h0
  obtain ⟨ad, e1, hb, hc⟩ := hl h0
  subst e1
  have hge : w.heap.size ≤ ad.block := own_ge h.1 ad.block rfl
  exact ⟨ad, rfl, Nat.lt_of_lt_of_le hb hk.1, fun i hi => (hk.2 _ (by rw [add_block]; exact hb) (Or.inr (by rw [add_block]; omega))).trans (hc i hi)⟩
end
theorem norm_tells {w : World} {r1 : Bool} {A1 : Option Addr} {n c1 g : Nat} {z : Int} (h : NumAt w r1 A1 n c1 z) (hl : n ≤ 35184372088832) (hg : g + 2 ≤ w.heap.size) (v : Int) (hv : resV z = v) :
    Calls Tryd.prog 21 #[.agg #[.bool r1, .slice A1 n c1]] w fun e w' => ∃ r A m c, e = .returned (.tuple #[.agg #[.bool r, .slice A m c], .int .i64 v]) ∧ Firm2 (fun V => Can V r A m c (resZ z)) g w' ∧ Below w.heap.size w w' := by
  subst hv
  obtain ⟨N, hm, hz⟩ := h
  have hN := sg_abs hz
  by_cases hf : dl z.natAbs ≤ 48
  · refine (norm_yes r1 A1 n c1 N w hm hl (hN ▸ hf)).mono fun e w' hq => ?_
    obtain ⟨A, c, rfl, hfr⟩ := hq
    refine ⟨_, A, _, c, by rw [resV_yes hf, signB_sg hz, hN], ?_, hfr.2⟩
    rw [resZ_yes hf]
    exact firm_new2 (hN ▸ hfr) hg hf
  · refine (norm_no r1 A1 n c1 N w hm hl (by rw [hN]; omega)).mono fun e w' hq => ?_
    obtain ⟨rfl, hb⟩ := hq
    refine ⟨false, none, 0, 0, by rw [resV_no hf], ?_, hb⟩
    rw [resZ_no hf]
    exact fun V _ => can_nil V
theorem resZ_of0 {z : Int} (h : resV z = 0) : resZ z = z := by
  by_cases hf : dl z.natAbs ≤ 48
  · exact resZ_yes hf
  · rw [resV_no hf] at h; omega
theorem NumAt.dl {w : World} {r : Bool} {A : Option Addr} {m c : Nat} {z : Int} (h : NumAt w r A m c z) : dl z.natAbs ≤ m := by
  obtain ⟨M, hm, hz⟩ := h
  rw [← sg_abs hz]
  exact hm.le
theorem NumAt.abs {w : World} {r : Bool} {A : Option Addr} {m c : Nat} {z : Int} (h : NumAt w r A m c z) : NumAt w false A m c (z.natAbs : Int) := by
  obtain ⟨M, hm, hz⟩ := h
  exact ⟨M, hm, by rw [sg_abs hz]; rfl⟩
theorem sgn_nz {y : Int} (h : y ≠ 0) : (cmpI y 0 == 0) = false := by
  rcases Int.lt_trichotomy y 0 with k | k | k
  · rw [cmpI_lt k]; rfl
  · exact absurd k h
  · rw [cmpI_gt k]; rfl
theorem div_fits {x y : Int} (hx : dl x.natAbs ≤ 48) : dl (Int.tdiv x y).natAbs ≤ 48 := by
  rw [Int.natAbs_tdiv]
  exact Nat.le_trans (dl_mono (Nat.div_le_self _ _)) hx
theorem tmod_less {x y : Int} (hy : y ≠ 0) : (Int.tmod x y).natAbs < y.natAbs := by
  rw [Int.natAbs_tmod]
  exact Nat.mod_lt _ (by omega)
theorem fmod_below (x : Int) {y : Int} (h : y < 0) : Int.fmod x y ≤ 0 ∧ y < Int.fmod x y := by
  have e := Int.neg_fmod_neg (-x) (-y)
  rw [Int.neg_neg, Int.neg_neg] at e
  have h1 := Int.fmod_nonneg_of_pos (-x) (show (0 : Int) < -y by omega)
  have h2 := Int.fmod_lt_of_pos (-x) (show (0 : Int) < -y by omega)
  omega
theorem fmod_less {x y : Int} (hy : y ≠ 0) : (Int.fmod x y).natAbs < y.natAbs := by
  rcases Int.lt_trichotomy y 0 with h | h | h
  · have := fmod_below x h
    omega
  · exact absurd h hy
  · have := Int.fmod_nonneg_of_pos x h
    have := Int.fmod_lt_of_pos x h
    omega
theorem tmod_sign {x y : Int} : cmpI (Int.tmod x y) 0 = 0 ∨ cmpI (Int.tmod x y) 0 = cmpI x 0 := by
  rcases Int.lt_trichotomy (Int.tmod x y) 0 with h | h | h
  · right
    have hx : x < 0 := by
      rcases Int.lt_or_le x 0 with k | k
      · exact k
      · have := Int.tmod_nonneg y k; omega
    rw [cmpI_lt h, cmpI_lt hx]
  · left; exact cmpI_eq h
  · right
    have hx : 0 < x := by
      rcases Int.lt_or_le 0 x with k | k
      · exact k
      · have := Int.tmod_nonneg (a := -x) y (by omega); rw [Int.neg_tmod] at this; omega
    rw [cmpI_gt h, cmpI_gt hx]
theorem fmod_sign {x y : Int} (hy : y ≠ 0) : cmpI (Int.fmod x y) 0 = 0 ∨ cmpI (Int.fmod x y) 0 = cmpI y 0 := by
  rcases Int.lt_trichotomy y 0 with h | h | h
  · have := fmod_below x h
    rcases Int.lt_trichotomy (Int.fmod x y) 0 with k | k | k
    · right; rw [cmpI_lt k, cmpI_lt h]
    · left; exact cmpI_eq k
    · omega
  · exact absurd h hy
  · have := Int.fmod_nonneg_of_pos x h
    rcases Int.lt_trichotomy (Int.fmod x y) 0 with k | k | k
    · omega
    · left; exact cmpI_eq k
    · right; rw [cmpI_gt k, cmpI_gt h]
theorem fmod_tmod {x y : Int} (hy : y ≠ 0) : Int.fmod x y - Int.tmod x y = 0 ∨ Int.fmod x y - Int.tmod x y = y := by
  have h1 := fmod_less (x := x) hy
  have h2 := tmod_less (x := x) hy
  have e1 := Int.mul_fdiv_add_fmod x y
  have e2 := Int.mul_tdiv_add_tmod x y
  have e3 : Int.fmod x y - Int.tmod x y = y * (Int.tdiv x y - Int.fdiv x y) := by rw [Int.mul_sub]; omega
  generalize Int.tdiv x y - Int.fdiv x y = k at e3
  rcases Int.lt_trichotomy y 0 with h | h | h
  · have h3 := fmod_below x h
    have a1 : y * k < y * (-1) := by omega
    have a2 : y * 2 < y * k := by omega
    have b1 : -1 < k := by
      rcases Int.lt_or_le (-1) k with p | p
      · exact p
      · have := Int.mul_le_mul_of_nonpos_left (a := y) (show y ≤ 0 by omega) p; omega
    have b2 : k < 2 := by
      rcases Int.lt_or_le k 2 with p | p
      · exact p
      · have := Int.mul_le_mul_of_nonpos_left (a := y) (show y ≤ 0 by omega) p; omega
    rcases (show k = 0 ∨ k = 1 by omega) with rfl | rfl
    · left; omega
    · right; omega
  · exact absurd h hy
  · have h3 := Int.fmod_nonneg_of_pos x h
    have h4 := Int.fmod_lt_of_pos x h
    have a1 : y * (-1) < y * k := by omega
    have a2 : y * k < y * 2 := by omega
    have b1 : -1 < k := Int.lt_of_mul_lt_mul_left a1 (by omega)
    have b2 : k < 2 := Int.lt_of_mul_lt_mul_left a2 (by omega)
    rcases (show k = 0 ∨ k = 1 by omega) with rfl | rfl
    · left; omega
    · right; omega
theorem resV_two (z : Int) : resV z = 0 ∨ resV z = 6 := by
  by_cases h : dl z.natAbs ≤ 48
  · exact .inl (resV_yes h)
  · exact .inr (resV_no h)
set_option maxHeartbeats 1600000 in
theorem abs_any (b : Bool) (A : Option Addr) (m c : Nat) (w : World) :
    Calls Tryd.prog 50 #[.agg #[.bool b, .slice A m c]] w fun e w' => e = .returned (.agg #[.bool false, .slice A m c]) ∧ Below w.heap.size w w' := by
  obtain ⟨W, hW⟩ : ∃ W, W = (w.alloc (.cells #[.bool b, .slice A m c] 24)).alloc (.cells #[.bool false, .slice A m c] 24) := ⟨_, rfl⟩
  obtain ⟨t1, t2, hbW, hWs⟩ := boxes24 w _ _ _ _ W hW
  have z1 := t2.fst
  have z2 := t2.snd
  go_enter Tryd.func50, Tryd.ntmps50
  go_wp2_with fail
  rw [← hW]
  exact bodyPost_ret (v := .agg #[.bool false, .slice A m c]) (by simp [results, Tryd.results50, go_sem, z1, z2]) rfl ⟨rfl, hbW⟩
set_option maxHeartbeats 12800000 in
set_option maxRecDepth 100000 in
theorem big_a (r1 r2 : Bool) (A1 A2 : Option Addr) (n1 c1 n2 c2 : Nat) (sa sb : Int) (w : World) (ht : Tab w) (h1 : NumAt w r1 A1 n1 c1 sa) (h2 : NumAt w r2 A2 n2 c2 sb) (l1 : n1 ≤ 60) (l2 : n2 ≤ 60) (vb : Int) (HVA : Hid (resV sa = 6)) (HVB : Hid (resV sb = vb)) :
    Calls Tryd.prog 12 #[.agg #[.bool r1, .slice A1 n1 c1], .agg #[.bool r2, .slice A2 n2 c2]] w fun e w' => e = .returned (.bool true) ∧ Below w.heap.size w w' := by
  obtain ⟨W, hW⟩ : ∃ W, W = (w.alloc (.cells #[.bool r1, .slice A1 n1 c1] 24)).alloc (.cells #[.bool r2, .slice A2 n2 c2] 24) := ⟨_, rfl⟩
  obtain ⟨t1, t2, hbW, hWs⟩ := boxes24 w _ _ _ _ W hW
  have LA := fun W => Lib.hid (long_no r1 A1 n1 c1 l1 W)
  have LB := fun W => Lib.hid (long_no r2 A2 n2 c2 l2 W)
  have F1 : ∀ V, Agr2 w.heap.size w V → Hid (Firm2 (fun V => NumAt V r1 A1 n1 c1 sa) w.heap.size V) := fun V h => Lib.hid ((firm_old2 h1).step h)
  have F2 : ∀ V, Agr2 w.heap.size w V → Hid (Firm2 (fun V => NumAt V r2 A2 n2 c2 sb) w.heap.size V) := fun V h => Lib.hid ((firm_old2 h2).step h)
  have AW : ∀ V, Below w.heap.size w V → Hid (Calls Tryd.prog 18 #[] V fun e w' => e = .returned (.bool true) ∧ Below w.heap.size w w') :=
    fun V hb => Lib.hid ((awake_any V (ht.below hb)).mono fun e w' ⟨he, hw⟩ => ⟨he, below_then hb hw⟩)
  have k1 := t1.fst
  have k2 := t1.snd
  clear h1 h2 ht
  go_enter Tryd.func12, Tryd.ntmps12
  go_wp2_with fail
  rw [← hW]
  have HW := Lib.hid hW
  have HWS := Lib.hid hWs
  clear hW hWs
  refine ((LA _).out).mono ?_
  rintro e v1 ⟨rfl, b1⟩
  replace t1 := t1.below' b1
  replace t2 := t2.below' b1
  clear k1 k2
  have k1 := t2.fst
  have k2 := t2.snd
  go_wp2_with fail
  refine ((LB _).out).mono ?_
  rintro e v2 ⟨rfl, b2⟩
  replace t1 := t1.below' b2
  replace t2 := t2.below' b2
  have B3 : Below w.heap.size w v2 := below_then (below_then hbW b1) b2
  have S3 : w.heap.size + 2 ≤ v2.heap.size := by have := HWS.out; have := b1.size; have := b2.size; omega
  clear k1 k2 b1 b2 hbW LA LB
  have k1 := t1.fst
  have k2 := t1.snd
  go_wp2_with fail
  have NT := Lib.hid (norm_tells (g := w.heap.size) (F1 _ (Agr2.of_below B3)).out.out (by omega) S3 6 HVA.out)
  refine (NT.out).mono ?_
  clear NT
  rintro e y1 ⟨R1, P1, m1, d1, rfl, G1, b1⟩
  replace t1 := t1.below' b1
  replace t2 := t2.below' b1
  clear k1 k2
  have f1 := t1.free 0
  have f2 := t1.free 1
  have f3 := t1.fst
  have f4 := t1.snd
  have AG := Agr2.set2 (g := w.heap.size) (b := w.heap.size) y1 (.bool R1) (.slice P1 m1 d1) (by omega) (by omega)
  have BX1 : Below w.heap.size w ((y1.setCell ⟨w.heap.size, 0, none⟩ (.bool R1)).setCell ⟨w.heap.size, 1, none⟩ (.slice P1 m1 d1)) := below_two (below_then B3 b1) (by omega)
  have SX1 : w.heap.size + 2 ≤ ((y1.setCell ⟨w.heap.size, 0, none⟩ (.bool R1)).setCell ⟨w.heap.size, 1, none⟩ (.slice P1 m1 d1)).heap.size := by have := b1.size; simp; omega
  replace G1 := G1.step AG
  have u1 : Two ((y1.setCell ⟨w.heap.size, 0, none⟩ (.bool R1)).setCell ⟨w.heap.size, 1, none⟩ (.slice P1 m1 d1)) (w.heap.size) 24 (.bool R1) (.slice P1 m1 d1) := t1.set2
  have u2 := Two.far2 (b := w.heap.size) (u' := .bool R1) (v' := .slice P1 m1 d1) t2 (by omega)
  have k1 := u2.fst
  have k2 := u2.snd
  go_wp2_with fail
  obtain ⟨X1, hX⟩ : ∃ X, X = ((y1.setCell ⟨w.heap.size, 0, none⟩ (.bool R1)).setCell ⟨w.heap.size, 1, none⟩ (.slice P1 m1 d1)) := ⟨_, rfl⟩
  rw [← hX]
  rw [← hX] at AG BX1 SX1 u1 u2 k1 k2 G1
  clear hX t1 t2 AG f1 f2 f3 f4 b1 B3 S3
  have t1 := u1
  have t2 := u2
  clear u1 u2
  have NT := Lib.hid (norm_tells (g := w.heap.size) (F2 _ (Agr2.of_below BX1)).out.out (by omega) SX1 vb HVB.out)
  refine (NT.out).mono ?_
  clear NT
  rintro e y2 ⟨R2, P2, m2, d2, rfl, G2, b2⟩
  replace t1 := t1.below' b2
  replace t2 := t2.below' b2
  replace G1 := G1.step (Agr2.of_below b2)
  clear k1 k2
  have f1 := t2.free 0
  have f2 := t2.free 1
  have f3 := t2.fst
  have f4 := t2.snd
  have AG := Agr2.set2 (g := w.heap.size) (b := w.heap.size + 1) y2 (.bool R2) (.slice P2 m2 d2) (by omega) (by omega)
  have BX2 : Below w.heap.size w ((y2.setCell ⟨w.heap.size + 1, 0, none⟩ (.bool R2)).setCell ⟨w.heap.size + 1, 1, none⟩ (.slice P2 m2 d2)) := below_two (below_then BX1 b2) (by omega)
  have SX2 : w.heap.size + 2 ≤ ((y2.setCell ⟨w.heap.size + 1, 0, none⟩ (.bool R2)).setCell ⟨w.heap.size + 1, 1, none⟩ (.slice P2 m2 d2)).heap.size := by have := b2.size; simp; omega
  replace G1 := G1.step AG
  replace G2 := G2.step AG
  have u1 := Two.far2 (b := w.heap.size + 1) (u' := .bool R2) (v' := .slice P2 m2 d2) t1 (by omega)
  have u2 : Two ((y2.setCell ⟨w.heap.size + 1, 0, none⟩ (.bool R2)).setCell ⟨w.heap.size + 1, 1, none⟩ (.slice P2 m2 d2)) (w.heap.size + 1) 24 (.bool R2) (.slice P2 m2 d2) := t2.set2
  obtain ⟨X, hX⟩ : ∃ X, X = ((y2.setCell ⟨w.heap.size + 1, 0, none⟩ (.bool R2)).setCell ⟨w.heap.size + 1, 1, none⟩ (.slice P2 m2 d2)) := ⟨_, rfl⟩
  have Q1 := hX ▸ G1.out
  have Q2 := hX ▸ G2.out
  have T1 := hX ▸ u1
  have T2 := hX ▸ u2
  have B := hX ▸ BX2
  have K1 := Lib.hid u1
  have K2 := Lib.hid u2
  have HX := Lib.hid hX
  clear hX G1 G2 AG b2 BX1 SX1 SX2 t1 t2 BX2 F1 F2
  clear u1 u2
  go_wp2_with fail
  rw [← HX.out]
  refine ((AW _ B).out).mono ?_
  rintro e ye ⟨rfl, be⟩
  go_wp2
  go_ret
  exact ⟨rfl, be⟩
set_option maxHeartbeats 12800000 in
set_option maxRecDepth 100000 in
theorem big_b (r1 r2 : Bool) (A1 A2 : Option Addr) (n1 c1 n2 c2 : Nat) (sa sb : Int) (w : World) (ht : Tab w) (h1 : NumAt w r1 A1 n1 c1 sa) (h2 : NumAt w r2 A2 n2 c2 sb) (l1 : n1 ≤ 60) (l2 : n2 ≤ 60)  (HVA : Hid (resV sa = 0)) (HVB : Hid (resV sb = 6)) :
    Calls Tryd.prog 12 #[.agg #[.bool r1, .slice A1 n1 c1], .agg #[.bool r2, .slice A2 n2 c2]] w fun e w' => e = .returned (.bool true) ∧ Below w.heap.size w w' := by
  obtain ⟨W, hW⟩ : ∃ W, W = (w.alloc (.cells #[.bool r1, .slice A1 n1 c1] 24)).alloc (.cells #[.bool r2, .slice A2 n2 c2] 24) := ⟨_, rfl⟩
  obtain ⟨t1, t2, hbW, hWs⟩ := boxes24 w _ _ _ _ W hW
  have LA := fun W => Lib.hid (long_no r1 A1 n1 c1 l1 W)
  have LB := fun W => Lib.hid (long_no r2 A2 n2 c2 l2 W)
  have F1 : ∀ V, Agr2 w.heap.size w V → Hid (Firm2 (fun V => NumAt V r1 A1 n1 c1 sa) w.heap.size V) := fun V h => Lib.hid ((firm_old2 h1).step h)
  have F2 : ∀ V, Agr2 w.heap.size w V → Hid (Firm2 (fun V => NumAt V r2 A2 n2 c2 sb) w.heap.size V) := fun V h => Lib.hid ((firm_old2 h2).step h)
  have AW : ∀ V, Below w.heap.size w V → Hid (Calls Tryd.prog 18 #[] V fun e w' => e = .returned (.bool true) ∧ Below w.heap.size w w') :=
    fun V hb => Lib.hid ((awake_any V (ht.below hb)).mono fun e w' ⟨he, hw⟩ => ⟨he, below_then hb hw⟩)
  have k1 := t1.fst
  have k2 := t1.snd
  clear h1 h2 ht
  go_enter Tryd.func12, Tryd.ntmps12
  go_wp2_with fail
  rw [← hW]
  have HW := Lib.hid hW
  have HWS := Lib.hid hWs
  clear hW hWs
  refine ((LA _).out).mono ?_
  rintro e v1 ⟨rfl, b1⟩
  replace t1 := t1.below' b1
  replace t2 := t2.below' b1
  clear k1 k2
  have k1 := t2.fst
  have k2 := t2.snd
  go_wp2_with fail
  refine ((LB _).out).mono ?_
  rintro e v2 ⟨rfl, b2⟩
  replace t1 := t1.below' b2
  replace t2 := t2.below' b2
  have B3 : Below w.heap.size w v2 := below_then (below_then hbW b1) b2
  have S3 : w.heap.size + 2 ≤ v2.heap.size := by have := HWS.out; have := b1.size; have := b2.size; omega
  clear k1 k2 b1 b2 hbW LA LB
  have k1 := t1.fst
  have k2 := t1.snd
  go_wp2_with fail
  have NT := Lib.hid (norm_tells (g := w.heap.size) (F1 _ (Agr2.of_below B3)).out.out (by omega) S3 0 HVA.out)
  refine (NT.out).mono ?_
  clear NT
  rintro e y1 ⟨R1, P1, m1, d1, rfl, G1, b1⟩
  replace t1 := t1.below' b1
  replace t2 := t2.below' b1
  clear k1 k2
  have f1 := t1.free 0
  have f2 := t1.free 1
  have f3 := t1.fst
  have f4 := t1.snd
  have AG := Agr2.set2 (g := w.heap.size) (b := w.heap.size) y1 (.bool R1) (.slice P1 m1 d1) (by omega) (by omega)
  have BX1 : Below w.heap.size w ((y1.setCell ⟨w.heap.size, 0, none⟩ (.bool R1)).setCell ⟨w.heap.size, 1, none⟩ (.slice P1 m1 d1)) := below_two (below_then B3 b1) (by omega)
  have SX1 : w.heap.size + 2 ≤ ((y1.setCell ⟨w.heap.size, 0, none⟩ (.bool R1)).setCell ⟨w.heap.size, 1, none⟩ (.slice P1 m1 d1)).heap.size := by have := b1.size; simp; omega
  replace G1 := G1.step AG
  have u1 : Two ((y1.setCell ⟨w.heap.size, 0, none⟩ (.bool R1)).setCell ⟨w.heap.size, 1, none⟩ (.slice P1 m1 d1)) (w.heap.size) 24 (.bool R1) (.slice P1 m1 d1) := t1.set2
  have u2 := Two.far2 (b := w.heap.size) (u' := .bool R1) (v' := .slice P1 m1 d1) t2 (by omega)
  have k1 := u2.fst
  have k2 := u2.snd
  go_wp2_with fail
  obtain ⟨X1, hX⟩ : ∃ X, X = ((y1.setCell ⟨w.heap.size, 0, none⟩ (.bool R1)).setCell ⟨w.heap.size, 1, none⟩ (.slice P1 m1 d1)) := ⟨_, rfl⟩
  rw [← hX]
  rw [← hX] at AG BX1 SX1 u1 u2 k1 k2 G1
  clear hX t1 t2 AG f1 f2 f3 f4 b1 B3 S3
  have t1 := u1
  have t2 := u2
  clear u1 u2
  have NT := Lib.hid (norm_tells (g := w.heap.size) (F2 _ (Agr2.of_below BX1)).out.out (by omega) SX1 6 HVB.out)
  refine (NT.out).mono ?_
  clear NT
  rintro e y2 ⟨R2, P2, m2, d2, rfl, G2, b2⟩
  replace t1 := t1.below' b2
  replace t2 := t2.below' b2
  replace G1 := G1.step (Agr2.of_below b2)
  clear k1 k2
  have f1 := t2.free 0
  have f2 := t2.free 1
  have f3 := t2.fst
  have f4 := t2.snd
  have AG := Agr2.set2 (g := w.heap.size) (b := w.heap.size + 1) y2 (.bool R2) (.slice P2 m2 d2) (by omega) (by omega)
  have BX2 : Below w.heap.size w ((y2.setCell ⟨w.heap.size + 1, 0, none⟩ (.bool R2)).setCell ⟨w.heap.size + 1, 1, none⟩ (.slice P2 m2 d2)) := below_two (below_then BX1 b2) (by omega)
  have SX2 : w.heap.size + 2 ≤ ((y2.setCell ⟨w.heap.size + 1, 0, none⟩ (.bool R2)).setCell ⟨w.heap.size + 1, 1, none⟩ (.slice P2 m2 d2)).heap.size := by have := b2.size; simp; omega
  replace G1 := G1.step AG
  replace G2 := G2.step AG
  have u1 := Two.far2 (b := w.heap.size + 1) (u' := .bool R2) (v' := .slice P2 m2 d2) t1 (by omega)
  have u2 : Two ((y2.setCell ⟨w.heap.size + 1, 0, none⟩ (.bool R2)).setCell ⟨w.heap.size + 1, 1, none⟩ (.slice P2 m2 d2)) (w.heap.size + 1) 24 (.bool R2) (.slice P2 m2 d2) := t2.set2
  obtain ⟨X, hX⟩ : ∃ X, X = ((y2.setCell ⟨w.heap.size + 1, 0, none⟩ (.bool R2)).setCell ⟨w.heap.size + 1, 1, none⟩ (.slice P2 m2 d2)) := ⟨_, rfl⟩
  have Q1 := hX ▸ G1.out
  have Q2 := hX ▸ G2.out
  have T1 := hX ▸ u1
  have T2 := hX ▸ u2
  have B := hX ▸ BX2
  have K1 := Lib.hid u1
  have K2 := Lib.hid u2
  have HX := Lib.hid hX
  clear hX G1 G2 AG b2 BX1 SX1 SX2 t1 t2 BX2 F1 F2
  clear u1 u2
  go_wp2_with fail
  rw [← HX.out]
  refine ((AW _ B).out).mono ?_
  rintro e ye ⟨rfl, be⟩
  go_wp2
  go_ret
  exact ⟨rfl, be⟩
set_option maxHeartbeats 12800000 in
set_option maxRecDepth 100000 in
theorem zero (r1 r2 : Bool) (A1 A2 : Option Addr) (n1 c1 n2 c2 : Nat) (sa sb : Int) (w : World) (ht : Tab w) (h1 : NumAt w r1 A1 n1 c1 sa) (h2 : NumAt w r2 A2 n2 c2 sb) (l1 : n1 ≤ 60) (l2 : n2 ≤ 60) (h0 : Hid (sb = 0)) (HVA : Hid (resV sa = 0)) (HVB : Hid (resV sb = 0)) :
    Calls Tryd.prog 12 #[.agg #[.bool r1, .slice A1 n1 c1], .agg #[.bool r2, .slice A2 n2 c2]] w fun e w' => e = .returned (.bool true) ∧ Below w.heap.size w w' := by
  obtain ⟨W, hW⟩ : ∃ W, W = (w.alloc (.cells #[.bool r1, .slice A1 n1 c1] 24)).alloc (.cells #[.bool r2, .slice A2 n2 c2] 24) := ⟨_, rfl⟩
  obtain ⟨t1, t2, hbW, hWs⟩ := boxes24 w _ _ _ _ W hW
  have LA := fun W => Lib.hid (long_no r1 A1 n1 c1 l1 W)
  have LB := fun W => Lib.hid (long_no r2 A2 n2 c2 l2 W)
  have F1 : ∀ V, Agr2 w.heap.size w V → Hid (Firm2 (fun V => NumAt V r1 A1 n1 c1 sa) w.heap.size V) := fun V h => Lib.hid ((firm_old2 h1).step h)
  have F2 : ∀ V, Agr2 w.heap.size w V → Hid (Firm2 (fun V => NumAt V r2 A2 n2 c2 sb) w.heap.size V) := fun V h => Lib.hid ((firm_old2 h2).step h)
  have AW : ∀ V, Below w.heap.size w V → Hid (Calls Tryd.prog 18 #[] V fun e w' => e = .returned (.bool true) ∧ Below w.heap.size w w') :=
    fun V hb => Lib.hid ((awake_any V (ht.below hb)).mono fun e w' ⟨he, hw⟩ => ⟨he, below_then hb hw⟩)
  have k1 := t1.fst
  have k2 := t1.snd
  clear h1 h2 ht
  go_enter Tryd.func12, Tryd.ntmps12
  go_wp2_with fail
  rw [← hW]
  have HW := Lib.hid hW
  have HWS := Lib.hid hWs
  clear hW hWs
  refine ((LA _).out).mono ?_
  rintro e v1 ⟨rfl, b1⟩
  replace t1 := t1.below' b1
  replace t2 := t2.below' b1
  clear k1 k2
  have k1 := t2.fst
  have k2 := t2.snd
  go_wp2_with fail
  refine ((LB _).out).mono ?_
  rintro e v2 ⟨rfl, b2⟩
  replace t1 := t1.below' b2
  replace t2 := t2.below' b2
  have B3 : Below w.heap.size w v2 := below_then (below_then hbW b1) b2
  have S3 : w.heap.size + 2 ≤ v2.heap.size := by have := HWS.out; have := b1.size; have := b2.size; omega
  clear k1 k2 b1 b2 hbW LA LB
  have k1 := t1.fst
  have k2 := t1.snd
  go_wp2_with fail
  have NT := Lib.hid (norm_tells (g := w.heap.size) (F1 _ (Agr2.of_below B3)).out.out (by omega) S3 0 HVA.out)
  refine (NT.out).mono ?_
  clear NT
  rintro e y1 ⟨R1, P1, m1, d1, rfl, G1, b1⟩
  replace t1 := t1.below' b1
  replace t2 := t2.below' b1
  clear k1 k2
  have f1 := t1.free 0
  have f2 := t1.free 1
  have f3 := t1.fst
  have f4 := t1.snd
  have AG := Agr2.set2 (g := w.heap.size) (b := w.heap.size) y1 (.bool R1) (.slice P1 m1 d1) (by omega) (by omega)
  have BX1 : Below w.heap.size w ((y1.setCell ⟨w.heap.size, 0, none⟩ (.bool R1)).setCell ⟨w.heap.size, 1, none⟩ (.slice P1 m1 d1)) := below_two (below_then B3 b1) (by omega)
  have SX1 : w.heap.size + 2 ≤ ((y1.setCell ⟨w.heap.size, 0, none⟩ (.bool R1)).setCell ⟨w.heap.size, 1, none⟩ (.slice P1 m1 d1)).heap.size := by have := b1.size; simp; omega
  replace G1 := G1.step AG
  have u1 : Two ((y1.setCell ⟨w.heap.size, 0, none⟩ (.bool R1)).setCell ⟨w.heap.size, 1, none⟩ (.slice P1 m1 d1)) (w.heap.size) 24 (.bool R1) (.slice P1 m1 d1) := t1.set2
  have u2 := Two.far2 (b := w.heap.size) (u' := .bool R1) (v' := .slice P1 m1 d1) t2 (by omega)
  have k1 := u2.fst
  have k2 := u2.snd
  go_wp2_with fail
  obtain ⟨X1, hX⟩ : ∃ X, X = ((y1.setCell ⟨w.heap.size, 0, none⟩ (.bool R1)).setCell ⟨w.heap.size, 1, none⟩ (.slice P1 m1 d1)) := ⟨_, rfl⟩
  rw [← hX]
  rw [← hX] at AG BX1 SX1 u1 u2 k1 k2 G1
  clear hX t1 t2 AG f1 f2 f3 f4 b1 B3 S3
  have t1 := u1
  have t2 := u2
  clear u1 u2
  have NT := Lib.hid (norm_tells (g := w.heap.size) (F2 _ (Agr2.of_below BX1)).out.out (by omega) SX1 0 HVB.out)
  refine (NT.out).mono ?_
  clear NT
  rintro e y2 ⟨R2, P2, m2, d2, rfl, G2, b2⟩
  replace t1 := t1.below' b2
  replace t2 := t2.below' b2
  replace G1 := G1.step (Agr2.of_below b2)
  clear k1 k2
  have f1 := t2.free 0
  have f2 := t2.free 1
  have f3 := t2.fst
  have f4 := t2.snd
  have AG := Agr2.set2 (g := w.heap.size) (b := w.heap.size + 1) y2 (.bool R2) (.slice P2 m2 d2) (by omega) (by omega)
  have BX2 : Below w.heap.size w ((y2.setCell ⟨w.heap.size + 1, 0, none⟩ (.bool R2)).setCell ⟨w.heap.size + 1, 1, none⟩ (.slice P2 m2 d2)) := below_two (below_then BX1 b2) (by omega)
  have SX2 : w.heap.size + 2 ≤ ((y2.setCell ⟨w.heap.size + 1, 0, none⟩ (.bool R2)).setCell ⟨w.heap.size + 1, 1, none⟩ (.slice P2 m2 d2)).heap.size := by have := b2.size; simp; omega
  replace G1 := G1.step AG
  replace G2 := G2.step AG
  have u1 := Two.far2 (b := w.heap.size + 1) (u' := .bool R2) (v' := .slice P2 m2 d2) t1 (by omega)
  have u2 : Two ((y2.setCell ⟨w.heap.size + 1, 0, none⟩ (.bool R2)).setCell ⟨w.heap.size + 1, 1, none⟩ (.slice P2 m2 d2)) (w.heap.size + 1) 24 (.bool R2) (.slice P2 m2 d2) := t2.set2
  obtain ⟨X, hX⟩ : ∃ X, X = ((y2.setCell ⟨w.heap.size + 1, 0, none⟩ (.bool R2)).setCell ⟨w.heap.size + 1, 1, none⟩ (.slice P2 m2 d2)) := ⟨_, rfl⟩
  have Q1 := hX ▸ G1.out
  have Q2 := hX ▸ G2.out
  have T1 := hX ▸ u1
  have T2 := hX ▸ u2
  have B := hX ▸ BX2
  have K1 := Lib.hid u1
  have K2 := Lib.hid u2
  have HX := Lib.hid hX
  clear hX G1 G2 AG b2 BX1 SX1 SX2 t1 t2 BX2 F1 F2
  clear u1 u2
  rw [resZ_of0 HVB.out, h0.out] at Q2
  have k1 := K2.out.fst
  have k2 := K2.out.snd
  go_wp2_with fail
  rw [← HX.out]
  have SB := Lib.hid ((sign_at X Q2.at (by have := Q2.le; omega)).mono fun e w' ⟨he, hb⟩ => (⟨by rw [he, cmpI_eq rfl], hb⟩ : e = Ending.returned (.int .i64 0) ∧ Below X.heap.size X w'))
  refine (SB.out).mono ?_
  rintro e z1 ⟨rfl, bz⟩
  replace B := below_then B bz
  go_wp2_with fail
  refine ((AW _ B).out).mono ?_
  rintro e ye ⟨rfl, be⟩
  go_wp2
  go_ret
  exact ⟨rfl, be⟩
end Go.Proofs.YtocoflojlliapaaDoor.numDivision
