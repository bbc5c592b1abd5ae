/- NumRing: THE LAW's WALK, AND THE STATEMENT. -/
import Derived.Test.YtocoflojlliapaaDoorH6
import Derived.Test.YtocoflojlliapaaDoorL1
set_option linter.unusedVariables false
namespace Go.Proofs.YtocoflojlliapaaDoor.numRing
open Go.ChangeShapes Go.WideShapes Go.ChangeAt Go.RowKit Go.Proofs.YtocoflojlliapaaDoor
theorem norm_tells {w : World} {r1 : Bool} {A1 : Option Addr} {n c1 g : Nat} {z : Int} (h : NumAt w r1 A1 n c1 z) (hl : n ≤ 35184372088832) (hg : g + 3 ≤ w.heap.size) (v : Int) (hv : resV z = v) :
    Calls Tryd.prog 21 #[.agg #[.bool r1, .slice A1 n c1]] w fun e w' => ∃ r A m c, e = .returned (.tuple #[.agg #[.bool r, .slice A m c], .int .i64 v]) ∧ Firm (fun V => Can V r A m c (resZ z)) g w' ∧ Below w.heap.size w w' := by
  subst hv
  obtain ⟨N, hm, hz⟩ := h
  have hN := sg_abs hz
  by_cases hf : dl z.natAbs ≤ 48
  · refine (norm_yes r1 A1 n c1 N w hm hl (hN ▸ hf)).mono fun e w' hq => ?_
    obtain ⟨A, c, rfl, hfr⟩ := hq
    refine ⟨_, A, _, c, by rw [resV_yes hf, signB_sg hz, hN], ?_, hfr.2⟩
    rw [resZ_yes hf]
    exact firm_new (hN ▸ hfr) hg hf
  · refine (norm_no r1 A1 n c1 N w hm hl (by rw [hN]; omega)).mono fun e w' hq => ?_
    obtain ⟨rfl, hb⟩ := hq
    refine ⟨false, none, 0, 0, by rw [resV_no hf], ?_, hb⟩
    rw [resZ_no hf]
    exact fun V _ => can_nil V
theorem resV_two (z : Int) : resV z = 0 ∨ resV z = 6 := by
  by_cases h : dl z.natAbs ≤ 48
  · exact .inl (resV_yes h)
  · exact .inr (resV_no h)
theorem resZ_of0 {z : Int} (h : resV z = 0) : resZ z = z := by
  by_cases hf : dl z.natAbs ≤ 48
  · exact resZ_yes hf
  · rw [resV_no hf] at h; omega
theorem resV_of {z : Int} (h : dl z.natAbs ≤ 48) : resV z = 0 := resV_yes h
theorem Tells.letters {w w' : World} {e : Ending} {z v Z : Int} (h : Tells w w' e z) (hv : resV z = v) (hZ : resZ z = Z) :
    ∃ r A m c, e = .returned (.tuple #[.agg #[.bool r, .slice A m c], .int .i64 v]) ∧ Can w' r A m c Z ∧ Below w.heap.size w w' := by
  subst hv hZ
  exact h
theorem Can.fits {w : World} {r : Bool} {A : Option Addr} {m c : Nat} {z : Int} (h : Can w r A m c z) : dl z.natAbs ≤ 48 := by
  have := h.2.1
  have := h.le
  omega
set_option maxHeartbeats 12800000 in
set_option maxRecDepth 100000 in
theorem main (na nb nc : Bool) (A1 A2 A3 : Option Addr) (n1 c1 n2 c2 n3 c3 : Nat) (sa sb sc : Int) (w : World) (ht : Tab w) (h1 : NumAt w na A1 n1 c1 sa) (h2 : NumAt w nb A2 n2 c2 sb) (h3 : NumAt w nc A3 n3 c3 sc)
    (l1 : n1 ≤ 60) (l2 : n2 ≤ 60) (l3 : n3 ≤ 60) :
    Calls Tryd.prog 11 #[.agg #[.bool na, .slice A1 n1 c1], .agg #[.bool nb, .slice A2 n2 c2], .agg #[.bool nc, .slice A3 n3 c3]] w fun e w' => e = .returned (.bool true) ∧ Below w.heap.size w w' := by
  obtain ⟨W, hW⟩ : ∃ W, W = ((w.alloc (.cells #[.bool na, .slice A1 n1 c1] 24)).alloc (.cells #[.bool nb, .slice A2 n2 c2] 24)).alloc (.cells #[.bool nc, .slice A3 n3 c3] 24) := ⟨_, rfl⟩
  obtain ⟨t1, t2, t3, hbW, hWs⟩ := boxes3 w _ _ _ _ _ _ W hW
  obtain ⟨va, hva⟩ : ∃ v, resV sa = v := ⟨_, rfl⟩
  obtain ⟨vb, hvb⟩ : ∃ v, resV sb = v := ⟨_, rfl⟩
  obtain ⟨vc, hvc⟩ : ∃ v, resV sc = v := ⟨_, rfl⟩
  have LA := fun W => Lib.hid (long_no na A1 n1 c1 l1 W)
  have LB := fun W => Lib.hid (long_no nb A2 n2 c2 l2 W)
  have LC := fun W => Lib.hid (long_no nc A3 n3 c3 l3 W)
  have F1 : ∀ V, Agr w.heap.size w V → Hid (Firm (fun V => NumAt V na A1 n1 c1 sa) w.heap.size V) := fun V h => Lib.hid ((firm_old h1).step h)
  have F2 : ∀ V, Agr w.heap.size w V → Hid (Firm (fun V => NumAt V nb A2 n2 c2 sb) w.heap.size V) := fun V h => Lib.hid ((firm_old h2).step h)
  have F3 : ∀ V, Agr w.heap.size w V → Hid (Firm (fun V => NumAt V nc A3 n3 c3 sc) w.heap.size V) := fun V h => Lib.hid ((firm_old h3).step h)
  have HVA := Lib.hid (And.intro hva (hva ▸ resV_two sa))
  have HVB := Lib.hid (And.intro hvb (hvb ▸ resV_two sb))
  have HVC := Lib.hid (And.intro hvc (hvc ▸ resV_two sc))
  have AW : ∀ V, Below w.heap.size w V → Hid (Calls Tryd.prog 18 #[] V fun e w' => e = .returned (.bool true) ∧ Below w.heap.size w w') :=
    fun V hb => Lib.hid ((awake_any V (ht.below hb)).mono fun e w' ⟨he, hw⟩ => ⟨he, below_then hb hw⟩)
  have k1 := t1.fst
  have k2 := t1.snd
  clear hva hvb hvc h1 h2 h3 ht
  go_enter Tryd.func11, Tryd.ntmps11
  go_wp2_with fail
  rw [← hW]
  have HW := Lib.hid hW
  have HWS := Lib.hid hWs
  clear hW hWs
  refine ((LA _).out).mono ?_
  rintro e v1 ⟨rfl, b1⟩
  replace t1 := t1.below' b1
  replace t2 := t2.below' b1
  replace t3 := t3.below' b1
  clear k1 k2
  have k1 := t2.fst
  have k2 := t2.snd
  go_wp2_with fail
  refine ((LB _).out).mono ?_
  rintro e v2 ⟨rfl, b2⟩
  replace t1 := t1.below' b2
  replace t2 := t2.below' b2
  replace t3 := t3.below' b2
  clear k1 k2
  have k1 := t3.fst
  have k2 := t3.snd
  go_wp2_with fail
  refine ((LC _).out).mono ?_
  rintro e v3 ⟨rfl, b3⟩
  replace t1 := t1.below' b3
  replace t2 := t2.below' b3
  replace t3 := t3.below' b3
  have B3 : Below w.heap.size w v3 := below_then (below_then (below_then hbW b1) b2) b3
  have S3 : w.heap.size + 3 ≤ v3.heap.size := by have := HWS.out; have := b1.size; have := b2.size; have := b3.size; omega
  clear k1 k2 b1 b2 b3 hbW LA LB LC
  have k1 := t1.fst
  have k2 := t1.snd
  go_wp2_with fail
  have NT := Lib.hid (norm_tells (g := w.heap.size) (F1 _ (Agr.of_below B3)).out.out (by omega) S3 va (HVA.out.1))
  refine (NT.out).mono ?_
  clear NT
  rintro e y1 ⟨r1, P1, m1, d1, rfl, G1, b1⟩
  replace t1 := t1.below' b1
  replace t2 := t2.below' b1
  replace t3 := t3.below' b1
  clear k1 k2
  have f1 := t1.free 0
  have f2 := t1.free 1
  have f3 := t1.fst
  have f4 := t1.snd
  have AG := Agr.set2 (g := w.heap.size) (b := w.heap.size) y1 (.bool r1) (.slice P1 m1 d1) (by omega) (by omega)
  have BX1 : Below w.heap.size w ((y1.setCell ⟨w.heap.size, 0, none⟩ (.bool r1)).setCell ⟨w.heap.size, 1, none⟩ (.slice P1 m1 d1)) := below_two (below_then B3 b1) (by omega)
  have SX1 : w.heap.size + 3 ≤ ((y1.setCell ⟨w.heap.size, 0, none⟩ (.bool r1)).setCell ⟨w.heap.size, 1, none⟩ (.slice P1 m1 d1)).heap.size := by have := b1.size; simp; omega
  replace G1 := G1.step AG
  have u1 : Two ((y1.setCell ⟨w.heap.size, 0, none⟩ (.bool r1)).setCell ⟨w.heap.size, 1, none⟩ (.slice P1 m1 d1)) (w.heap.size) 24 (.bool r1) (.slice P1 m1 d1) := t1.set2
  have u2 := Two.far2 (b := w.heap.size) (u' := .bool r1) (v' := .slice P1 m1 d1) t2 (by omega)
  have u3 := Two.far2 (b := w.heap.size) (u' := .bool r1) (v' := .slice P1 m1 d1) t3 (by omega)
  have k1 := u2.fst
  have k2 := u2.snd
  go_wp2_with fail
  obtain ⟨X1, hX⟩ : ∃ X, X = ((y1.setCell ⟨w.heap.size, 0, none⟩ (.bool r1)).setCell ⟨w.heap.size, 1, none⟩ (.slice P1 m1 d1)) := ⟨_, rfl⟩
  rw [← hX]
  rw [← hX] at AG BX1 SX1 u1 u2 u3 k1 k2 G1
  clear hX t1 t2 t3 AG f1 f2 f3 f4 b1 B3 S3
  have t1 := u1
  have t2 := u2
  have t3 := u3
  clear u1 u2 u3
  have NT := Lib.hid (norm_tells (g := w.heap.size) (F2 _ (Agr.of_below BX1)).out.out (by omega) SX1 vb (HVB.out.1))
  refine (NT.out).mono ?_
  clear NT
  rintro e y2 ⟨r2, P2, m2, d2, rfl, G2, b2⟩
  replace t1 := t1.below' b2
  replace t2 := t2.below' b2
  replace t3 := t3.below' b2
  replace G1 := G1.step (Agr.of_below b2)
  clear k1 k2
  have f1 := t2.free 0
  have f2 := t2.free 1
  have f3 := t2.fst
  have f4 := t2.snd
  have AG := Agr.set2 (g := w.heap.size) (b := w.heap.size + 1) y2 (.bool r2) (.slice P2 m2 d2) (by omega) (by omega)
  have BX2 : Below w.heap.size w ((y2.setCell ⟨w.heap.size + 1, 0, none⟩ (.bool r2)).setCell ⟨w.heap.size + 1, 1, none⟩ (.slice P2 m2 d2)) := below_two (below_then BX1 b2) (by omega)
  have SX2 : w.heap.size + 3 ≤ ((y2.setCell ⟨w.heap.size + 1, 0, none⟩ (.bool r2)).setCell ⟨w.heap.size + 1, 1, none⟩ (.slice P2 m2 d2)).heap.size := by have := b2.size; simp; omega
  replace G1 := G1.step AG
  replace G2 := G2.step AG
  have u1 := Two.far2 (b := w.heap.size + 1) (u' := .bool r2) (v' := .slice P2 m2 d2) t1 (by omega)
  have u2 : Two ((y2.setCell ⟨w.heap.size + 1, 0, none⟩ (.bool r2)).setCell ⟨w.heap.size + 1, 1, none⟩ (.slice P2 m2 d2)) (w.heap.size + 1) 24 (.bool r2) (.slice P2 m2 d2) := t2.set2
  have u3 := Two.far2 (b := w.heap.size + 1) (u' := .bool r2) (v' := .slice P2 m2 d2) t3 (by omega)
  have k1 := u3.fst
  have k2 := u3.snd
  go_wp2_with fail
  obtain ⟨X2, hX⟩ : ∃ X, X = ((y2.setCell ⟨w.heap.size + 1, 0, none⟩ (.bool r2)).setCell ⟨w.heap.size + 1, 1, none⟩ (.slice P2 m2 d2)) := ⟨_, rfl⟩
  rw [← hX]
  rw [← hX] at AG BX2 SX2 u1 u2 u3 k1 k2 G1 G2
  clear hX t1 t2 t3 AG f1 f2 f3 f4 b2 BX1 SX1
  have t1 := u1
  have t2 := u2
  have t3 := u3
  clear u1 u2 u3
  have NT := Lib.hid (norm_tells (g := w.heap.size) (F3 _ (Agr.of_below BX2)).out.out (by omega) SX2 vc (HVC.out.1))
  refine (NT.out).mono ?_
  clear NT
  rintro e y3 ⟨r3, P3, m3, d3, rfl, G3, b3⟩
  replace t1 := t1.below' b3
  replace t2 := t2.below' b3
  replace t3 := t3.below' b3
  replace G1 := G1.step (Agr.of_below b3)
  replace G2 := G2.step (Agr.of_below b3)
  clear k1 k2
  have f1 := t3.free 0
  have f2 := t3.free 1
  have f3 := t3.fst
  have f4 := t3.snd
  have AG := Agr.set2 (g := w.heap.size) (b := w.heap.size + 1 + 1) y3 (.bool r3) (.slice P3 m3 d3) (by omega) (by omega)
  have BX3 : Below w.heap.size w ((y3.setCell ⟨w.heap.size + 1 + 1, 0, none⟩ (.bool r3)).setCell ⟨w.heap.size + 1 + 1, 1, none⟩ (.slice P3 m3 d3)) := below_two (below_then BX2 b3) (by omega)
  have SX3 : w.heap.size + 3 ≤ ((y3.setCell ⟨w.heap.size + 1 + 1, 0, none⟩ (.bool r3)).setCell ⟨w.heap.size + 1 + 1, 1, none⟩ (.slice P3 m3 d3)).heap.size := by have := b3.size; simp; omega
  replace G1 := G1.step AG
  replace G2 := G2.step AG
  replace G3 := G3.step AG
  have u1 := Two.far2 (b := w.heap.size + 1 + 1) (u' := .bool r3) (v' := .slice P3 m3 d3) t1 (by omega)
  have u2 := Two.far2 (b := w.heap.size + 1 + 1) (u' := .bool r3) (v' := .slice P3 m3 d3) t2 (by omega)
  have u3 : Two ((y3.setCell ⟨w.heap.size + 1 + 1, 0, none⟩ (.bool r3)).setCell ⟨w.heap.size + 1 + 1, 1, none⟩ (.slice P3 m3 d3)) (w.heap.size + 2) 24 (.bool r3) (.slice P3 m3 d3) := t3.set2
  obtain ⟨X3, hX⟩ : ∃ X, X = ((y3.setCell ⟨w.heap.size + 1 + 1, 0, none⟩ (.bool r3)).setCell ⟨w.heap.size + 1 + 1, 1, none⟩ (.slice P3 m3 d3)) := ⟨_, rfl⟩
  have Q1 := hX ▸ G1.out
  have Q2 := hX ▸ G2.out
  have Q3 := hX ▸ G3.out
  have T1 := hX ▸ u1
  have T2 := hX ▸ u2
  have T3 := hX ▸ u3
  have B := hX ▸ BX3
  have K1 := Lib.hid u1
  have K2 := Lib.hid u2
  have HX := Lib.hid hX
  clear hX G1 G2 G3 AG b3 BX2 SX2 SX3 t1 t2 t3 BX3 F1 F2 F3
  clear u1 u2 u3
  generalize hx : resZ sa = x at Q1
  generalize hy : resZ sb = y at Q2
  generalize hz : resZ sc = z at Q3
  clear hx hy hz
  obtain ⟨vs, hvs⟩ : ∃ v, resV (x + y) = v := ⟨_, rfl⟩
  obtain ⟨zs, hzs⟩ : ∃ v, resZ (x + y) = v := ⟨_, rfl⟩
  have HVS := Lib.hid (And.intro hvs (hvs ▸ resV_two (x + y)))
  have HZS := Lib.hid hzs
  obtain ⟨vp, hvp⟩ : ∃ v, resV (x * y) = v := ⟨_, rfl⟩
  obtain ⟨zp, hzp⟩ : ∃ v, resZ (x * y) = v := ⟨_, rfl⟩
  have HVP := Lib.hid hvp
  have HZP := Lib.hid hzp
  clear hvs hzs hvp hzp
  obtain ⟨hva, rfl | rfl⟩ := HVA.out
  rotate_left
  · clear hva HVA
    go_wp2_with fail
    rw [← HX.out]
    refine ((AW _ B).out).mono ?_
    rintro e ye ⟨rfl, be⟩
    go_wp2
    go_ret
    exact ⟨rfl, be⟩
  obtain ⟨hvb, rfl | rfl⟩ := HVB.out
  rotate_left
  · clear hva HVA hvb HVB
    go_wp2_with fail
    rw [← HX.out]
    refine ((AW _ B).out).mono ?_
    rintro e ye ⟨rfl, be⟩
    go_wp2
    go_ret
    exact ⟨rfl, be⟩
  obtain ⟨hvc, rfl | rfl⟩ := HVC.out
  rotate_left
  · clear hva HVA hvb HVB hvc HVC
    go_wp2_with fail
    rw [← HX.out]
    refine ((AW _ B).out).mono ?_
    rintro e ye ⟨rfl, be⟩
    go_wp2
    go_ret
    exact ⟨rfl, be⟩
  clear hva HVA hvb HVB hvc HVC
  have k1 := K1.out.fst
  have k2 := K1.out.snd
  have k3 := K2.out.fst
  have k4 := K2.out.snd
  go_wp2_with fail
  rw [← HX.out]
  clear f1 f2 f3 f4
  have CT := Lib.hid ((add_can Q1 Q2).mono fun e w' h => Tells.letters h (HVS.out.1) (HZS.out))
  refine (CT.out).mono ?_
  clear CT k1 k2 k3 k4
  rintro e y10 ⟨r10, P10, m10, d10, rfl, Qs, b10⟩
  have bb := below_then b10 (below_al (Below.refl _ _) (.cells #[.bool r10, .slice P10 m10 d10] 24))
  replace T1 := T1.below' bb
  replace T2 := T2.below' bb
  replace T3 := T3.below' bb
  replace Q1 := Q1.below bb
  replace Q2 := Q2.below bb
  replace Q3 := Q3.below bb
  replace Qs := Qs.below (below_al (Below.refl _ _) (.cells #[.bool r10, .slice P10 m10 d10] 24))
  have Ts := Two.made y10 24 (.bool r10) (.slice P10 m10 d10)
  replace B := below_then B bb
  clear bb b10
  have k1 := T2.fst
  have k2 := T2.snd
  have k3 := T1.fst
  have k4 := T1.snd
  go_wp2_with fail
  have CT := Lib.hid ((add_can Q2 Q1).mono fun e w' h => Tells.letters h (Int.add_comm x y ▸ HVS.out.1) (Int.add_comm x y ▸ HZS.out))
  refine (CT.out).mono ?_
  clear CT k1 k2 k3 k4
  rintro e y11 ⟨r11, P11, m11, d11, rfl, Qq, b11⟩
  have bb := below_then b11 (below_al (Below.refl _ _) (.cells #[.bool r11, .slice P11 m11 d11] 24))
  replace T1 := T1.below' bb
  replace T2 := T2.below' bb
  replace T3 := T3.below' bb
  replace Ts := Ts.below' bb
  replace Q1 := Q1.below bb
  replace Q2 := Q2.below bb
  replace Q3 := Q3.below bb
  replace Qs := Qs.below bb
  replace Qq := Qq.below (below_al (Below.refl _ _) (.cells #[.bool r11, .slice P11 m11 d11] 24))
  have Tq := Two.made y11 24 (.bool r11) (.slice P11 m11 d11)
  replace B := below_then B bb
  clear bb b11
  have k1 := Ts.fst
  have k2 := Ts.snd
  have k3 := Tq.fst
  have k4 := Tq.snd
  go_wp2_with fail
  have CT := Lib.hid (same_can Qs Qq)
  refine (CT.out).mono ?_
  clear CT k1 k2 k3 k4
  rintro e y12 ⟨rfl, bb⟩
  replace T1 := T1.below' bb
  replace T2 := T2.below' bb
  replace T3 := T3.below' bb
  replace Ts := Ts.below' bb
  replace Tq := Tq.below' bb
  replace Q1 := Q1.below bb
  replace Q2 := Q2.below bb
  replace Q3 := Q3.below bb
  replace Qs := Qs.below bb
  replace Qq := Qq.below bb
  replace B := below_then B bb
  clear bb
  clear Tq Qq
  obtain ⟨hvs, rfl | rfl⟩ := HVS.out
  rotate_left
  · clear hvs HVS
    have k1 := T1.fst
    have k2 := T1.snd
    have k3 := T2.fst
    have k4 := T2.snd
    go_wp2_with fail
    have CT := Lib.hid ((mul_can Q1 Q2).mono fun e w' h => Tells.letters h (HVP.out) (HZP.out))
    refine (CT.out).mono ?_
    clear CT k1 k2 k3 k4
    rintro e y13 ⟨r13, P13, m13, d13, rfl, Qp, b13⟩
    have bb := below_then b13 (below_al (Below.refl _ _) (.cells #[.bool r13, .slice P13 m13 d13] 24))
    replace T1 := T1.below' bb
    replace T2 := T2.below' bb
    replace T3 := T3.below' bb
    replace Ts := Ts.below' bb
    replace Q1 := Q1.below bb
    replace Q2 := Q2.below bb
    replace Q3 := Q3.below bb
    replace Qs := Qs.below bb
    replace Qp := Qp.below (below_al (Below.refl _ _) (.cells #[.bool r13, .slice P13 m13 d13] 24))
    have Tp := Two.made y13 24 (.bool r13) (.slice P13 m13 d13)
    replace B := below_then B bb
    clear bb b13
    have k1 := T2.fst
    have k2 := T2.snd
    have k3 := T1.fst
    have k4 := T1.snd
    go_wp2_with fail
    have CT := Lib.hid ((mul_can Q2 Q1).mono fun e w' h => Tells.letters h (Int.mul_comm x y ▸ HVP.out) (Int.mul_comm x y ▸ HZP.out))
    refine (CT.out).mono ?_
    clear CT k1 k2 k3 k4
    rintro e y14 ⟨r14, P14, m14, d14, rfl, Qu, b14⟩
    have bb := below_then b14 (below_al (Below.refl _ _) (.cells #[.bool r14, .slice P14 m14 d14] 24))
    replace T1 := T1.below' bb
    replace T2 := T2.below' bb
    replace T3 := T3.below' bb
    replace Ts := Ts.below' bb
    replace Tp := Tp.below' bb
    replace Q1 := Q1.below bb
    replace Q2 := Q2.below bb
    replace Q3 := Q3.below bb
    replace Qs := Qs.below bb
    replace Qp := Qp.below bb
    replace Qu := Qu.below (below_al (Below.refl _ _) (.cells #[.bool r14, .slice P14 m14 d14] 24))
    have Tu := Two.made y14 24 (.bool r14) (.slice P14 m14 d14)
    replace B := below_then B bb
    clear bb b14
    have k1 := Tp.fst
    have k2 := Tp.snd
    have k3 := Tu.fst
    have k4 := Tu.snd
    go_wp2_with fail
    have CT := Lib.hid (same_can Qp Qu)
    refine (CT.out).mono ?_
    clear CT k1 k2 k3 k4
    rintro e y15 ⟨rfl, bb⟩
    replace T1 := T1.below' bb
    replace T2 := T2.below' bb
    replace T3 := T3.below' bb
    replace Ts := Ts.below' bb
    replace Tp := Tp.below' bb
    replace Tu := Tu.below' bb
    replace Q1 := Q1.below bb
    replace Q2 := Q2.below bb
    replace Q3 := Q3.below bb
    replace Qs := Qs.below bb
    replace Qp := Qp.below bb
    replace Qu := Qu.below bb
    replace B := below_then B bb
    clear bb
    clear Tp Qp Tu Qu
    obtain ⟨vj, hvj⟩ : ∃ v, resV (zs * z) = v := ⟨_, rfl⟩
    obtain ⟨vk, hvk⟩ : ∃ v, resV (x * z) = v := ⟨_, rfl⟩
    obtain ⟨vl, hvl⟩ : ∃ v, resV (y * z) = v := ⟨_, rfl⟩
    have HVj := Lib.hid (And.intro hvj (hvj ▸ resV_two (zs * z)))
    have HVk := Lib.hid (And.intro hvk (hvk ▸ resV_two (x * z)))
    have HVl := Lib.hid (And.intro hvl (hvl ▸ resV_two (y * z)))
    clear hvj hvk hvl
    have k1 := Ts.fst
    have k2 := Ts.snd
    have k3 := T3.fst
    have k4 := T3.snd
    go_wp2_with fail
    have CT := Lib.hid ((mul_can Qs Q3).mono fun e w' h => Tells.letters h (HVj.out.1) (rfl))
    refine (CT.out).mono ?_
    clear CT k1 k2 k3 k4
    rintro e y16 ⟨r16, P16, m16, d16, rfl, Qj, b16⟩
    have bb := below_then b16 (below_al (Below.refl _ _) (.cells #[.bool r16, .slice P16 m16 d16] 24))
    replace T1 := T1.below' bb
    replace T2 := T2.below' bb
    replace T3 := T3.below' bb
    replace Ts := Ts.below' bb
    replace Q1 := Q1.below bb
    replace Q2 := Q2.below bb
    replace Q3 := Q3.below bb
    replace Qs := Qs.below bb
    replace Qj := Qj.below (below_al (Below.refl _ _) (.cells #[.bool r16, .slice P16 m16 d16] 24))
    have Tj := Two.made y16 24 (.bool r16) (.slice P16 m16 d16)
    replace B := below_then B bb
    clear bb b16
    have k1 := T1.fst
    have k2 := T1.snd
    have k3 := T3.fst
    have k4 := T3.snd
    go_wp2_with fail
    have CT := Lib.hid ((mul_can Q1 Q3).mono fun e w' h => Tells.letters h (HVk.out.1) (rfl))
    refine (CT.out).mono ?_
    clear CT k1 k2 k3 k4
    rintro e y17 ⟨r17, P17, m17, d17, rfl, Qk, b17⟩
    have bb := below_then b17 (below_al (Below.refl _ _) (.cells #[.bool r17, .slice P17 m17 d17] 24))
    replace T1 := T1.below' bb
    replace T2 := T2.below' bb
    replace T3 := T3.below' bb
    replace Ts := Ts.below' bb
    replace Tj := Tj.below' bb
    replace Q1 := Q1.below bb
    replace Q2 := Q2.below bb
    replace Q3 := Q3.below bb
    replace Qs := Qs.below bb
    replace Qj := Qj.below bb
    replace Qk := Qk.below (below_al (Below.refl _ _) (.cells #[.bool r17, .slice P17 m17 d17] 24))
    have Tk := Two.made y17 24 (.bool r17) (.slice P17 m17 d17)
    replace B := below_then B bb
    clear bb b17
    have k1 := T2.fst
    have k2 := T2.snd
    have k3 := T3.fst
    have k4 := T3.snd
    go_wp2_with fail
    have CT := Lib.hid ((mul_can Q2 Q3).mono fun e w' h => Tells.letters h (HVl.out.1) (rfl))
    refine (CT.out).mono ?_
    clear CT k1 k2 k3 k4
    rintro e y18 ⟨r18, P18, m18, d18, rfl, Ql, b18⟩
    have bb := below_then b18 (below_al (Below.refl _ _) (.cells #[.bool r18, .slice P18 m18 d18] 24))
    replace T1 := T1.below' bb
    replace T2 := T2.below' bb
    replace T3 := T3.below' bb
    replace Ts := Ts.below' bb
    replace Tj := Tj.below' bb
    replace Tk := Tk.below' bb
    replace Q1 := Q1.below bb
    replace Q2 := Q2.below bb
    replace Q3 := Q3.below bb
    replace Qs := Qs.below bb
    replace Qj := Qj.below bb
    replace Qk := Qk.below bb
    replace Ql := Ql.below (below_al (Below.refl _ _) (.cells #[.bool r18, .slice P18 m18 d18] 24))
    have Tl := Two.made y18 24 (.bool r18) (.slice P18 m18 d18)
    replace B := below_then B bb
    clear bb b18
    go_wp2_with fail
    refine ((AW _ B).out).mono ?_
    rintro e ye ⟨rfl, be⟩
    go_wp2
    go_ret
    exact ⟨rfl, be⟩
  have hzs : zs = x + y := HZS.out.symm.trans (resZ_of0 hvs)
  have HW1 : Hid (resV (zs - y) = 0) := Lib.hid (by rw [hzs, Int.add_sub_cancel]; exact resV_of (Can.fits Q1))
  have HW2 : Hid (resZ (zs - y) = x) := Lib.hid (by rw [hzs, Int.add_sub_cancel]; exact resZ_yes (Can.fits Q1))
  have HZ2 := Lib.hid hzs
  clear hzs hvs HVS
  have k1 := Ts.fst
  have k2 := Ts.snd
  have k3 := T2.fst
  have k4 := T2.snd
  go_wp2_with fail
  have CT := Lib.hid ((sub_can Qs Q2).mono fun e w' h => Tells.letters h (HW1.out) (HW2.out))
  refine (CT.out).mono ?_
  clear CT k1 k2 k3 k4
  rintro e y19 ⟨r19, P19, m19, d19, rfl, Qw, b19⟩
  have bb := below_then b19 (below_al (Below.refl _ _) (.cells #[.bool r19, .slice P19 m19 d19] 24))
  replace T1 := T1.below' bb
  replace T2 := T2.below' bb
  replace T3 := T3.below' bb
  replace Ts := Ts.below' bb
  replace Q1 := Q1.below bb
  replace Q2 := Q2.below bb
  replace Q3 := Q3.below bb
  replace Qs := Qs.below bb
  replace Qw := Qw.below (below_al (Below.refl _ _) (.cells #[.bool r19, .slice P19 m19 d19] 24))
  have Tw := Two.made y19 24 (.bool r19) (.slice P19 m19 d19)
  replace B := below_then B bb
  clear bb b19
  have k1 := Tw.fst
  have k2 := Tw.snd
  have k3 := T1.fst
  have k4 := T1.snd
  go_wp2_with fail
  have CT := Lib.hid (same_can Qw Q1)
  refine (CT.out).mono ?_
  clear CT k1 k2 k3 k4
  rintro e y20 ⟨rfl, bb⟩
  replace T1 := T1.below' bb
  replace T2 := T2.below' bb
  replace T3 := T3.below' bb
  replace Ts := Ts.below' bb
  replace Tw := Tw.below' bb
  replace Q1 := Q1.below bb
  replace Q2 := Q2.below bb
  replace Q3 := Q3.below bb
  replace Qs := Qs.below bb
  replace Qw := Qw.below bb
  replace B := below_then B bb
  clear bb
  clear Tw Qw
  have k1 := T1.fst
  have k2 := T1.snd
  have k3 := T2.fst
  have k4 := T2.snd
  go_wp2_with fail
  have CT := Lib.hid ((mul_can Q1 Q2).mono fun e w' h => Tells.letters h (HVP.out) (HZP.out))
  refine (CT.out).mono ?_
  clear CT k1 k2 k3 k4
  rintro e y21 ⟨r21, P21, m21, d21, rfl, Qp, b21⟩
  have bb := below_then b21 (below_al (Below.refl _ _) (.cells #[.bool r21, .slice P21 m21 d21] 24))
  replace T1 := T1.below' bb
  replace T2 := T2.below' bb
  replace T3 := T3.below' bb
  replace Ts := Ts.below' bb
  replace Q1 := Q1.below bb
  replace Q2 := Q2.below bb
  replace Q3 := Q3.below bb
  replace Qs := Qs.below bb
  replace Qp := Qp.below (below_al (Below.refl _ _) (.cells #[.bool r21, .slice P21 m21 d21] 24))
  have Tp := Two.made y21 24 (.bool r21) (.slice P21 m21 d21)
  replace B := below_then B bb
  clear bb b21
  have k1 := T2.fst
  have k2 := T2.snd
  have k3 := T1.fst
  have k4 := T1.snd
  go_wp2_with fail
  have CT := Lib.hid ((mul_can Q2 Q1).mono fun e w' h => Tells.letters h (Int.mul_comm x y ▸ HVP.out) (Int.mul_comm x y ▸ HZP.out))
  refine (CT.out).mono ?_
  clear CT k1 k2 k3 k4
  rintro e y22 ⟨r22, P22, m22, d22, rfl, Qu, b22⟩
  have bb := below_then b22 (below_al (Below.refl _ _) (.cells #[.bool r22, .slice P22 m22 d22] 24))
  replace T1 := T1.below' bb
  replace T2 := T2.below' bb
  replace T3 := T3.below' bb
  replace Ts := Ts.below' bb
  replace Tp := Tp.below' bb
  replace Q1 := Q1.below bb
  replace Q2 := Q2.below bb
  replace Q3 := Q3.below bb
  replace Qs := Qs.below bb
  replace Qp := Qp.below bb
  replace Qu := Qu.below (below_al (Below.refl _ _) (.cells #[.bool r22, .slice P22 m22 d22] 24))
  have Tu := Two.made y22 24 (.bool r22) (.slice P22 m22 d22)
  replace B := below_then B bb
  clear bb b22
  have k1 := Tp.fst
  have k2 := Tp.snd
  have k3 := Tu.fst
  have k4 := Tu.snd
  go_wp2_with fail
  have CT := Lib.hid (same_can Qp Qu)
  refine (CT.out).mono ?_
  clear CT k1 k2 k3 k4
  rintro e y23 ⟨rfl, bb⟩
  replace T1 := T1.below' bb
  replace T2 := T2.below' bb
  replace T3 := T3.below' bb
  replace Ts := Ts.below' bb
  replace Tp := Tp.below' bb
  replace Tu := Tu.below' bb
  replace Q1 := Q1.below bb
  replace Q2 := Q2.below bb
  replace Q3 := Q3.below bb
  replace Qs := Qs.below bb
  replace Qp := Qp.below bb
  replace Qu := Qu.below bb
  replace B := below_then B bb
  clear bb
  clear Tp Qp Tu Qu
  obtain ⟨vj, hvj⟩ : ∃ v, resV (zs * z) = v := ⟨_, rfl⟩
  obtain ⟨vk, hvk⟩ : ∃ v, resV (x * z) = v := ⟨_, rfl⟩
  obtain ⟨vl, hvl⟩ : ∃ v, resV (y * z) = v := ⟨_, rfl⟩
  have HVj := Lib.hid (And.intro hvj (hvj ▸ resV_two (zs * z)))
  have HVk := Lib.hid (And.intro hvk (hvk ▸ resV_two (x * z)))
  have HVl := Lib.hid (And.intro hvl (hvl ▸ resV_two (y * z)))
  clear hvj hvk hvl
  have k1 := Ts.fst
  have k2 := Ts.snd
  have k3 := T3.fst
  have k4 := T3.snd
  go_wp2_with fail
  have CT := Lib.hid ((mul_can Qs Q3).mono fun e w' h => Tells.letters h (HVj.out.1) (rfl))
  refine (CT.out).mono ?_
  clear CT k1 k2 k3 k4
  rintro e y24 ⟨r24, P24, m24, d24, rfl, Qj, b24⟩
  have bb := below_then b24 (below_al (Below.refl _ _) (.cells #[.bool r24, .slice P24 m24 d24] 24))
  replace T1 := T1.below' bb
  replace T2 := T2.below' bb
  replace T3 := T3.below' bb
  replace Ts := Ts.below' bb
  replace Q1 := Q1.below bb
  replace Q2 := Q2.below bb
  replace Q3 := Q3.below bb
  replace Qs := Qs.below bb
  replace Qj := Qj.below (below_al (Below.refl _ _) (.cells #[.bool r24, .slice P24 m24 d24] 24))
  have Tj := Two.made y24 24 (.bool r24) (.slice P24 m24 d24)
  replace B := below_then B bb
  clear bb b24
  have k1 := T1.fst
  have k2 := T1.snd
  have k3 := T3.fst
  have k4 := T3.snd
  go_wp2_with fail
  have CT := Lib.hid ((mul_can Q1 Q3).mono fun e w' h => Tells.letters h (HVk.out.1) (rfl))
  refine (CT.out).mono ?_
  clear CT k1 k2 k3 k4
  rintro e y25 ⟨r25, P25, m25, d25, rfl, Qk, b25⟩
  have bb := below_then b25 (below_al (Below.refl _ _) (.cells #[.bool r25, .slice P25 m25 d25] 24))
  replace T1 := T1.below' bb
  replace T2 := T2.below' bb
  replace T3 := T3.below' bb
  replace Ts := Ts.below' bb
  replace Tj := Tj.below' bb
  replace Q1 := Q1.below bb
  replace Q2 := Q2.below bb
  replace Q3 := Q3.below bb
  replace Qs := Qs.below bb
  replace Qj := Qj.below bb
  replace Qk := Qk.below (below_al (Below.refl _ _) (.cells #[.bool r25, .slice P25 m25 d25] 24))
  have Tk := Two.made y25 24 (.bool r25) (.slice P25 m25 d25)
  replace B := below_then B bb
  clear bb b25
  have k1 := T2.fst
  have k2 := T2.snd
  have k3 := T3.fst
  have k4 := T3.snd
  go_wp2_with fail
  have CT := Lib.hid ((mul_can Q2 Q3).mono fun e w' h => Tells.letters h (HVl.out.1) (rfl))
  refine (CT.out).mono ?_
  clear CT k1 k2 k3 k4
  rintro e y26 ⟨r26, P26, m26, d26, rfl, Ql, b26⟩
  have bb := below_then b26 (below_al (Below.refl _ _) (.cells #[.bool r26, .slice P26 m26 d26] 24))
  replace T1 := T1.below' bb
  replace T2 := T2.below' bb
  replace T3 := T3.below' bb
  replace Ts := Ts.below' bb
  replace Tj := Tj.below' bb
  replace Tk := Tk.below' bb
  replace Q1 := Q1.below bb
  replace Q2 := Q2.below bb
  replace Q3 := Q3.below bb
  replace Qs := Qs.below bb
  replace Qj := Qj.below bb
  replace Qk := Qk.below bb
  replace Ql := Ql.below (below_al (Below.refl _ _) (.cells #[.bool r26, .slice P26 m26 d26] 24))
  have Tl := Two.made y26 24 (.bool r26) (.slice P26 m26 d26)
  replace B := below_then B bb
  clear bb b26
  obtain ⟨hvj, rfl | rfl⟩ := HVj.out
  rotate_left
  · clear hvj HVj
    go_wp2_with fail
    refine ((AW _ B).out).mono ?_
    rintro e ye ⟨rfl, be⟩
    go_wp2
    go_ret
    exact ⟨rfl, be⟩
  have HGj := Lib.hid hvj
  clear hvj HVj
  obtain ⟨hvk, rfl | rfl⟩ := HVk.out
  rotate_left
  · clear hvk HVk
    go_wp2_with fail
    refine ((AW _ B).out).mono ?_
    rintro e ye ⟨rfl, be⟩
    go_wp2
    go_ret
    exact ⟨rfl, be⟩
  have HGk := Lib.hid hvk
  clear hvk HVk
  obtain ⟨hvl, rfl | rfl⟩ := HVl.out
  rotate_left
  · clear hvl HVl
    go_wp2_with fail
    refine ((AW _ B).out).mono ?_
    rintro e ye ⟨rfl, be⟩
    go_wp2
    go_ret
    exact ⟨rfl, be⟩
  have HGl := Lib.hid hvl
  clear hvl HVl
  have ej : resZ (zs * z) = zs * z := resZ_of0 HGj.out
  have ek : resZ (x * z) = x * z := resZ_of0 HGk.out
  have el : resZ (y * z) = y * z := resZ_of0 HGl.out
  have es : resZ (x * z) + resZ (y * z) = resZ (zs * z) := by rw [ej, ek, el, HZ2.out, Int.add_mul]
  have HY1 : Hid (resV (resZ (x * z) + resZ (y * z)) = 0) := Lib.hid (by rw [es]; exact resV_of (Can.fits Qj))
  have HY2 : Hid (resZ (resZ (x * z) + resZ (y * z)) = resZ (zs * z)) := Lib.hid (by rw [es]; exact resZ_yes (Can.fits Qj))
  clear ej ek el es
  have k1 := Tk.fst
  have k2 := Tk.snd
  have k3 := Tl.fst
  have k4 := Tl.snd
  go_wp2_with fail
  have CT := Lib.hid ((add_can Qk Ql).mono fun e w' h => Tells.letters h (HY1.out) (HY2.out))
  refine (CT.out).mono ?_
  clear CT k1 k2 k3 k4
  rintro e y27 ⟨r27, P27, m27, d27, rfl, Qv, b27⟩
  have bb := below_then b27 (below_al (Below.refl _ _) (.cells #[.bool r27, .slice P27 m27 d27] 24))
  replace T1 := T1.below' bb
  replace T2 := T2.below' bb
  replace T3 := T3.below' bb
  replace Ts := Ts.below' bb
  replace Tj := Tj.below' bb
  replace Tk := Tk.below' bb
  replace Tl := Tl.below' bb
  replace Q1 := Q1.below bb
  replace Q2 := Q2.below bb
  replace Q3 := Q3.below bb
  replace Qs := Qs.below bb
  replace Qj := Qj.below bb
  replace Qk := Qk.below bb
  replace Ql := Ql.below bb
  replace Qv := Qv.below (below_al (Below.refl _ _) (.cells #[.bool r27, .slice P27 m27 d27] 24))
  have Tv := Two.made y27 24 (.bool r27) (.slice P27 m27 d27)
  replace B := below_then B bb
  clear bb b27
  have k1 := Tv.fst
  have k2 := Tv.snd
  have k3 := Tj.fst
  have k4 := Tj.snd
  go_wp2_with fail
  have CT := Lib.hid (same_can Qv Qj)
  refine (CT.out).mono ?_
  clear CT k1 k2 k3 k4
  rintro e y28 ⟨rfl, bb⟩
  replace T1 := T1.below' bb
  replace T2 := T2.below' bb
  replace T3 := T3.below' bb
  replace Ts := Ts.below' bb
  replace Tj := Tj.below' bb
  replace Tk := Tk.below' bb
  replace Tl := Tl.below' bb
  replace Tv := Tv.below' bb
  replace Q1 := Q1.below bb
  replace Q2 := Q2.below bb
  replace Q3 := Q3.below bb
  replace Qs := Qs.below bb
  replace Qj := Qj.below bb
  replace Qk := Qk.below bb
  replace Ql := Ql.below bb
  replace Qv := Qv.below bb
  replace B := below_then B bb
  clear bb
  go_wp2_with fail
  refine ((AW _ B).out).mono ?_
  rintro e ye ⟨rfl, be⟩
  go_wp2
  go_ret
  exact ⟨rfl, be⟩
set_option maxHeartbeats 3200000 in
set_option maxRecDepth 100000 in
theorem long_1 (na nb nc : Bool) (A1 A2 A3 : Option Addr) (n1 c1 n2 c2 n3 c3 : Nat) (w : World) (ht : Tab w) (l1 : 60 < n1) :
    Calls Tryd.prog 11 #[.agg #[.bool na, .slice A1 n1 c1], .agg #[.bool nb, .slice A2 n2 c2], .agg #[.bool nc, .slice A3 n3 c3]] w fun e w' => e = .returned (.bool true) ∧ Below w.heap.size w w' := by
  obtain ⟨W, hW⟩ : ∃ W, W = ((w.alloc (.cells #[.bool na, .slice A1 n1 c1] 24)).alloc (.cells #[.bool nb, .slice A2 n2 c2] 24)).alloc (.cells #[.bool nc, .slice A3 n3 c3] 24) := ⟨_, rfl⟩
  obtain ⟨t1, t2, t3, hbW, hWs⟩ := boxes3 w _ _ _ _ _ _ W hW
  have htW := ht.below hbW
  have k1 := t1.fst
  have k2 := t1.snd
  have L1 := fun W => Lib.hid (long_yes na A1 n1 c1 l1 W)
  have AW : ∀ V, Below W.heap.size W V → Hid (Calls Tryd.prog 18 #[] V fun e w' => e = .returned (.bool true) ∧ Below W.heap.size W w') :=
    fun V hb => Lib.hid ((awake_any V (htW.below hb)).mono fun e w' ⟨he, hw⟩ => ⟨he, below_then hb hw⟩)
  have K2 : ∀ V, Below W.heap.size W V → Hid (V.cell? ⟨w.heap.size + 1, 0, none⟩ = some (.bool nb) ∧ V.cell? ⟨w.heap.size + 1, 1, none⟩ = some (.slice A2 n2 c2)) := fun V hb => Lib.hid ⟨(t2.below' hb).fst, (t2.below' hb).snd⟩
  have K3 : ∀ V, Below W.heap.size W V → Hid (V.cell? ⟨w.heap.size + 2, 0, none⟩ = some (.bool nc) ∧ V.cell? ⟨w.heap.size + 2, 1, none⟩ = some (.slice A3 n3 c3)) := fun V hb => Lib.hid ⟨(t3.below' hb).fst, (t3.below' hb).snd⟩
  have B0 : Below W.heap.size W W := Below.refl _ _
  go_enter Tryd.func11, Tryd.ntmps11
  go_wp2_with fail
  rw [← hW]
  have HW := Lib.hid hW
  clear hW hWs t1 t2 t3
  refine ((L1 _).out).mono ?_
  rintro e v1 ⟨rfl, b1⟩
  have B1 := below_then B0 b1
  go_wp2_with fail
  refine ((AW _ B1).out).mono ?_
  rintro e y8 ⟨rfl, bb8⟩
  go_wp2
  go_ret
  exact ⟨rfl, below_then hbW bb8⟩
set_option maxHeartbeats 3200000 in
set_option maxRecDepth 100000 in
theorem long_2 (na nb nc : Bool) (A1 A2 A3 : Option Addr) (n1 c1 n2 c2 n3 c3 : Nat) (w : World) (ht : Tab w) (l1 : n1 ≤ 60) (l2 : 60 < n2) :
    Calls Tryd.prog 11 #[.agg #[.bool na, .slice A1 n1 c1], .agg #[.bool nb, .slice A2 n2 c2], .agg #[.bool nc, .slice A3 n3 c3]] w fun e w' => e = .returned (.bool true) ∧ Below w.heap.size w w' := by
  obtain ⟨W, hW⟩ : ∃ W, W = ((w.alloc (.cells #[.bool na, .slice A1 n1 c1] 24)).alloc (.cells #[.bool nb, .slice A2 n2 c2] 24)).alloc (.cells #[.bool nc, .slice A3 n3 c3] 24) := ⟨_, rfl⟩
  obtain ⟨t1, t2, t3, hbW, hWs⟩ := boxes3 w _ _ _ _ _ _ W hW
  have htW := ht.below hbW
  have k1 := t1.fst
  have k2 := t1.snd
  have L1 := fun W => Lib.hid (long_no na A1 n1 c1 l1 W)
  have L2 := fun W => Lib.hid (long_yes nb A2 n2 c2 l2 W)
  have AW : ∀ V, Below W.heap.size W V → Hid (Calls Tryd.prog 18 #[] V fun e w' => e = .returned (.bool true) ∧ Below W.heap.size W w') :=
    fun V hb => Lib.hid ((awake_any V (htW.below hb)).mono fun e w' ⟨he, hw⟩ => ⟨he, below_then hb hw⟩)
  have K2 : ∀ V, Below W.heap.size W V → Hid (V.cell? ⟨w.heap.size + 1, 0, none⟩ = some (.bool nb) ∧ V.cell? ⟨w.heap.size + 1, 1, none⟩ = some (.slice A2 n2 c2)) := fun V hb => Lib.hid ⟨(t2.below' hb).fst, (t2.below' hb).snd⟩
  have K3 : ∀ V, Below W.heap.size W V → Hid (V.cell? ⟨w.heap.size + 2, 0, none⟩ = some (.bool nc) ∧ V.cell? ⟨w.heap.size + 2, 1, none⟩ = some (.slice A3 n3 c3)) := fun V hb => Lib.hid ⟨(t3.below' hb).fst, (t3.below' hb).snd⟩
  have B0 : Below W.heap.size W W := Below.refl _ _
  go_enter Tryd.func11, Tryd.ntmps11
  go_wp2_with fail
  rw [← hW]
  have HW := Lib.hid hW
  clear hW hWs t1 t2 t3
  refine ((L1 _).out).mono ?_
  rintro e v1 ⟨rfl, b1⟩
  have B1 := below_then B0 b1
  have ⟨p2, p3⟩ := (K2 _ B1).out
  go_wp2_with fail
  refine ((L2 _).out).mono ?_
  rintro e v2 ⟨rfl, b2⟩
  have B2 := below_then B1 b2
  go_wp2_with fail
  refine ((AW _ B2).out).mono ?_
  rintro e y8 ⟨rfl, bb8⟩
  go_wp2
  go_ret
  exact ⟨rfl, below_then hbW bb8⟩
set_option maxHeartbeats 3200000 in
set_option maxRecDepth 100000 in
theorem long_3 (na nb nc : Bool) (A1 A2 A3 : Option Addr) (n1 c1 n2 c2 n3 c3 : Nat) (w : World) (ht : Tab w) (l1 : n1 ≤ 60) (l2 : n2 ≤ 60) (l3 : 60 < n3) :
    Calls Tryd.prog 11 #[.agg #[.bool na, .slice A1 n1 c1], .agg #[.bool nb, .slice A2 n2 c2], .agg #[.bool nc, .slice A3 n3 c3]] w fun e w' => e = .returned (.bool true) ∧ Below w.heap.size w w' := by
  obtain ⟨W, hW⟩ : ∃ W, W = ((w.alloc (.cells #[.bool na, .slice A1 n1 c1] 24)).alloc (.cells #[.bool nb, .slice A2 n2 c2] 24)).alloc (.cells #[.bool nc, .slice A3 n3 c3] 24) := ⟨_, rfl⟩
  obtain ⟨t1, t2, t3, hbW, hWs⟩ := boxes3 w _ _ _ _ _ _ W hW
  have htW := ht.below hbW
  have k1 := t1.fst
  have k2 := t1.snd
  have L1 := fun W => Lib.hid (long_no na A1 n1 c1 l1 W)
  have L2 := fun W => Lib.hid (long_no nb A2 n2 c2 l2 W)
  have L3 := fun W => Lib.hid (long_yes nc A3 n3 c3 l3 W)
  have AW : ∀ V, Below W.heap.size W V → Hid (Calls Tryd.prog 18 #[] V fun e w' => e = .returned (.bool true) ∧ Below W.heap.size W w') :=
    fun V hb => Lib.hid ((awake_any V (htW.below hb)).mono fun e w' ⟨he, hw⟩ => ⟨he, below_then hb hw⟩)
  have K2 : ∀ V, Below W.heap.size W V → Hid (V.cell? ⟨w.heap.size + 1, 0, none⟩ = some (.bool nb) ∧ V.cell? ⟨w.heap.size + 1, 1, none⟩ = some (.slice A2 n2 c2)) := fun V hb => Lib.hid ⟨(t2.below' hb).fst, (t2.below' hb).snd⟩
  have K3 : ∀ V, Below W.heap.size W V → Hid (V.cell? ⟨w.heap.size + 2, 0, none⟩ = some (.bool nc) ∧ V.cell? ⟨w.heap.size + 2, 1, none⟩ = some (.slice A3 n3 c3)) := fun V hb => Lib.hid ⟨(t3.below' hb).fst, (t3.below' hb).snd⟩
  have B0 : Below W.heap.size W W := Below.refl _ _
  go_enter Tryd.func11, Tryd.ntmps11
  go_wp2_with fail
  rw [← hW]
  have HW := Lib.hid hW
  clear hW hWs t1 t2 t3
  refine ((L1 _).out).mono ?_
  rintro e v1 ⟨rfl, b1⟩
  have B1 := below_then B0 b1
  have ⟨p2, p3⟩ := (K2 _ B1).out
  go_wp2_with fail
  refine ((L2 _).out).mono ?_
  rintro e v2 ⟨rfl, b2⟩
  have B2 := below_then B1 b2
  have ⟨p4, p5⟩ := (K3 _ B2).out
  go_wp2_with fail
  refine ((L3 _).out).mono ?_
  rintro e v3 ⟨rfl, b3⟩
  have B3 := below_then B2 b3
  go_wp2_with fail
  refine ((AW _ B3).out).mono ?_
  rintro e y8 ⟨rfl, bb8⟩
  go_wp2
  go_ret
  exact ⟨rfl, below_then hbW bb8⟩
theorem walk (na nb nc : Bool) (A1 A2 A3 : Option Addr) (n1 c1 n2 c2 n3 c3 : Nat) (sa sb sc : Int) (w : World) (ht : Tab w) (h1 : NumAt w na A1 n1 c1 sa) (h2 : NumAt w nb A2 n2 c2 sb) (h3 : NumAt w nc A3 n3 c3 sc) :
    Calls Tryd.prog 11 #[.agg #[.bool na, .slice A1 n1 c1], .agg #[.bool nb, .slice A2 n2 c2], .agg #[.bool nc, .slice A3 n3 c3]] w fun e w' => e = .returned (.bool true) ∧ Below w.heap.size w w' := by
  by_cases l1 : n1 ≤ 60
  · by_cases l2 : n2 ≤ 60
    · by_cases l3 : n3 ≤ 60
      · exact main na nb nc A1 A2 A3 n1 c1 n2 c2 n3 c3 sa sb sc w ht h1 h2 h3 l1 l2 l3
      · exact long_3 na nb nc A1 A2 A3 n1 c1 n2 c2 n3 c3 w ht l1 l2 (by omega)
    · exact long_2 na nb nc A1 A2 A3 n1 c1 n2 c2 n3 c3 w ht l1 (by omega)
  · exact long_1 na nb nc A1 A2 A3 n1 c1 n2 c2 n3 c3 w ht (by omega)
/-! The row's step. -/
set_option maxRecDepth 100000 in
theorem contract (H : Type) (enc : TypeId × Value → H) (W : World) (base : Nat) (args : Array Value) (ds gs : List (DataW H)) (before : List MemPlace)
    (hval : ∀ (j : Nat) t v, Tryd.f11.params[j]? = some t → args[j]? = some v → Value.okWide Tryd.prog W .any base t v)
    (hW : DataW.Whole enc Tryd.prog Tryd.f11.params.toList Rows.numRingSpec.vars false W args.toList ds gs before) (hL : laidMetH Tryd.prog Rows.numRingRow.laid W) :
    Calls Tryd.prog 11 args W fun e W' => ∃ v, e = .returned v ∧ Rows.numRingSpec.post enc Tryd.prog Tryd.f11 false true false false W args v W' := by
  have hW' := hW
  obtain ⟨p, q, hA0, hV, rfl, hfz, hnd⟩ := hW
  have hA : DataW.TrodAll enc Tryd.prog W 0 (fun _ => true) true Tryd.f11.params.toList args.toList ds p := hA0
  obtain ⟨rfl, rfl⟩ := trodVars_none hV
  simp only [List.append_nil] at hW'
  have hlt : ∀ x ∈ p, x.block < W.heap.size := fun x hx => by simpa using hW'.lt x hx
  have hAk := hA
  rw [Tryd.params11] at hA hval
  obtain ⟨v0, vs0, d0, ds0, p0, q0, hargs, rfl, rfl, h0, r0⟩ := trodAll_cons hA
  obtain ⟨v1, vs1, d1, ds1, p1, q1, rfl, rfl, rfl, h1, r1⟩ := trodAll_cons r0
  obtain ⟨v2, vs2, d2, ds2, p2, q2, rfl, rfl, rfl, h2, r2⟩ := trodAll_cons r1
  obtain ⟨rfl, rfl, rfl⟩ := trodAll_nil r2
  obtain rfl : args = #[v0, v1, v2] := by cases args; simp_all
  obtain ⟨g0, A0, n0, c0, N0, rfl, m0⟩ := open_num (hval 0 24 v0 rfl rfl) h0
  obtain ⟨g1, A1, n1, c1, N1, rfl, m1⟩ := open_num (hval 1 24 v1 rfl rfl) h1
  obtain ⟨g2, A2, n2, c2, N2, rfl, m2⟩ := open_num (hval 2 24 v2 rfl rfl) h2
  refine (walk g0 g1 g2 A0 A1 A2 n0 c0 n1 c1 n2 c2 _ _ _ W (tab_of hL) ⟨N0, m0, rfl⟩ ⟨N1, m1, rfl⟩ ⟨N2, m2, rfl⟩).mono fun e W' ⟨he, hg⟩ => ?_
  subst he
  exact ⟨_, rfl, _, _, _, [], _, [], hW', (trodAll_cons_mk (shut_bool Tryd.underlying4 _) trodAll_mk0), below_all hg (by kernel_rfl) hAk hlt, rfl, hg.frame _, fun h => by cases h⟩
theorem laid_met (os : Os) : laidMet Tryd.prog Rows.numRingRow.laid ((laidWorld os).forCall (fun _ _ => 0) ⟨#[], #[.agg #[.bool false, .slice none 0 0], .agg #[.bool false, .slice none 0 0], .agg #[.bool false, .slice none 0 0]], []⟩).memory :=
  laidMet_laidAll _ (by kernel_rfl) (by kernel_rfl)
theorem reads (os : Os) {H : Type} (enc : TypeId × Value → H) : ∃ places, DataW.whole enc Tryd.prog ((laidWorld os).forCall (fun _ _ => 0) ⟨#[], #[.agg #[.bool false, .slice none 0 0], .agg #[.bool false, .slice none 0 0], .agg #[.bool false, .slice none 0 0]], []⟩).memory Tryd.f11.params.toList Rows.numRingSpec.vars false (#[(Value.agg #[.bool false, .slice none 0 0]), (Value.agg #[.bool false, .slice none 0 0]), (Value.agg #[.bool false, .slice none 0 0])] : Array Value).toList 8 = some ([.agg [.lit (.bool false), .nil], .agg [.lit (.bool false), .nil], .agg [.lit (.bool false), .nil]], [], places) :=
  ⟨[], by kernel_rfl⟩
set_option maxRecDepth 100000 in
theorem lifted (os : Os) (started : os.Started) (H : Type) (enc : TypeId × Value → H) (F : Stop.Interp) :
    ReturnsInHanded {} Tryd.checked os 11 .any ((OpenSpec.ofChange Rows.numRingSpec).preRow enc Tryd.prog Tryd.f11 Rows.numRingRow.domain false Rows.numRingRow.laid) (((OpenSpec.ofChange Rows.numRingSpec).at F).post enc Tryd.prog Tryd.f11 false true false false) := by
  obtain ⟨places, hx⟩ := reads os enc
  refine returnsInHanded_of_row (C := Tryd.checked) (s := OpenSpec.ofChange Rows.numRingSpec) own started (by kernel_rfl) Tryd.func11
    (witness_row_at (enc := enc) (C := Tryd.checked) false (laidWorld os) #[.agg #[.bool false, .slice none 0 0], .agg #[.bool false, .slice none 0 0], .agg #[.bool false, .slice none 0 0]] (laidWorld_os os) (by kernel_rfl) (by kernel_rfl) (by kernel_rfl)
      (OpenSpec.preRow_of_cond 8 hx (by kernel_rfl) (fun k hk => by cases hk) (by kernel_rfl) (laid_met os))) ?_
  intro W base args ds gs before hval hW _ _ _ hL _ _
  exact contract H enc W base args ds gs before hval hW hL
theorem said : Rows.NumRingSaid :=
  OpenClaim.holds_of_cond 11 Tryd.f11 rfl rfl rfl rfl rfl rfl rfl ⟨rfl, rfl, rfl, rfl, rfl⟩ rfl rfl rfl rfl rfl (by kernel_rfl) Tryd.func11 (by kernel_rfl)
    (of_decide_eq_true (by kernel_rfl)) (by unfold Func.isWrapper; first | (rw [if_pos (by decide +kernel)]; kernel_rfl) | (rw [if_neg (by decide +kernel)]; exact ⟨rfl, rfl⟩))
    (fun os started H enc _ F => by rw [OpenClaim.pre_eq_preRow]; exact lifted os started H enc F)
theorem plain (f : FuncId) (fn : Func) (hf : Tryd.pinned.checked.prog.funcNamed "moraine/morainelaw02.NumRing" = some f) (hfn : Tryd.pinned.checked.prog.funcs[f]? = some fn) :
    false = Tryd.pinned.checked.prog.looks [] ∧ ∀ (j : Nat) t, fn.params[j]? = some t → Tryd.pinned.checked.prog.wantsStandIn t = false := by
  obtain rfl : f = 11 := Option.some.inj ((show Tryd.prog.funcNamed "moraine/morainelaw02.NumRing" = some 11 by kernel_rfl).symm.trans hf) |>.symm
  obtain rfl : fn = Tryd.f11 := (Option.some.inj (Tryd.func11.symm.trans hfn)).symm
  refine ⟨by kernel_rfl, fun j t ht => ?_⟩
  rw [Tryd.params11] at ht
  have hm := Array.mem_of_getElem? ht
  have hall : (#[24, 24, 24] : Array TypeId).toList.all (fun t => !Tryd.prog.wantsStandIn t) = true := by kernel_rfl
  have := List.all_eq_true.1 hall t (by simpa using hm)
  exact (show Tryd.prog.wantsStandIn t = false by simpa using this)
/-- THE STATEMENT -/
theorem card : Rows.NumRingCardSaid :=
  Claim7.holds_tied_plain_at .later [] _ _ _ _ said (fun _ h => by cases h) (by kernel_rfl) (fun _ h => by cases h) Go.Proofs.YtocoflojlliapaaDoor.numRing_row_tie rfl ⟨rfl, rfl⟩ (by kernel_rfl) rfl plain (by kernel_rfl)
#print axioms card
end Go.Proofs.YtocoflojlliapaaDoor.numRing
