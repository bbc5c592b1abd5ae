/- NumDivision: the walk, by the signs of what is left. -/
import Derived.Test.YtocoflojlliapaaDoorZ1
set_option linter.unusedVariables false
set_option linter.unusedSimpArgs false
namespace Go.Proofs.YtocoflojlliapaaDoor.numDivision
open Go.ChangeShapes Go.WideShapes Go.ChangeAt Go.RowKit Go.Proofs.YtocoflojlliapaaDoor
set_option maxHeartbeats 12800000 in
set_option maxRecDepth 100000 in
theorem main_no (r1 r2 : Bool) (A1 A2 : Option Addr) (n1 c1 n2 c2 : Nat) (sa sb : Int) (w : World) (ht : Tab w) (h1 : NumAt w r1 A1 n1 c1 sa) (h2 : NumAt w r2 A2 n2 c2 sb) (l1 : n1 ≤ 60) (l2 : n2 ≤ 60) (hy : sb ≠ 0) (hU : Hid (cmpI (Int.tmod sa sb) 0 = (-1) ∧ cmpI sa 0 = (-1))) (hT : Hid (cmpI (Int.fmod sa sb) 0 = 0)) (HVA : Hid (resV sa = 0)) (HVB : Hid (resV sb = 0)) :
    Calls Tryd.prog 12 #[.agg #[.bool r1, .slice A1 n1 c1], .agg #[.bool r2, .slice A2 n2 c2]] w fun e w' => e = .returned (.bool true) ∧ Below w.heap.size w w' := by
  obtain ⟨W, hW⟩ : ∃ W, W = (w.alloc (.cells #[.bool r1, .slice A1 n1 c1] 24)).alloc (.cells #[.bool r2, .slice A2 n2 c2] 24) := ⟨_, rfl⟩
  obtain ⟨t1, t2, hbW, hWs⟩ := boxes24 w _ _ _ _ W hW
  have LA := fun W => Lib.hid (long_no r1 A1 n1 c1 l1 W)
  have LB := fun W => Lib.hid (long_no r2 A2 n2 c2 l2 W)
  have F1 : ∀ V, Agr2 w.heap.size w V → Hid (Firm2 (fun V => NumAt V r1 A1 n1 c1 sa) w.heap.size V) := fun V h => Lib.hid ((firm_old2 h1).step h)
  have F2 : ∀ V, Agr2 w.heap.size w V → Hid (Firm2 (fun V => NumAt V r2 A2 n2 c2 sb) w.heap.size V) := fun V h => Lib.hid ((firm_old2 h2).step h)
  have AW : ∀ V, Below w.heap.size w V → Hid (Calls Tryd.prog 18 #[] V fun e w' => e = .returned (.bool true) ∧ Below w.heap.size w w') :=
    fun V hb => Lib.hid ((awake_any V (ht.below hb)).mono fun e w' ⟨he, hw⟩ => ⟨he, below_then hb hw⟩)
  have k1 := t1.fst
  have k2 := t1.snd
  clear h1 h2 ht
  go_enter Tryd.func12, Tryd.ntmps12
  go_wp2_with fail
  rw [← hW]
  have HW := Lib.hid hW
  have HWS := Lib.hid hWs
  clear hW hWs
  refine ((LA _).out).mono ?_
  rintro e v1 ⟨rfl, b1⟩
  replace t1 := t1.below' b1
  replace t2 := t2.below' b1
  clear k1 k2
  have k1 := t2.fst
  have k2 := t2.snd
  go_wp2_with fail
  refine ((LB _).out).mono ?_
  rintro e v2 ⟨rfl, b2⟩
  replace t1 := t1.below' b2
  replace t2 := t2.below' b2
  have B3 : Below w.heap.size w v2 := below_then (below_then hbW b1) b2
  have S3 : w.heap.size + 2 ≤ v2.heap.size := by have := HWS.out; have := b1.size; have := b2.size; omega
  clear k1 k2 b1 b2 hbW LA LB
  have k1 := t1.fst
  have k2 := t1.snd
  go_wp2_with fail
  have NT := Lib.hid (norm_tells (g := w.heap.size) (F1 _ (Agr2.of_below B3)).out.out (by omega) S3 0 HVA.out)
  refine (NT.out).mono ?_
  clear NT
  rintro e y1 ⟨R1, P1, m1, d1, rfl, G1, b1⟩
  replace t1 := t1.below' b1
  replace t2 := t2.below' b1
  clear k1 k2
  have f1 := t1.free 0
  have f2 := t1.free 1
  have f3 := t1.fst
  have f4 := t1.snd
  have AG := Agr2.set2 (g := w.heap.size) (b := w.heap.size) y1 (.bool R1) (.slice P1 m1 d1) (by omega) (by omega)
  have BX1 : Below w.heap.size w ((y1.setCell ⟨w.heap.size, 0, none⟩ (.bool R1)).setCell ⟨w.heap.size, 1, none⟩ (.slice P1 m1 d1)) := below_two (below_then B3 b1) (by omega)
  have SX1 : w.heap.size + 2 ≤ ((y1.setCell ⟨w.heap.size, 0, none⟩ (.bool R1)).setCell ⟨w.heap.size, 1, none⟩ (.slice P1 m1 d1)).heap.size := by have := b1.size; simp; omega
  replace G1 := G1.step AG
  have u1 : Two ((y1.setCell ⟨w.heap.size, 0, none⟩ (.bool R1)).setCell ⟨w.heap.size, 1, none⟩ (.slice P1 m1 d1)) (w.heap.size) 24 (.bool R1) (.slice P1 m1 d1) := t1.set2
  have u2 := Two.far2 (b := w.heap.size) (u' := .bool R1) (v' := .slice P1 m1 d1) t2 (by omega)
  have k1 := u2.fst
  have k2 := u2.snd
  go_wp2_with fail
  obtain ⟨X1, hX⟩ : ∃ X, X = ((y1.setCell ⟨w.heap.size, 0, none⟩ (.bool R1)).setCell ⟨w.heap.size, 1, none⟩ (.slice P1 m1 d1)) := ⟨_, rfl⟩
  rw [← hX]
  rw [← hX] at AG BX1 SX1 u1 u2 k1 k2 G1
  clear hX t1 t2 AG f1 f2 f3 f4 b1 B3 S3
  have t1 := u1
  have t2 := u2
  clear u1 u2
  have NT := Lib.hid (norm_tells (g := w.heap.size) (F2 _ (Agr2.of_below BX1)).out.out (by omega) SX1 0 HVB.out)
  refine (NT.out).mono ?_
  clear NT
  rintro e y2 ⟨R2, P2, m2, d2, rfl, G2, b2⟩
  replace t1 := t1.below' b2
  replace t2 := t2.below' b2
  replace G1 := G1.step (Agr2.of_below b2)
  clear k1 k2
  have f1 := t2.free 0
  have f2 := t2.free 1
  have f3 := t2.fst
  have f4 := t2.snd
  have AG := Agr2.set2 (g := w.heap.size) (b := w.heap.size + 1) y2 (.bool R2) (.slice P2 m2 d2) (by omega) (by omega)
  have BX2 : Below w.heap.size w ((y2.setCell ⟨w.heap.size + 1, 0, none⟩ (.bool R2)).setCell ⟨w.heap.size + 1, 1, none⟩ (.slice P2 m2 d2)) := below_two (below_then BX1 b2) (by omega)
  have SX2 : w.heap.size + 2 ≤ ((y2.setCell ⟨w.heap.size + 1, 0, none⟩ (.bool R2)).setCell ⟨w.heap.size + 1, 1, none⟩ (.slice P2 m2 d2)).heap.size := by have := b2.size; simp; omega
  replace G1 := G1.step AG
  replace G2 := G2.step AG
  have u1 := Two.far2 (b := w.heap.size + 1) (u' := .bool R2) (v' := .slice P2 m2 d2) t1 (by omega)
  have u2 : Two ((y2.setCell ⟨w.heap.size + 1, 0, none⟩ (.bool R2)).setCell ⟨w.heap.size + 1, 1, none⟩ (.slice P2 m2 d2)) (w.heap.size + 1) 24 (.bool R2) (.slice P2 m2 d2) := t2.set2
  obtain ⟨X, hX⟩ : ∃ X, X = ((y2.setCell ⟨w.heap.size + 1, 0, none⟩ (.bool R2)).setCell ⟨w.heap.size + 1, 1, none⟩ (.slice P2 m2 d2)) := ⟨_, rfl⟩
  have Q1 := hX ▸ G1.out
  have Q2 := hX ▸ G2.out
  have T1 := hX ▸ u1
  have T2 := hX ▸ u2
  have B := hX ▸ BX2
  have K1 := Lib.hid u1
  have K2 := Lib.hid u2
  have HX := Lib.hid hX
  clear hX G1 G2 AG b2 BX1 SX1 SX2 t1 t2 BX2 F1 F2
  clear u1 u2
  rw [resZ_of0 HVA.out] at Q1
  rw [resZ_of0 HVB.out] at Q2
  have lx : m1 ≤ 48 := Q1.le
  have ly : m2 ≤ 48 := Q2.le
  replace Q1 := Q1.at
  replace Q2 := Q2.at
  have HY := Lib.hid hy
  have dx : Hid (dl sa.natAbs ≤ 48) := Lib.hid (by have := NumAt.dl Q1; omega)
  have dy : Hid (dl sb.natAbs ≤ 48) := Lib.hid (by have := NumAt.dl Q2; omega)
  obtain ⟨q, hq⟩ : ∃ q, Int.tdiv sa sb = q := ⟨_, rfl⟩
  obtain ⟨ri, hr⟩ : ∃ ri, Int.tmod sa sb = ri := ⟨_, rfl⟩
  obtain ⟨s, hs⟩ : ∃ s, Int.fmod sa sb = s := ⟨_, rfl⟩
  obtain ⟨g, hg⟩ : ∃ g, cmpI sb 0 = g := ⟨_, rfl⟩
  obtain ⟨h, hh⟩ : ∃ h, cmpI sa 0 = h := ⟨_, rfl⟩
  obtain ⟨u, hu⟩ : ∃ u, cmpI ri 0 = u := ⟨_, rfl⟩
  obtain ⟨t, ht⟩ : ∃ t, cmpI s 0 = t := ⟨_, rfl⟩
  have hg0 : (g == 0) = false := by rw [← hg]; exact sgn_nz hy
  have DQ : Hid (dl q.natAbs ≤ 48) := Lib.hid (by rw [← hq]; exact div_fits dx.out)
  have LR : Hid (ri.natAbs < sb.natAbs) := Lib.hid (by rw [← hr]; exact tmod_less hy)
  have LS : Hid (s.natAbs < sb.natAbs) := Lib.hid (by rw [← hs]; exact fmod_less hy)
  have DR : Hid (dl ri.natAbs ≤ 48) := Lib.hid (Nat.le_trans (dl_mono (Nat.le_of_lt LR.out)) dy.out)
  have DS : Hid (dl s.natAbs ≤ 48) := Lib.hid (Nat.le_trans (dl_mono (Nat.le_of_lt LS.out)) dy.out)
  have EQ : Hid (q * sb + ri = sa) := Lib.hid (by have := Int.mul_tdiv_add_tmod sa sb; rw [hq, hr] at this; rw [Int.mul_comm]; exact this)
  have DP : Hid (dl (q * sb).natAbs ≤ 48) := Lib.hid (by
    refine Nat.le_trans (dl_mono ?_) dx.out
    rw [Int.natAbs_mul, ← hq, Int.natAbs_tdiv]
    exact Nat.div_mul_le_self _ _)
  have CD : Hid (s - ri = 0 ∨ s - ri = sb) := Lib.hid (by rw [← hs, ← hr]; exact fmod_tmod hy)
  obtain rfl : u = (-1) := by rw [← hu, ← hr]; exact hU.out.1
  obtain rfl : h = (-1) := by rw [← hh]; exact hU.out.2
  obtain rfl : t = 0 := by rw [← ht, ← hs]; exact hT.out
  have HQ := Lib.hid hq
  have HR := Lib.hid hr
  have HS := Lib.hid hs
  have HG := Lib.hid hg
  have HH := Lib.hid hh
  have HU := Lib.hid hu
  have HT := Lib.hid ht
  clear hq hr hs hg hh hu ht hy
  have DD : Hid (dl (s - ri).natAbs ≤ 48) := Lib.hid (by
    rcases CD.out with e | e
    · rw [e]; decide
    · rw [e]; exact dy.out)
  have SY : ∀ V, NumAt V R2 P2 m2 d2 sb → Hid (Calls Tryd.prog 27 #[.agg #[.bool R2, .slice P2 m2 d2]] V fun e w' => e = .returned (.int .i64 g) ∧ Below V.heap.size V w') := fun V k => Lib.hid ((sign_at V k (by omega)).mono fun e w' ⟨he, hb⟩ => ⟨by rw [he, HG.out], hb⟩)
  have QUO : ∀ V, NumAt V R1 P1 m1 d1 sa → NumAt V R2 P2 m2 d2 sb → Hid (Calls Tryd.prog 40 #[.agg #[.bool R1, .slice P1 m1 d1], .agg #[.bool R2, .slice P2 m2 d2]] V fun e w' => ∃ rr AA mm cc, e = .returned (.tuple #[.agg #[.bool rr, .slice AA mm cc], .int .i64 0]) ∧ NumAt w' rr AA mm cc q ∧ mm ≤ 48 ∧ Below V.heap.size V w') := fun V k k2 => Lib.hid ((quo_at V k k2 (by omega) (by omega) HY.out).mono fun e w' hq => (HQ.out ▸ hq).yes DQ.out)
  have REM : ∀ V, NumAt V R1 P1 m1 d1 sa → NumAt V R2 P2 m2 d2 sb → Hid (Calls Tryd.prog 41 #[.agg #[.bool R1, .slice P1 m1 d1], .agg #[.bool R2, .slice P2 m2 d2]] V fun e w' => ∃ rr AA mm cc, e = .returned (.tuple #[.agg #[.bool rr, .slice AA mm cc], .int .i64 0]) ∧ NumAt w' rr AA mm cc ri ∧ mm ≤ 48 ∧ Below V.heap.size V w') := fun V k k2 => Lib.hid ((rem_at V k k2 (by omega) (by omega) HY.out).mono fun e w' hq => (HR.out ▸ hq).yes DR.out)
  have MOD : ∀ V, NumAt V R1 P1 m1 d1 sa → NumAt V R2 P2 m2 d2 sb → Hid (Calls Tryd.prog 42 #[.agg #[.bool R1, .slice P1 m1 d1], .agg #[.bool R2, .slice P2 m2 d2]] V fun e w' => ∃ rr AA mm cc, e = .returned (.tuple #[.agg #[.bool rr, .slice AA mm cc], .int .i64 0]) ∧ NumAt w' rr AA mm cc s ∧ mm ≤ 48 ∧ Below V.heap.size V w') := fun V k k2 => Lib.hid ((mod_at V k k2 (by omega) (by omega) HY.out).mono fun e w' hq => (HS.out ▸ hq).yes DS.out)
  have MUL : ∀ V rq Aq mq cq, NumAt V rq Aq mq cq q → mq ≤ 48 → NumAt V R2 P2 m2 d2 sb → Hid (Calls Tryd.prog 38 #[.agg #[.bool rq, .slice Aq mq cq], .agg #[.bool R2, .slice P2 m2 d2]] V fun e w' => ∃ rr AA mm cc, e = .returned (.tuple #[.agg #[.bool rr, .slice AA mm cc], .int .i64 0]) ∧ NumAt w' rr AA mm cc (q * sb) ∧ mm ≤ 48 ∧ Below V.heap.size V w') := fun V rq Aq mq cq k hm k2 => Lib.hid ((mul_at V k k2 (by omega) (by omega)).mono fun e w' hq => hq.yes DP.out)
  have ADD : ∀ V rp Ap mp cp rr Ar mr cr, NumAt V rp Ap mp cp (q * sb) → mp ≤ 48 → NumAt V rr Ar mr cr ri → mr ≤ 48 → Hid (Calls Tryd.prog 35 #[.agg #[.bool rp, .slice Ap mp cp], .agg #[.bool rr, .slice Ar mr cr]] V fun e w' => ∃ rr AA mm cc, e = .returned (.tuple #[.agg #[.bool rr, .slice AA mm cc], .int .i64 0]) ∧ NumAt w' rr AA mm cc sa ∧ mm ≤ 48 ∧ Below V.heap.size V w') := fun V rp Ap mp cp rr Ar mr cr k hm k2 hm2 => Lib.hid ((add_at V k k2 (by omega) (by omega)).mono fun e w' hq => (EQ.out ▸ hq).yes dx.out)
  have CX : ∀ V rx Ax mx cx, NumAt V rx Ax mx cx sa → mx ≤ 48 → NumAt V R1 P1 m1 d1 sa → Hid (Calls Tryd.prog 31 #[.agg #[.bool rx, .slice Ax mx cx], .agg #[.bool R1, .slice P1 m1 d1]] V fun e w' => e = .returned (.int .i64 0) ∧ Below V.heap.size V w') := fun V rx Ax mx cx k hm k1 => Lib.hid ((cmp_at V k k1 (by omega) (by omega)).mono fun e w' ⟨he, hb⟩ => ⟨by rw [he, cmpI_eq rfl], hb⟩)
  have SUB : ∀ V rs As ms cs rr Ar mr cr, NumAt V rs As ms cs s → ms ≤ 48 → NumAt V rr Ar mr cr ri → mr ≤ 48 → Hid (Calls Tryd.prog 36 #[.agg #[.bool rs, .slice As ms cs], .agg #[.bool rr, .slice Ar mr cr]] V fun e w' => ∃ rr AA mm cc, e = .returned (.tuple #[.agg #[.bool rr, .slice AA mm cc], .int .i64 0]) ∧ NumAt w' rr AA mm cc (s - ri) ∧ mm ≤ 48 ∧ Below V.heap.size V w') := fun V rs As ms cs rr Ar mr cr k hm k2 hm2 => Lib.hid ((sub_at V k k2 (by omega) (by omega)).mono fun e w' hq => hq.yes DD.out)
  have k1 := K2.out.fst
  have k2 := K2.out.snd
  go_wp2_with fail
  rw [← HX.out]
  refine ((SY _ Q2).out).mono ?_
  rintro e y0 ⟨rfl, b0⟩
  replace T1 := T1.below' b0
  replace T2 := T2.below' b0
  replace Q1 := Q1.below b0
  replace Q2 := Q2.below b0
  replace B := below_then B b0
  clear k1 k2 b0 K1 K2 HX f1 f2 f3 f4
  have k1 := T1.fst
  have k2 := T1.snd
  have k3 := T2.fst
  have k4 := T2.snd
  go_wp2_with fail
  refine ((QUO _ Q1 Q2).out).mono ?_
  rintro e y5 ⟨rq, Aq, mq, cq, rfl, Nq, lq, b5⟩
  have ba := below_al (Below.refl y5.heap.size y5) (.cells #[.bool rq, .slice Aq mq cq] 24)
  have bb := below_then b5 ba
  replace T1 := T1.below' bb
  replace T2 := T2.below' bb
  replace Q1 := Q1.below bb
  replace Q2 := Q2.below bb
  replace B := below_then B bb
  have Tq := Two.made y5 24 (.bool rq) (.slice Aq mq cq)
  replace Nq := Nq.below ba
  clear k1 k2 k3 k4 b5 ba bb QUO
  have k1 := T1.fst
  have k2 := T1.snd
  have k3 := T2.fst
  have k4 := T2.snd
  go_wp2_with fail
  refine ((REM _ Q1 Q2).out).mono ?_
  rintro e y6 ⟨rr, Ar, mr, cr, rfl, Nr, lr, b6⟩
  have ba := below_al (Below.refl y6.heap.size y6) (.cells #[.bool rr, .slice Ar mr cr] 24)
  have bb := below_then b6 ba
  replace T1 := T1.below' bb
  replace T2 := T2.below' bb
  replace Q1 := Q1.below bb
  replace Q2 := Q2.below bb
  replace B := below_then B bb
  replace Tq := Tq.below' bb
  replace Nq := Nq.below bb
  have Tr := Two.made y6 24 (.bool rr) (.slice Ar mr cr)
  replace Nr := Nr.below ba
  clear k1 k2 k3 k4 b6 ba bb REM
  have k1 := T1.fst
  have k2 := T1.snd
  have k3 := T2.fst
  have k4 := T2.snd
  go_wp2_with fail
  refine ((MOD _ Q1 Q2).out).mono ?_
  rintro e y7 ⟨rs, As, ms, cs, rfl, Ns, ls, b7⟩
  have ba := below_al (Below.refl y7.heap.size y7) (.cells #[.bool rs, .slice As ms cs] 24)
  have bb := below_then b7 ba
  replace T1 := T1.below' bb
  replace T2 := T2.below' bb
  replace Q1 := Q1.below bb
  replace Q2 := Q2.below bb
  replace B := below_then B bb
  replace Tq := Tq.below' bb
  replace Nq := Nq.below bb
  replace Tr := Tr.below' bb
  replace Nr := Nr.below bb
  have Ts := Two.made y7 24 (.bool rs) (.slice As ms cs)
  replace Ns := Ns.below ba
  clear k1 k2 k3 k4 b7 ba bb MOD
  have k1 := Tq.fst
  have k2 := Tq.snd
  have k3 := T2.fst
  have k4 := T2.snd
  go_wp2_with fail
  refine ((MUL _ _ _ _ _ Nq lq Q2).out).mono ?_
  rintro e y8 ⟨rp, Ap, mp, cp, rfl, Np, lp, b8⟩
  have ba := below_al (Below.refl y8.heap.size y8) (.cells #[.bool rp, .slice Ap mp cp] 24)
  have bb := below_then b8 ba
  replace T1 := T1.below' bb
  replace T2 := T2.below' bb
  replace Q1 := Q1.below bb
  replace Q2 := Q2.below bb
  replace B := below_then B bb
  replace Tq := Tq.below' bb
  replace Nq := Nq.below bb
  replace Tr := Tr.below' bb
  replace Nr := Nr.below bb
  replace Ts := Ts.below' bb
  replace Ns := Ns.below bb
  have Tp := Two.made y8 24 (.bool rp) (.slice Ap mp cp)
  replace Np := Np.below ba
  clear k1 k2 k3 k4 b8 ba bb MUL
  have k1 := Tp.fst
  have k2 := Tp.snd
  have k3 := Tr.fst
  have k4 := Tr.snd
  go_wp2_with fail
  refine ((ADD _ _ _ _ _ _ _ _ _ Np lp Nr lr).out).mono ?_
  rintro e y9 ⟨rx, Ax, mx, cx, rfl, Nx, lxx, b9⟩
  have ba := below_al (Below.refl y9.heap.size y9) (.cells #[.bool rx, .slice Ax mx cx] 24)
  have bb := below_then b9 ba
  replace T1 := T1.below' bb
  replace T2 := T2.below' bb
  replace Q1 := Q1.below bb
  replace Q2 := Q2.below bb
  replace B := below_then B bb
  replace Tq := Tq.below' bb
  replace Nq := Nq.below bb
  replace Tr := Tr.below' bb
  replace Nr := Nr.below bb
  replace Ts := Ts.below' bb
  replace Ns := Ns.below bb
  replace Tp := Tp.below' bb
  replace Np := Np.below bb
  have Tx := Two.made y9 24 (.bool rx) (.slice Ax mx cx)
  replace Nx := Nx.below ba
  clear k1 k2 k3 k4 b9 ba bb ADD
  have k1 := Tx.fst
  have k2 := Tx.snd
  have k3 := T1.fst
  have k4 := T1.snd
  go_wp2_with fail
  refine ((CX _ _ _ _ _ Nx lxx Q1).out).mono ?_
  rintro e v ⟨rfl, bb⟩
  replace Tr := Tr.below' bb
  replace Nr := Nr.below bb
  replace Ts := Ts.below' bb
  replace Ns := Ns.below bb
  replace T1 := T1.below' bb
  replace T2 := T2.below' bb
  replace Q1 := Q1.below bb
  replace Q2 := Q2.below bb
  replace B := below_then B bb
  clear k1 k2 k3 k4 bb Tq Tp Tx Nq Np Nx lq lp lxx DP DQ EQ
  have LR' := LR.out
  have LS' := LS.out
  have AB : ∀ X, Below v.heap.size v X → ∀ b A m c, Hid (Calls Tryd.prog 50 #[.agg #[.bool b, .slice A m c]] X fun e w' => e = .returned (.agg #[.bool false, .slice A m c]) ∧ Below v.heap.size v w') := fun X hb b A m c => Lib.hid ((abs_any b A m c X).mono fun e w' ⟨he, hw⟩ => ⟨he, below_then hb hw⟩)
  have CR : ∀ X, Below v.heap.size v X → Hid (Calls Tryd.prog 31 #[.agg #[.bool false, .slice Ar mr cr], .agg #[.bool false, .slice P2 m2 d2]] X fun e w' => e = .returned (.int .i64 (-1)) ∧ Below v.heap.size v w') := fun X hb => Lib.hid ((cmp_at X (NumAt.abs (Nr.below hb)) (NumAt.abs (Q2.below hb)) (by omega) (by omega)).mono fun e w' ⟨he, hw⟩ => ⟨by rw [he, cmpI_lt (by omega)], below_then hb hw⟩)
  have CS : ∀ X, Below v.heap.size v X → Hid (Calls Tryd.prog 31 #[.agg #[.bool false, .slice As ms cs], .agg #[.bool false, .slice P2 m2 d2]] X fun e w' => e = .returned (.int .i64 (-1)) ∧ Below v.heap.size v w') := fun X hb => Lib.hid ((cmp_at X (NumAt.abs (Ns.below hb)) (NumAt.abs (Q2.below hb)) (by omega) (by omega)).mono fun e w' ⟨he, hw⟩ => ⟨by rw [he, cmpI_lt (by omega)], below_then hb hw⟩)
  have GR : ∀ X, Below v.heap.size v X → Hid (Calls Tryd.prog 27 #[.agg #[.bool rr, .slice Ar mr cr]] X fun e w' => e = .returned (.int .i64 (-1)) ∧ Below v.heap.size v w') := fun X hb => Lib.hid ((sign_at X (Nr.below hb) (by omega)).mono fun e w' ⟨he, hw⟩ => ⟨by rw [he, HU.out], below_then hb hw⟩)
  have GS : ∀ X, Below v.heap.size v X → Hid (Calls Tryd.prog 27 #[.agg #[.bool rs, .slice As ms cs]] X fun e w' => e = .returned (.int .i64 0) ∧ Below v.heap.size v w') := fun X hb => Lib.hid ((sign_at X (Ns.below hb) (by omega)).mono fun e w' ⟨he, hw⟩ => ⟨by rw [he, HT.out], below_then hb hw⟩)
  have GB : ∀ X, Below v.heap.size v X → Hid (Calls Tryd.prog 27 #[.agg #[.bool R2, .slice P2 m2 d2]] X fun e w' => e = .returned (.int .i64 g) ∧ Below v.heap.size v w') := fun X hb => Lib.hid ((sign_at X (Q2.below hb) (by omega)).mono fun e w' ⟨he, hw⟩ => ⟨by rw [he, HG.out], below_then hb hw⟩)
  have GA : ∀ X, Below v.heap.size v X → Hid (Calls Tryd.prog 27 #[.agg #[.bool R1, .slice P1 m1 d1]] X fun e w' => e = .returned (.int .i64 (-1)) ∧ Below v.heap.size v w') := fun X hb => Lib.hid ((sign_at X (Q1.below hb) (by omega)).mono fun e w' ⟨he, hw⟩ => ⟨by rw [he, HH.out], below_then hb hw⟩)
  have KS : ∀ X, Below v.heap.size v X → (Below v.heap.size v X ∧ X.cell? ⟨y6.heap.size, 0, none⟩ = some (.bool rr) ∧ X.cell? ⟨y6.heap.size, 1, none⟩ = some (.slice Ar mr cr) ∧ X.cell? ⟨w.heap.size + 1, 0, none⟩ = some (.bool R2) ∧ X.cell? ⟨w.heap.size + 1, 1, none⟩ = some (.slice P2 m2 d2) ∧ X.cell? ⟨y7.heap.size, 0, none⟩ = some (.bool rs) ∧ X.cell? ⟨y7.heap.size, 1, none⟩ = some (.slice As ms cs) ∧ X.cell? ⟨w.heap.size, 0, none⟩ = some (.bool R1) ∧ X.cell? ⟨w.heap.size, 1, none⟩ = some (.slice P1 m1 d1)) := fun X hb => ⟨hb, (Tr.below' hb).fst, (Tr.below' hb).snd, (T2.below' hb).fst, (T2.below' hb).snd, (Ts.below' hb).fst, (Ts.below' hb).snd, (T1.below' hb).fst, (T1.below' hb).snd⟩
  have hm1 : (decide ((-1 : Int) ≥ 0)) = false := by decide
  have BZ : Below v.heap.size v v := Below.refl _ _
  have k1 := Tr.fst
  have k2 := Tr.snd
  have k3 := T2.fst
  have k4 := T2.snd
  have k5 := Ts.fst
  have k6 := Ts.snd
  have k7 := T1.fst
  have k8 := T1.snd
  have HN := Lib.hid (And.intro Nr (And.intro Ns Q2))
  clear LR' LS' Nr Ns Q1 Q2 HU HT HH SY
  go_wp2_with fail
  refine wp_region_held_drew (S := fun X => Below v.heap.size v X ∧ X.cell? ⟨y6.heap.size, 0, none⟩ = some (.bool rr) ∧ X.cell? ⟨y6.heap.size, 1, none⟩ = some (.slice Ar mr cr) ∧ X.cell? ⟨w.heap.size + 1, 0, none⟩ = some (.bool R2) ∧ X.cell? ⟨w.heap.size + 1, 1, none⟩ = some (.slice P2 m2 d2) ∧ X.cell? ⟨y7.heap.size, 0, none⟩ = some (.bool rs) ∧ X.cell? ⟨y7.heap.size, 1, none⟩ = some (.slice As ms cs) ∧ X.cell? ⟨w.heap.size, 0, none⟩ = some (.bool R1) ∧ X.cell? ⟨w.heap.size, 1, none⟩ = some (.slice P1 m1 d1)) (by kernel_rfl) ?_ (fun hHeld => ?_)
  · (try dsimp only)
    exact KS _ (by first | assumption | exact Below.drew (by assumption))
  refine wpAnyH_take (i := 0) (v := ?_) rfl (by kernel_rfl) (by kernel_rfl) (by kernel_rfl) (fun _ _ _ h => h) (Or.inl ⟨by rfl, ?_⟩) (by assumption) ?_
  rotate_left
  · intro w hSw
    (try dsimp only at hSw)
    go_simp
    all_goals with_reducible rfl
  try simp only [Act.put, List.setIfInBounds_toArray, List.set_cons_zero, List.set_cons_succ]
  refine wpAnyH_take (i := 2) (v := ?_) rfl (by kernel_rfl) (by kernel_rfl) (by kernel_rfl) (fun _ _ _ h => h) (Or.inl ⟨by rfl, ?_⟩) (by assumption) ?_
  rotate_left
  · intro w hSw
    (try dsimp only at hSw)
    go_simp
    all_goals with_reducible rfl
  try simp only [Act.put, List.setIfInBounds_toArray, List.set_cons_zero, List.set_cons_succ]
  refine wpAnyH_ready (rs := [1]) (by kernel_rfl) (by simp) ?_
  refine AllReadyH.cons rfl (fun K hK => ?_) AllReadyH.nil
  go_simp
  go_at_call 50
  with_reducible refine ((AB _ (by first | assumption | exact Below.drew (by assumption)) _ _ _ _).out).mono ?_
  rintro e w' ⟨rfl, bb⟩
  go_wp2_with fail
  refine hK.out _ _ ?_ (fun hH2 => ?_)
  · (try dsimp only)
    exact KS _ (by first | assumption | exact Below.drew (by assumption))
  clear hK K hHeld
  have hHeld := hH2
  clear hH2
  try simp only [Act.put, List.setIfInBounds_toArray, List.set_cons_zero, List.set_cons_succ]
  refine wpAnyH_ready (rs := [3]) (by kernel_rfl) (by simp) ?_
  refine AllReadyH.cons rfl (fun K hK => ?_) AllReadyH.nil
  go_simp
  go_at_call 50
  with_reducible refine ((AB _ (by first | assumption | exact Below.drew (by assumption)) _ _ _ _).out).mono ?_
  rintro e w' ⟨rfl, bb⟩
  go_wp2_with fail
  refine hK.out _ _ ?_ (fun hH2 => ?_)
  · (try dsimp only)
    exact KS _ (by first | assumption | exact Below.drew (by assumption))
  clear hK K hHeld
  have hHeld := hH2
  clear hH2
  try simp only [Act.put, List.setIfInBounds_toArray, List.set_cons_zero, List.set_cons_succ]
  refine wpAnyH_ready (rs := [4]) (by kernel_rfl) (by simp) ?_
  refine AllReadyH.cons rfl (fun K hK => ?_) AllReadyH.nil
  go_simp
  go_at_call 31
  with_reducible refine ((CR _ (by first | assumption | exact Below.drew (by assumption)) ).out).mono ?_
  rintro e w' ⟨rfl, bb⟩
  go_wp2_with fail
  refine hK.out _ _ ?_ (fun hH2 => ?_)
  · (try dsimp only)
    exact KS _ (by first | assumption | exact Below.drew (by assumption))
  clear hK K hHeld
  have hHeld := hH2
  clear hH2
  try simp only [Act.put, List.setIfInBounds_toArray, List.set_cons_zero, List.set_cons_succ]
  refine wpAnyH_take (i := 5) (v := ?_) rfl (by kernel_rfl) (by kernel_rfl) (by kernel_rfl) (fun _ _ _ h => h) (Or.inl ⟨by rfl, ?_⟩) (by assumption) ?_
  rotate_left
  · intro w hSw
    (try dsimp only at hSw)
    go_simp
    all_goals with_reducible rfl
  try simp only [Act.put, List.setIfInBounds_toArray, List.set_cons_zero, List.set_cons_succ]
  refine wpAnyH_take (i := 6) (v := ?_) rfl (by kernel_rfl) (by kernel_rfl) (by kernel_rfl) (fun _ _ _ h => h) (Or.inl ⟨by rfl, ?_⟩) (by assumption) ?_
  rotate_left
  · intro w hSw
    (try dsimp only at hSw)
    go_simp
    all_goals with_reducible rfl
  try simp only [Act.put, List.setIfInBounds_toArray, List.set_cons_zero, List.set_cons_succ]
  refine wpAnyH_take (i := 7) (v := ?_) rfl (by kernel_rfl) (by kernel_rfl) (by kernel_rfl) (fun _ _ _ h => h) (Or.inl ⟨by rfl, ?_⟩) (by assumption) ?_
  rotate_left
  · intro w hSw
    (try dsimp only at hSw)
    go_simp
    all_goals with_reducible rfl
  try simp only [Act.put, List.setIfInBounds_toArray, List.set_cons_zero, List.set_cons_succ]
  refine wpAnyH_take (i := 9) (v := ?_) rfl (by kernel_rfl) (by kernel_rfl) (by kernel_rfl) (fun _ _ _ h => h) (Or.inl ⟨by rfl, ?_⟩) (by assumption) ?_
  rotate_left
  · intro w hSw
    (try dsimp only at hSw)
    go_simp
    all_goals with_reducible rfl
  try simp only [Act.put, List.setIfInBounds_toArray, List.set_cons_zero, List.set_cons_succ]
  refine wpAnyH_ready (rs := [8]) (by kernel_rfl) (by simp) ?_
  refine AllReadyH.cons rfl (fun K hK => ?_) AllReadyH.nil
  go_simp
  go_at_call 50
  with_reducible refine ((AB _ (by first | assumption | exact Below.drew (by assumption)) _ _ _ _).out).mono ?_
  rintro e w' ⟨rfl, bb⟩
  go_wp2_with fail
  refine hK.out _ _ ?_ (fun hH2 => ?_)
  · (try dsimp only)
    exact KS _ (by first | assumption | exact Below.drew (by assumption))
  clear hK K hHeld
  have hHeld := hH2
  clear hH2
  try simp only [Act.put, List.setIfInBounds_toArray, List.set_cons_zero, List.set_cons_succ]
  refine wpAnyH_ready (rs := [10]) (by kernel_rfl) (by simp) ?_
  refine AllReadyH.cons rfl (fun K hK => ?_) AllReadyH.nil
  go_simp
  go_at_call 50
  with_reducible refine ((AB _ (by first | assumption | exact Below.drew (by assumption)) _ _ _ _).out).mono ?_
  rintro e w' ⟨rfl, bb⟩
  go_wp2_with fail
  refine hK.out _ _ ?_ (fun hH2 => ?_)
  · (try dsimp only)
    exact KS _ (by first | assumption | exact Below.drew (by assumption))
  clear hK K hHeld
  have hHeld := hH2
  clear hH2
  try simp only [Act.put, List.setIfInBounds_toArray, List.set_cons_zero, List.set_cons_succ]
  refine wpAnyH_ready (rs := [11]) (by kernel_rfl) (by simp) ?_
  refine AllReadyH.cons rfl (fun K hK => ?_) AllReadyH.nil
  go_simp
  go_at_call 31
  with_reducible refine ((CS _ (by first | assumption | exact Below.drew (by assumption)) ).out).mono ?_
  rintro e w' ⟨rfl, bb⟩
  go_wp2_with fail
  refine hK.out _ _ ?_ (fun hH2 => ?_)
  · (try dsimp only)
    exact KS _ (by first | assumption | exact Below.drew (by assumption))
  clear hK K hHeld
  have hHeld := hH2
  clear hH2
  try simp only [Act.put, List.setIfInBounds_toArray, List.set_cons_zero, List.set_cons_succ]
  refine wpAnyH_take (i := 12) (v := ?_) rfl (by kernel_rfl) (by kernel_rfl) (by kernel_rfl) (fun _ _ _ h => h) (Or.inl ⟨by rfl, ?_⟩) (by assumption) ?_
  rotate_left
  · intro w hSw
    (try dsimp only at hSw)
    go_simp
    all_goals with_reducible rfl
  try simp only [Act.put, List.setIfInBounds_toArray, List.set_cons_zero, List.set_cons_succ]
  refine wpAnyH_take (i := 13) (v := ?_) rfl (by kernel_rfl) (by kernel_rfl) (by kernel_rfl) (fun _ _ _ h => h) (Or.inl ⟨by rfl, ?_⟩) (by assumption) ?_
  rotate_left
  · intro w hSw
    (try dsimp only at hSw)
    go_simp
    all_goals with_reducible rfl
  try simp only [Act.put, List.setIfInBounds_toArray, List.set_cons_zero, List.set_cons_succ]
  refine wpAnyH_take (i := 14) (v := ?_) rfl (by kernel_rfl) (by kernel_rfl) (by kernel_rfl) (fun _ _ _ h => h) (Or.inl ⟨by rfl, ?_⟩) (by assumption) ?_
  rotate_left
  · intro w hSw
    (try dsimp only at hSw)
    go_simp
    all_goals with_reducible rfl
  try simp only [Act.put, List.setIfInBounds_toArray, List.set_cons_zero, List.set_cons_succ]
  refine wpAnyH_take (i := 15) (v := ?_) rfl (by kernel_rfl) (by kernel_rfl) (by kernel_rfl) (fun _ _ _ h => h) (Or.inl ⟨by rfl, ?_⟩) (by assumption) ?_
  rotate_left
  · intro w hSw
    (try dsimp only at hSw)
    go_simp
    all_goals with_reducible rfl
  try simp only [Act.put, List.setIfInBounds_toArray, List.set_cons_zero, List.set_cons_succ]
  refine wpAnyH_ready (rs := [16]) (by kernel_rfl) (by simp) ?_
  refine AllReadyH.cons rfl (fun K hK => ?_) AllReadyH.nil
  go_simp
  go_at_call 27
  with_reducible refine ((GR _ (by first | assumption | exact Below.drew (by assumption)) ).out).mono ?_
  rintro e w' ⟨rfl, bb⟩
  go_wp2_with fail
  refine hK.out _ _ ?_ (fun hH2 => ?_)
  · (try dsimp only)
    exact KS _ (by first | assumption | exact Below.drew (by assumption))
  clear hK K hHeld
  have hHeld := hH2
  clear hH2
  try simp only [Act.put, List.setIfInBounds_toArray, List.set_cons_zero, List.set_cons_succ]
  refine wpAnyH_take (i := 17) (v := ?_) rfl (by kernel_rfl) (by kernel_rfl) (by kernel_rfl) (fun _ _ _ h => h) (Or.inl ⟨by rfl, ?_⟩) (by assumption) ?_
  rotate_left
  · intro w hSw
    (try dsimp only at hSw)
    go_simp
    all_goals with_reducible rfl
  try simp only [Act.put, List.setIfInBounds_toArray, List.set_cons_zero, List.set_cons_succ]
  refine wpAnyH_take (i := 18) (v := ?_) rfl (by kernel_rfl) (by kernel_rfl) (by kernel_rfl) (fun _ _ _ h => h) (Or.inl ⟨by rfl, ?_⟩) (by assumption) ?_
  rotate_left
  · intro w hSw
    (try dsimp only at hSw)
    go_simp
    all_goals with_reducible rfl
  try simp only [Act.put, List.setIfInBounds_toArray, List.set_cons_zero, List.set_cons_succ]
  refine wpAnyH_take (i := 19) (v := ?_) rfl (by kernel_rfl) (by kernel_rfl) (by kernel_rfl) (fun _ _ _ h => h) (Or.inl ⟨by rfl, ?_⟩) (by assumption) ?_
  rotate_left
  · intro w hSw
    (try dsimp only at hSw)
    go_simp
    all_goals with_reducible rfl
  try simp only [Act.put, List.setIfInBounds_toArray, List.set_cons_zero, List.set_cons_succ]
  refine wpAnyH_take (i := 21) (v := ?_) rfl (by kernel_rfl) (by kernel_rfl) (by kernel_rfl) (fun _ _ _ h => h) (Or.inl ⟨by rfl, ?_⟩) (by assumption) ?_
  rotate_left
  · intro w hSw
    (try dsimp only at hSw)
    go_simp
    all_goals with_reducible rfl
  try simp only [Act.put, List.setIfInBounds_toArray, List.set_cons_zero, List.set_cons_succ]
  refine wpAnyH_ready (rs := [20]) (by kernel_rfl) (by simp) ?_
  refine AllReadyH.cons rfl (fun K hK => ?_) AllReadyH.nil
  go_simp
  go_at_call 27
  with_reducible refine ((GR _ (by first | assumption | exact Below.drew (by assumption)) ).out).mono ?_
  rintro e w' ⟨rfl, bb⟩
  go_wp2_with fail
  refine hK.out _ _ ?_ (fun hH2 => ?_)
  · (try dsimp only)
    exact KS _ (by first | assumption | exact Below.drew (by assumption))
  clear hK K hHeld
  have hHeld := hH2
  clear hH2
  try simp only [Act.put, List.setIfInBounds_toArray, List.set_cons_zero, List.set_cons_succ]
  refine wpAnyH_ready (rs := [22]) (by kernel_rfl) (by simp) ?_
  refine AllReadyH.cons rfl (fun K hK => ?_) AllReadyH.nil
  go_simp
  go_at_call 27
  with_reducible refine ((GA _ (by first | assumption | exact Below.drew (by assumption)) ).out).mono ?_
  rintro e w' ⟨rfl, bb⟩
  go_wp2_with fail
  refine hK.out _ _ ?_ (fun hH2 => ?_)
  · (try dsimp only)
    exact KS _ (by first | assumption | exact Below.drew (by assumption))
  clear hK K hHeld
  have hHeld := hH2
  clear hH2
  try simp only [Act.put, List.setIfInBounds_toArray, List.set_cons_zero, List.set_cons_succ]
  refine wpAnyH_take (i := 23) (v := ?_) rfl (by kernel_rfl) (by kernel_rfl) (by kernel_rfl) (fun _ _ _ h => h) (Or.inl ⟨by rfl, ?_⟩) (by assumption) ?_
  rotate_left
  · intro w hSw
    (try dsimp only at hSw)
    go_simp
    all_goals with_reducible rfl
  try simp only [Act.put, List.setIfInBounds_toArray, List.set_cons_zero, List.set_cons_succ]
  refine wpAnyH_take (i := 24) (v := ?_) rfl (by kernel_rfl) (by kernel_rfl) (by kernel_rfl) (fun _ _ _ h => h) (Or.inl ⟨by rfl, ?_⟩) (by assumption) ?_
  rotate_left
  · intro w hSw
    (try dsimp only at hSw)
    go_simp
    all_goals with_reducible rfl
  try simp only [Act.put, List.setIfInBounds_toArray, List.set_cons_zero, List.set_cons_succ]
  refine wpAnyH_take (i := 25) (v := ?_) rfl (by kernel_rfl) (by kernel_rfl) (by kernel_rfl) (fun _ _ _ h => h) (Or.inl ⟨by rfl, ?_⟩) (by assumption) ?_
  rotate_left
  · intro w hSw
    (try dsimp only at hSw)
    go_simp
    all_goals with_reducible rfl
  try simp only [Act.put, List.setIfInBounds_toArray, List.set_cons_zero, List.set_cons_succ]
  refine wpAnyH_take (i := 26) (v := ?_) rfl (by kernel_rfl) (by kernel_rfl) (by kernel_rfl) (fun _ _ _ h => h) (Or.inl ⟨by rfl, ?_⟩) (by assumption) ?_
  rotate_left
  · intro w hSw
    (try dsimp only at hSw)
    go_simp
    all_goals with_reducible rfl
  try simp only [Act.put, List.setIfInBounds_toArray, List.set_cons_zero, List.set_cons_succ]
  refine wpAnyH_take (i := 27) (v := ?_) rfl (by kernel_rfl) (by kernel_rfl) (by kernel_rfl) (fun _ _ _ h => h) (Or.inl ⟨by rfl, ?_⟩) (by assumption) ?_
  rotate_left
  · intro w hSw
    (try dsimp only at hSw)
    go_simp
    all_goals with_reducible rfl
  try simp only [Act.put, List.setIfInBounds_toArray, List.set_cons_zero, List.set_cons_succ]
  refine wpAnyH_ready (rs := [28]) (by kernel_rfl) (by simp) ?_
  refine AllReadyH.cons rfl (fun K hK => ?_) AllReadyH.nil
  go_simp
  go_at_call 27
  with_reducible refine ((GS _ (by first | assumption | exact Below.drew (by assumption)) ).out).mono ?_
  rintro e w' ⟨rfl, bb⟩
  go_wp2_with fail
  refine hK.out _ _ ?_ (fun hH2 => ?_)
  · (try dsimp only)
    exact KS _ (by first | assumption | exact Below.drew (by assumption))
  clear hK K hHeld
  have hHeld := hH2
  clear hH2
  try simp only [Act.put, List.setIfInBounds_toArray, List.set_cons_zero, List.set_cons_succ]
  refine wpAnyH_take (i := 29) (v := ?_) rfl (by kernel_rfl) (by kernel_rfl) (by kernel_rfl) (fun _ _ _ h => h) (Or.inl ⟨by rfl, ?_⟩) (by assumption) ?_
  rotate_left
  · intro w hSw
    (try dsimp only at hSw)
    go_simp
    all_goals with_reducible rfl
  try simp only [Act.put, List.setIfInBounds_toArray, List.set_cons_zero, List.set_cons_succ]
  refine wpAnyH_take (i := 30) (v := ?_) rfl (by kernel_rfl) (by kernel_rfl) (by kernel_rfl) (fun _ _ _ h => h) (Or.inl ⟨by rfl, ?_⟩) (by assumption) ?_
  rotate_left
  · intro w hSw
    (try dsimp only at hSw)
    go_simp
    all_goals with_reducible rfl
  try simp only [Act.put, List.setIfInBounds_toArray, List.set_cons_zero, List.set_cons_succ]
  refine wpAnyH_take (i := 31) (v := undef) rfl (by kernel_rfl) (by kernel_rfl) (by kernel_rfl) (fun _ _ _ h => h) (Or.inr ⟨by rfl, rfl⟩) (by assumption) ?_
  try simp only [Act.put, List.setIfInBounds_toArray, List.set_cons_zero, List.set_cons_succ]
  refine wpAnyH_take (i := 33) (v := undef) rfl (by kernel_rfl) (by kernel_rfl) (by kernel_rfl) (fun _ _ _ h => h) (Or.inr ⟨by rfl, rfl⟩) (by assumption) ?_
  try simp only [Act.put, List.setIfInBounds_toArray, List.set_cons_zero, List.set_cons_succ]
  refine wpAnyH_ready (rs := [32]) (by kernel_rfl) (by simp) ?_
  refine AllReadyH.cons rfl (fun K hK => ?_) AllReadyH.nil
  go_simp
  refine hK.out _ _ ?_ (fun hH2 => ?_)
  · (try dsimp only)
    exact KS _ (by first | assumption | exact Below.drew (by assumption))
  clear hK K hHeld
  have hHeld := hH2
  clear hH2
  try simp only [Act.put, List.setIfInBounds_toArray, List.set_cons_zero, List.set_cons_succ]
  refine wpAnyH_ready (rs := [34]) (by kernel_rfl) (by simp) ?_
  refine AllReadyH.cons rfl (fun K hK => ?_) AllReadyH.nil
  go_simp
  refine hK.out _ _ ?_ (fun hH2 => ?_)
  · (try dsimp only)
    exact KS _ (by first | assumption | exact Below.drew (by assumption))
  clear hK K hHeld
  have hHeld := hH2
  clear hH2
  try simp only [Act.put, List.setIfInBounds_toArray, List.set_cons_zero, List.set_cons_succ]
  refine wpAnyH_take (i := 35) (v := undef) rfl (by kernel_rfl) (by kernel_rfl) (by kernel_rfl) (fun _ _ _ h => h) (Or.inr ⟨by rfl, rfl⟩) (by assumption) ?_
  try simp only [Act.put, List.setIfInBounds_toArray, List.set_cons_zero, List.set_cons_succ]
  refine wpAnyH_take (i := 36) (v := ?_) rfl (by kernel_rfl) (by kernel_rfl) (by kernel_rfl) (fun _ _ _ h => h) (Or.inl ⟨by rfl, ?_⟩) (by assumption) ?_
  rotate_left
  · intro w hSw
    (try dsimp only at hSw)
    go_simp
    all_goals with_reducible rfl
  try simp only [Act.put, List.setIfInBounds_toArray, List.set_cons_zero, List.set_cons_succ]
  refine wpAnyH_take (i := 37) (v := ?_) rfl (by kernel_rfl) (by kernel_rfl) (by kernel_rfl) (fun _ _ _ h => h) (Or.inl ⟨by rfl, ?_⟩) (by assumption) ?_
  rotate_left
  · intro w hSw
    (try dsimp only at hSw)
    go_simp
    all_goals with_reducible rfl
  try simp only [Act.put, List.setIfInBounds_toArray, List.set_cons_zero, List.set_cons_succ]
  refine wpAnyH_done (by kernel_rfl) ?_ _
  have ⟨hbX, p1, p2, p3, p4, p5, p6, p7, p8⟩ := hHeld
  clear hHeld k1 k2 k3 k4 k5 k6 k7 k8 AB CR CS GR GS GB GA KS
  have NX := HN.out
  go_wp2_with fail
  refine ((SUB _ _ _ _ _ _ _ _ _ (NX.2.1.below hbX) ls (NX.1.below hbX) lr).out).mono ?_
  rintro e z1 ⟨rd, Ad, md, cd, rfl, Nd, ld, bd⟩
  have ba := below_al (Below.refl z1.heap.size z1) (.cells #[.bool rd, .slice Ad md cd] 24)
  have b9 := below_then hbX (below_then bd ba)
  have Td := Two.made z1 24 (.bool rd) (.slice Ad md cd)
  replace Nd := Nd.below ba
  have N2 := NX.2.2.below b9
  replace T2 := T2.below' b9
  replace B := below_then B b9
  clear p1 p2 p3 p4 p5 p6 p7 p8 NX hbX bd ba b9 T1 Tr Ts SUB
  have k1 := Td.fst
  have k2 := Td.snd
  rcases CD.out with e9 | e9
  · rw [e9] at Nd
    have SD := Lib.hid ((sign_at _ Nd (by omega)).mono fun e w' ⟨he, hb⟩ => (⟨by rw [he, cmpI_eq rfl], hb⟩ : e = Ending.returned (.int .i64 0) ∧ Below _ _ w'))
    go_wp2_with fail
    refine (SD.out).mono ?_
    rintro e z2 ⟨rfl, b10⟩
    go_wp2_with fail
    refine ((AW _ (below_then B b10)).out).mono ?_
    rintro e ye ⟨rfl, be⟩
    go_wp2
    go_ret
    exact ⟨rfl, be⟩
  · rw [e9] at Nd
    have SD := Lib.hid ((sign_at _ Nd (by omega)).mono fun e w' ⟨he, hb⟩ => (⟨by rw [he, HG.out], hb⟩ : e = Ending.returned (.int .i64 g) ∧ Below _ _ w'))
    go_wp2_with fail
    refine (SD.out).mono ?_
    rintro e z2 ⟨rfl, b10⟩
    replace Td := Td.below' b10
    replace T2 := T2.below' b10
    replace B := below_then B b10
    have CE := Lib.hid ((cmp_at z2 (Nd.below b10) (N2.below b10) (by omega) (by omega)).mono fun e w' ⟨he, hb⟩ => (⟨by rw [he, cmpI_eq rfl], hb⟩ : e = Ending.returned (.int .i64 0) ∧ Below _ _ w'))
    clear k1 k2 b10
    have k1 := Td.fst
    have k2 := Td.snd
    have k3 := T2.fst
    have k4 := T2.snd
    go_wp2_with fail
    refine (CE.out).mono ?_
    rintro e z3 ⟨rfl, b11⟩
    go_wp2_with fail
    refine ((AW _ (below_then B b11)).out).mono ?_
    rintro e ye ⟨rfl, be⟩
    go_wp2
    go_ret
    exact ⟨rfl, be⟩
set_option maxHeartbeats 12800000 in
set_option maxRecDepth 100000 in
theorem main_np (r1 r2 : Bool) (A1 A2 : Option Addr) (n1 c1 n2 c2 : Nat) (sa sb : Int) (w : World) (ht : Tab w) (h1 : NumAt w r1 A1 n1 c1 sa) (h2 : NumAt w r2 A2 n2 c2 sb) (l1 : n1 ≤ 60) (l2 : n2 ≤ 60) (hy : sb ≠ 0) (hU : Hid (cmpI (Int.tmod sa sb) 0 = (-1) ∧ cmpI sa 0 = (-1))) (hT : Hid (cmpI (Int.fmod sa sb) 0 = 1 ∧ cmpI sb 0 = 1)) (HVA : Hid (resV sa = 0)) (HVB : Hid (resV sb = 0)) :
    Calls Tryd.prog 12 #[.agg #[.bool r1, .slice A1 n1 c1], .agg #[.bool r2, .slice A2 n2 c2]] w fun e w' => e = .returned (.bool true) ∧ Below w.heap.size w w' := by
  obtain ⟨W, hW⟩ : ∃ W, W = (w.alloc (.cells #[.bool r1, .slice A1 n1 c1] 24)).alloc (.cells #[.bool r2, .slice A2 n2 c2] 24) := ⟨_, rfl⟩
  obtain ⟨t1, t2, hbW, hWs⟩ := boxes24 w _ _ _ _ W hW
  have LA := fun W => Lib.hid (long_no r1 A1 n1 c1 l1 W)
  have LB := fun W => Lib.hid (long_no r2 A2 n2 c2 l2 W)
  have F1 : ∀ V, Agr2 w.heap.size w V → Hid (Firm2 (fun V => NumAt V r1 A1 n1 c1 sa) w.heap.size V) := fun V h => Lib.hid ((firm_old2 h1).step h)
  have F2 : ∀ V, Agr2 w.heap.size w V → Hid (Firm2 (fun V => NumAt V r2 A2 n2 c2 sb) w.heap.size V) := fun V h => Lib.hid ((firm_old2 h2).step h)
  have AW : ∀ V, Below w.heap.size w V → Hid (Calls Tryd.prog 18 #[] V fun e w' => e = .returned (.bool true) ∧ Below w.heap.size w w') :=
    fun V hb => Lib.hid ((awake_any V (ht.below hb)).mono fun e w' ⟨he, hw⟩ => ⟨he, below_then hb hw⟩)
  have k1 := t1.fst
  have k2 := t1.snd
  clear h1 h2 ht
  go_enter Tryd.func12, Tryd.ntmps12
  go_wp2_with fail
  rw [← hW]
  have HW := Lib.hid hW
  have HWS := Lib.hid hWs
  clear hW hWs
  refine ((LA _).out).mono ?_
  rintro e v1 ⟨rfl, b1⟩
  replace t1 := t1.below' b1
  replace t2 := t2.below' b1
  clear k1 k2
  have k1 := t2.fst
  have k2 := t2.snd
  go_wp2_with fail
  refine ((LB _).out).mono ?_
  rintro e v2 ⟨rfl, b2⟩
  replace t1 := t1.below' b2
  replace t2 := t2.below' b2
  have B3 : Below w.heap.size w v2 := below_then (below_then hbW b1) b2
  have S3 : w.heap.size + 2 ≤ v2.heap.size := by have := HWS.out; have := b1.size; have := b2.size; omega
  clear k1 k2 b1 b2 hbW LA LB
  have k1 := t1.fst
  have k2 := t1.snd
  go_wp2_with fail
  have NT := Lib.hid (norm_tells (g := w.heap.size) (F1 _ (Agr2.of_below B3)).out.out (by omega) S3 0 HVA.out)
  refine (NT.out).mono ?_
  clear NT
  rintro e y1 ⟨R1, P1, m1, d1, rfl, G1, b1⟩
  replace t1 := t1.below' b1
  replace t2 := t2.below' b1
  clear k1 k2
  have f1 := t1.free 0
  have f2 := t1.free 1
  have f3 := t1.fst
  have f4 := t1.snd
  have AG := Agr2.set2 (g := w.heap.size) (b := w.heap.size) y1 (.bool R1) (.slice P1 m1 d1) (by omega) (by omega)
  have BX1 : Below w.heap.size w ((y1.setCell ⟨w.heap.size, 0, none⟩ (.bool R1)).setCell ⟨w.heap.size, 1, none⟩ (.slice P1 m1 d1)) := below_two (below_then B3 b1) (by omega)
  have SX1 : w.heap.size + 2 ≤ ((y1.setCell ⟨w.heap.size, 0, none⟩ (.bool R1)).setCell ⟨w.heap.size, 1, none⟩ (.slice P1 m1 d1)).heap.size := by have := b1.size; simp; omega
  replace G1 := G1.step AG
  have u1 : Two ((y1.setCell ⟨w.heap.size, 0, none⟩ (.bool R1)).setCell ⟨w.heap.size, 1, none⟩ (.slice P1 m1 d1)) (w.heap.size) 24 (.bool R1) (.slice P1 m1 d1) := t1.set2
  have u2 := Two.far2 (b := w.heap.size) (u' := .bool R1) (v' := .slice P1 m1 d1) t2 (by omega)
  have k1 := u2.fst
  have k2 := u2.snd
  go_wp2_with fail
  obtain ⟨X1, hX⟩ : ∃ X, X = ((y1.setCell ⟨w.heap.size, 0, none⟩ (.bool R1)).setCell ⟨w.heap.size, 1, none⟩ (.slice P1 m1 d1)) := ⟨_, rfl⟩
  rw [← hX]
  rw [← hX] at AG BX1 SX1 u1 u2 k1 k2 G1
  clear hX t1 t2 AG f1 f2 f3 f4 b1 B3 S3
  have t1 := u1
  have t2 := u2
  clear u1 u2
  have NT := Lib.hid (norm_tells (g := w.heap.size) (F2 _ (Agr2.of_below BX1)).out.out (by omega) SX1 0 HVB.out)
  refine (NT.out).mono ?_
  clear NT
  rintro e y2 ⟨R2, P2, m2, d2, rfl, G2, b2⟩
  replace t1 := t1.below' b2
  replace t2 := t2.below' b2
  replace G1 := G1.step (Agr2.of_below b2)
  clear k1 k2
  have f1 := t2.free 0
  have f2 := t2.free 1
  have f3 := t2.fst
  have f4 := t2.snd
  have AG := Agr2.set2 (g := w.heap.size) (b := w.heap.size + 1) y2 (.bool R2) (.slice P2 m2 d2) (by omega) (by omega)
  have BX2 : Below w.heap.size w ((y2.setCell ⟨w.heap.size + 1, 0, none⟩ (.bool R2)).setCell ⟨w.heap.size + 1, 1, none⟩ (.slice P2 m2 d2)) := below_two (below_then BX1 b2) (by omega)
  have SX2 : w.heap.size + 2 ≤ ((y2.setCell ⟨w.heap.size + 1, 0, none⟩ (.bool R2)).setCell ⟨w.heap.size + 1, 1, none⟩ (.slice P2 m2 d2)).heap.size := by have := b2.size; simp; omega
  replace G1 := G1.step AG
  replace G2 := G2.step AG
  have u1 := Two.far2 (b := w.heap.size + 1) (u' := .bool R2) (v' := .slice P2 m2 d2) t1 (by omega)
  have u2 : Two ((y2.setCell ⟨w.heap.size + 1, 0, none⟩ (.bool R2)).setCell ⟨w.heap.size + 1, 1, none⟩ (.slice P2 m2 d2)) (w.heap.size + 1) 24 (.bool R2) (.slice P2 m2 d2) := t2.set2
  obtain ⟨X, hX⟩ : ∃ X, X = ((y2.setCell ⟨w.heap.size + 1, 0, none⟩ (.bool R2)).setCell ⟨w.heap.size + 1, 1, none⟩ (.slice P2 m2 d2)) := ⟨_, rfl⟩
  have Q1 := hX ▸ G1.out
  have Q2 := hX ▸ G2.out
  have T1 := hX ▸ u1
  have T2 := hX ▸ u2
  have B := hX ▸ BX2
  have K1 := Lib.hid u1
  have K2 := Lib.hid u2
  have HX := Lib.hid hX
  clear hX G1 G2 AG b2 BX1 SX1 SX2 t1 t2 BX2 F1 F2
  clear u1 u2
  rw [resZ_of0 HVA.out] at Q1
  rw [resZ_of0 HVB.out] at Q2
  have lx : m1 ≤ 48 := Q1.le
  have ly : m2 ≤ 48 := Q2.le
  replace Q1 := Q1.at
  replace Q2 := Q2.at
  have HY := Lib.hid hy
  have dx : Hid (dl sa.natAbs ≤ 48) := Lib.hid (by have := NumAt.dl Q1; omega)
  have dy : Hid (dl sb.natAbs ≤ 48) := Lib.hid (by have := NumAt.dl Q2; omega)
  obtain ⟨q, hq⟩ : ∃ q, Int.tdiv sa sb = q := ⟨_, rfl⟩
  obtain ⟨ri, hr⟩ : ∃ ri, Int.tmod sa sb = ri := ⟨_, rfl⟩
  obtain ⟨s, hs⟩ : ∃ s, Int.fmod sa sb = s := ⟨_, rfl⟩
  obtain ⟨g, hg⟩ : ∃ g, cmpI sb 0 = g := ⟨_, rfl⟩
  obtain ⟨h, hh⟩ : ∃ h, cmpI sa 0 = h := ⟨_, rfl⟩
  obtain ⟨u, hu⟩ : ∃ u, cmpI ri 0 = u := ⟨_, rfl⟩
  obtain ⟨t, ht⟩ : ∃ t, cmpI s 0 = t := ⟨_, rfl⟩
  have hg0 : (g == 0) = false := by rw [← hg]; exact sgn_nz hy
  have DQ : Hid (dl q.natAbs ≤ 48) := Lib.hid (by rw [← hq]; exact div_fits dx.out)
  have LR : Hid (ri.natAbs < sb.natAbs) := Lib.hid (by rw [← hr]; exact tmod_less hy)
  have LS : Hid (s.natAbs < sb.natAbs) := Lib.hid (by rw [← hs]; exact fmod_less hy)
  have DR : Hid (dl ri.natAbs ≤ 48) := Lib.hid (Nat.le_trans (dl_mono (Nat.le_of_lt LR.out)) dy.out)
  have DS : Hid (dl s.natAbs ≤ 48) := Lib.hid (Nat.le_trans (dl_mono (Nat.le_of_lt LS.out)) dy.out)
  have EQ : Hid (q * sb + ri = sa) := Lib.hid (by have := Int.mul_tdiv_add_tmod sa sb; rw [hq, hr] at this; rw [Int.mul_comm]; exact this)
  have DP : Hid (dl (q * sb).natAbs ≤ 48) := Lib.hid (by
    refine Nat.le_trans (dl_mono ?_) dx.out
    rw [Int.natAbs_mul, ← hq, Int.natAbs_tdiv]
    exact Nat.div_mul_le_self _ _)
  have CD : Hid (s - ri = 0 ∨ s - ri = sb) := Lib.hid (by rw [← hs, ← hr]; exact fmod_tmod hy)
  obtain rfl : u = (-1) := by rw [← hu, ← hr]; exact hU.out.1
  obtain rfl : h = (-1) := by rw [← hh]; exact hU.out.2
  obtain rfl : t = 1 := by rw [← ht, ← hs]; exact hT.out.1
  obtain rfl : g = 1 := by rw [← hg]; exact hT.out.2
  have HQ := Lib.hid hq
  have HR := Lib.hid hr
  have HS := Lib.hid hs
  have HG := Lib.hid hg
  have HH := Lib.hid hh
  have HU := Lib.hid hu
  have HT := Lib.hid ht
  clear hq hr hs hg hh hu ht hy
  have DD : Hid (dl (s - ri).natAbs ≤ 48) := Lib.hid (by
    rcases CD.out with e | e
    · rw [e]; decide
    · rw [e]; exact dy.out)
  have SY : ∀ V, NumAt V R2 P2 m2 d2 sb → Hid (Calls Tryd.prog 27 #[.agg #[.bool R2, .slice P2 m2 d2]] V fun e w' => e = .returned (.int .i64 1) ∧ Below V.heap.size V w') := fun V k => Lib.hid ((sign_at V k (by omega)).mono fun e w' ⟨he, hb⟩ => ⟨by rw [he, HG.out], hb⟩)
  have QUO : ∀ V, NumAt V R1 P1 m1 d1 sa → NumAt V R2 P2 m2 d2 sb → Hid (Calls Tryd.prog 40 #[.agg #[.bool R1, .slice P1 m1 d1], .agg #[.bool R2, .slice P2 m2 d2]] V fun e w' => ∃ rr AA mm cc, e = .returned (.tuple #[.agg #[.bool rr, .slice AA mm cc], .int .i64 0]) ∧ NumAt w' rr AA mm cc q ∧ mm ≤ 48 ∧ Below V.heap.size V w') := fun V k k2 => Lib.hid ((quo_at V k k2 (by omega) (by omega) HY.out).mono fun e w' hq => (HQ.out ▸ hq).yes DQ.out)
  have REM : ∀ V, NumAt V R1 P1 m1 d1 sa → NumAt V R2 P2 m2 d2 sb → Hid (Calls Tryd.prog 41 #[.agg #[.bool R1, .slice P1 m1 d1], .agg #[.bool R2, .slice P2 m2 d2]] V fun e w' => ∃ rr AA mm cc, e = .returned (.tuple #[.agg #[.bool rr, .slice AA mm cc], .int .i64 0]) ∧ NumAt w' rr AA mm cc ri ∧ mm ≤ 48 ∧ Below V.heap.size V w') := fun V k k2 => Lib.hid ((rem_at V k k2 (by omega) (by omega) HY.out).mono fun e w' hq => (HR.out ▸ hq).yes DR.out)
  have MOD : ∀ V, NumAt V R1 P1 m1 d1 sa → NumAt V R2 P2 m2 d2 sb → Hid (Calls Tryd.prog 42 #[.agg #[.bool R1, .slice P1 m1 d1], .agg #[.bool R2, .slice P2 m2 d2]] V fun e w' => ∃ rr AA mm cc, e = .returned (.tuple #[.agg #[.bool rr, .slice AA mm cc], .int .i64 0]) ∧ NumAt w' rr AA mm cc s ∧ mm ≤ 48 ∧ Below V.heap.size V w') := fun V k k2 => Lib.hid ((mod_at V k k2 (by omega) (by omega) HY.out).mono fun e w' hq => (HS.out ▸ hq).yes DS.out)
  have MUL : ∀ V rq Aq mq cq, NumAt V rq Aq mq cq q → mq ≤ 48 → NumAt V R2 P2 m2 d2 sb → Hid (Calls Tryd.prog 38 #[.agg #[.bool rq, .slice Aq mq cq], .agg #[.bool R2, .slice P2 m2 d2]] V fun e w' => ∃ rr AA mm cc, e = .returned (.tuple #[.agg #[.bool rr, .slice AA mm cc], .int .i64 0]) ∧ NumAt w' rr AA mm cc (q * sb) ∧ mm ≤ 48 ∧ Below V.heap.size V w') := fun V rq Aq mq cq k hm k2 => Lib.hid ((mul_at V k k2 (by omega) (by omega)).mono fun e w' hq => hq.yes DP.out)
  have ADD : ∀ V rp Ap mp cp rr Ar mr cr, NumAt V rp Ap mp cp (q * sb) → mp ≤ 48 → NumAt V rr Ar mr cr ri → mr ≤ 48 → Hid (Calls Tryd.prog 35 #[.agg #[.bool rp, .slice Ap mp cp], .agg #[.bool rr, .slice Ar mr cr]] V fun e w' => ∃ rr AA mm cc, e = .returned (.tuple #[.agg #[.bool rr, .slice AA mm cc], .int .i64 0]) ∧ NumAt w' rr AA mm cc sa ∧ mm ≤ 48 ∧ Below V.heap.size V w') := fun V rp Ap mp cp rr Ar mr cr k hm k2 hm2 => Lib.hid ((add_at V k k2 (by omega) (by omega)).mono fun e w' hq => (EQ.out ▸ hq).yes dx.out)
  have CX : ∀ V rx Ax mx cx, NumAt V rx Ax mx cx sa → mx ≤ 48 → NumAt V R1 P1 m1 d1 sa → Hid (Calls Tryd.prog 31 #[.agg #[.bool rx, .slice Ax mx cx], .agg #[.bool R1, .slice P1 m1 d1]] V fun e w' => e = .returned (.int .i64 0) ∧ Below V.heap.size V w') := fun V rx Ax mx cx k hm k1 => Lib.hid ((cmp_at V k k1 (by omega) (by omega)).mono fun e w' ⟨he, hb⟩ => ⟨by rw [he, cmpI_eq rfl], hb⟩)
  have SUB : ∀ V rs As ms cs rr Ar mr cr, NumAt V rs As ms cs s → ms ≤ 48 → NumAt V rr Ar mr cr ri → mr ≤ 48 → Hid (Calls Tryd.prog 36 #[.agg #[.bool rs, .slice As ms cs], .agg #[.bool rr, .slice Ar mr cr]] V fun e w' => ∃ rr AA mm cc, e = .returned (.tuple #[.agg #[.bool rr, .slice AA mm cc], .int .i64 0]) ∧ NumAt w' rr AA mm cc (s - ri) ∧ mm ≤ 48 ∧ Below V.heap.size V w') := fun V rs As ms cs rr Ar mr cr k hm k2 hm2 => Lib.hid ((sub_at V k k2 (by omega) (by omega)).mono fun e w' hq => hq.yes DD.out)
  have k1 := K2.out.fst
  have k2 := K2.out.snd
  go_wp2_with fail
  rw [← HX.out]
  refine ((SY _ Q2).out).mono ?_
  rintro e y0 ⟨rfl, b0⟩
  replace T1 := T1.below' b0
  replace T2 := T2.below' b0
  replace Q1 := Q1.below b0
  replace Q2 := Q2.below b0
  replace B := below_then B b0
  clear k1 k2 b0 K1 K2 HX f1 f2 f3 f4
  have k1 := T1.fst
  have k2 := T1.snd
  have k3 := T2.fst
  have k4 := T2.snd
  go_wp2_with fail
  refine ((QUO _ Q1 Q2).out).mono ?_
  rintro e y5 ⟨rq, Aq, mq, cq, rfl, Nq, lq, b5⟩
  have ba := below_al (Below.refl y5.heap.size y5) (.cells #[.bool rq, .slice Aq mq cq] 24)
  have bb := below_then b5 ba
  replace T1 := T1.below' bb
  replace T2 := T2.below' bb
  replace Q1 := Q1.below bb
  replace Q2 := Q2.below bb
  replace B := below_then B bb
  have Tq := Two.made y5 24 (.bool rq) (.slice Aq mq cq)
  replace Nq := Nq.below ba
  clear k1 k2 k3 k4 b5 ba bb QUO
  have k1 := T1.fst
  have k2 := T1.snd
  have k3 := T2.fst
  have k4 := T2.snd
  go_wp2_with fail
  refine ((REM _ Q1 Q2).out).mono ?_
  rintro e y6 ⟨rr, Ar, mr, cr, rfl, Nr, lr, b6⟩
  have ba := below_al (Below.refl y6.heap.size y6) (.cells #[.bool rr, .slice Ar mr cr] 24)
  have bb := below_then b6 ba
  replace T1 := T1.below' bb
  replace T2 := T2.below' bb
  replace Q1 := Q1.below bb
  replace Q2 := Q2.below bb
  replace B := below_then B bb
  replace Tq := Tq.below' bb
  replace Nq := Nq.below bb
  have Tr := Two.made y6 24 (.bool rr) (.slice Ar mr cr)
  replace Nr := Nr.below ba
  clear k1 k2 k3 k4 b6 ba bb REM
  have k1 := T1.fst
  have k2 := T1.snd
  have k3 := T2.fst
  have k4 := T2.snd
  go_wp2_with fail
  refine ((MOD _ Q1 Q2).out).mono ?_
  rintro e y7 ⟨rs, As, ms, cs, rfl, Ns, ls, b7⟩
  have ba := below_al (Below.refl y7.heap.size y7) (.cells #[.bool rs, .slice As ms cs] 24)
  have bb := below_then b7 ba
  replace T1 := T1.below' bb
  replace T2 := T2.below' bb
  replace Q1 := Q1.below bb
  replace Q2 := Q2.below bb
  replace B := below_then B bb
  replace Tq := Tq.below' bb
  replace Nq := Nq.below bb
  replace Tr := Tr.below' bb
  replace Nr := Nr.below bb
  have Ts := Two.made y7 24 (.bool rs) (.slice As ms cs)
  replace Ns := Ns.below ba
  clear k1 k2 k3 k4 b7 ba bb MOD
  have k1 := Tq.fst
  have k2 := Tq.snd
  have k3 := T2.fst
  have k4 := T2.snd
  go_wp2_with fail
  refine ((MUL _ _ _ _ _ Nq lq Q2).out).mono ?_
  rintro e y8 ⟨rp, Ap, mp, cp, rfl, Np, lp, b8⟩
  have ba := below_al (Below.refl y8.heap.size y8) (.cells #[.bool rp, .slice Ap mp cp] 24)
  have bb := below_then b8 ba
  replace T1 := T1.below' bb
  replace T2 := T2.below' bb
  replace Q1 := Q1.below bb
  replace Q2 := Q2.below bb
  replace B := below_then B bb
  replace Tq := Tq.below' bb
  replace Nq := Nq.below bb
  replace Tr := Tr.below' bb
  replace Nr := Nr.below bb
  replace Ts := Ts.below' bb
  replace Ns := Ns.below bb
  have Tp := Two.made y8 24 (.bool rp) (.slice Ap mp cp)
  replace Np := Np.below ba
  clear k1 k2 k3 k4 b8 ba bb MUL
  have k1 := Tp.fst
  have k2 := Tp.snd
  have k3 := Tr.fst
  have k4 := Tr.snd
  go_wp2_with fail
  refine ((ADD _ _ _ _ _ _ _ _ _ Np lp Nr lr).out).mono ?_
  rintro e y9 ⟨rx, Ax, mx, cx, rfl, Nx, lxx, b9⟩
  have ba := below_al (Below.refl y9.heap.size y9) (.cells #[.bool rx, .slice Ax mx cx] 24)
  have bb := below_then b9 ba
  replace T1 := T1.below' bb
  replace T2 := T2.below' bb
  replace Q1 := Q1.below bb
  replace Q2 := Q2.below bb
  replace B := below_then B bb
  replace Tq := Tq.below' bb
  replace Nq := Nq.below bb
  replace Tr := Tr.below' bb
  replace Nr := Nr.below bb
  replace Ts := Ts.below' bb
  replace Ns := Ns.below bb
  replace Tp := Tp.below' bb
  replace Np := Np.below bb
  have Tx := Two.made y9 24 (.bool rx) (.slice Ax mx cx)
  replace Nx := Nx.below ba
  clear k1 k2 k3 k4 b9 ba bb ADD
  have k1 := Tx.fst
  have k2 := Tx.snd
  have k3 := T1.fst
  have k4 := T1.snd
  go_wp2_with fail
  refine ((CX _ _ _ _ _ Nx lxx Q1).out).mono ?_
  rintro e v ⟨rfl, bb⟩
  replace Tr := Tr.below' bb
  replace Nr := Nr.below bb
  replace Ts := Ts.below' bb
  replace Ns := Ns.below bb
  replace T1 := T1.below' bb
  replace T2 := T2.below' bb
  replace Q1 := Q1.below bb
  replace Q2 := Q2.below bb
  replace B := below_then B bb
  clear k1 k2 k3 k4 bb Tq Tp Tx Nq Np Nx lq lp lxx DP DQ EQ
  have LR' := LR.out
  have LS' := LS.out
  have AB : ∀ X, Below v.heap.size v X → ∀ b A m c, Hid (Calls Tryd.prog 50 #[.agg #[.bool b, .slice A m c]] X fun e w' => e = .returned (.agg #[.bool false, .slice A m c]) ∧ Below v.heap.size v w') := fun X hb b A m c => Lib.hid ((abs_any b A m c X).mono fun e w' ⟨he, hw⟩ => ⟨he, below_then hb hw⟩)
  have CR : ∀ X, Below v.heap.size v X → Hid (Calls Tryd.prog 31 #[.agg #[.bool false, .slice Ar mr cr], .agg #[.bool false, .slice P2 m2 d2]] X fun e w' => e = .returned (.int .i64 (-1)) ∧ Below v.heap.size v w') := fun X hb => Lib.hid ((cmp_at X (NumAt.abs (Nr.below hb)) (NumAt.abs (Q2.below hb)) (by omega) (by omega)).mono fun e w' ⟨he, hw⟩ => ⟨by rw [he, cmpI_lt (by omega)], below_then hb hw⟩)
  have CS : ∀ X, Below v.heap.size v X → Hid (Calls Tryd.prog 31 #[.agg #[.bool false, .slice As ms cs], .agg #[.bool false, .slice P2 m2 d2]] X fun e w' => e = .returned (.int .i64 (-1)) ∧ Below v.heap.size v w') := fun X hb => Lib.hid ((cmp_at X (NumAt.abs (Ns.below hb)) (NumAt.abs (Q2.below hb)) (by omega) (by omega)).mono fun e w' ⟨he, hw⟩ => ⟨by rw [he, cmpI_lt (by omega)], below_then hb hw⟩)
  have GR : ∀ X, Below v.heap.size v X → Hid (Calls Tryd.prog 27 #[.agg #[.bool rr, .slice Ar mr cr]] X fun e w' => e = .returned (.int .i64 (-1)) ∧ Below v.heap.size v w') := fun X hb => Lib.hid ((sign_at X (Nr.below hb) (by omega)).mono fun e w' ⟨he, hw⟩ => ⟨by rw [he, HU.out], below_then hb hw⟩)
  have GS : ∀ X, Below v.heap.size v X → Hid (Calls Tryd.prog 27 #[.agg #[.bool rs, .slice As ms cs]] X fun e w' => e = .returned (.int .i64 1) ∧ Below v.heap.size v w') := fun X hb => Lib.hid ((sign_at X (Ns.below hb) (by omega)).mono fun e w' ⟨he, hw⟩ => ⟨by rw [he, HT.out], below_then hb hw⟩)
  have GB : ∀ X, Below v.heap.size v X → Hid (Calls Tryd.prog 27 #[.agg #[.bool R2, .slice P2 m2 d2]] X fun e w' => e = .returned (.int .i64 1) ∧ Below v.heap.size v w') := fun X hb => Lib.hid ((sign_at X (Q2.below hb) (by omega)).mono fun e w' ⟨he, hw⟩ => ⟨by rw [he, HG.out], below_then hb hw⟩)
  have GA : ∀ X, Below v.heap.size v X → Hid (Calls Tryd.prog 27 #[.agg #[.bool R1, .slice P1 m1 d1]] X fun e w' => e = .returned (.int .i64 (-1)) ∧ Below v.heap.size v w') := fun X hb => Lib.hid ((sign_at X (Q1.below hb) (by omega)).mono fun e w' ⟨he, hw⟩ => ⟨by rw [he, HH.out], below_then hb hw⟩)
  have KS : ∀ X, Below v.heap.size v X → (Below v.heap.size v X ∧ X.cell? ⟨y6.heap.size, 0, none⟩ = some (.bool rr) ∧ X.cell? ⟨y6.heap.size, 1, none⟩ = some (.slice Ar mr cr) ∧ X.cell? ⟨w.heap.size + 1, 0, none⟩ = some (.bool R2) ∧ X.cell? ⟨w.heap.size + 1, 1, none⟩ = some (.slice P2 m2 d2) ∧ X.cell? ⟨y7.heap.size, 0, none⟩ = some (.bool rs) ∧ X.cell? ⟨y7.heap.size, 1, none⟩ = some (.slice As ms cs) ∧ X.cell? ⟨w.heap.size, 0, none⟩ = some (.bool R1) ∧ X.cell? ⟨w.heap.size, 1, none⟩ = some (.slice P1 m1 d1)) := fun X hb => ⟨hb, (Tr.below' hb).fst, (Tr.below' hb).snd, (T2.below' hb).fst, (T2.below' hb).snd, (Ts.below' hb).fst, (Ts.below' hb).snd, (T1.below' hb).fst, (T1.below' hb).snd⟩
  have hm1 : (decide ((-1 : Int) ≥ 0)) = false := by decide
  have BZ : Below v.heap.size v v := Below.refl _ _
  have k1 := Tr.fst
  have k2 := Tr.snd
  have k3 := T2.fst
  have k4 := T2.snd
  have k5 := Ts.fst
  have k6 := Ts.snd
  have k7 := T1.fst
  have k8 := T1.snd
  have HN := Lib.hid (And.intro Nr (And.intro Ns Q2))
  clear LR' LS' Nr Ns Q1 Q2 HU HT HH SY
  go_wp2_with fail
  refine wp_region_held_drew (S := fun X => Below v.heap.size v X ∧ X.cell? ⟨y6.heap.size, 0, none⟩ = some (.bool rr) ∧ X.cell? ⟨y6.heap.size, 1, none⟩ = some (.slice Ar mr cr) ∧ X.cell? ⟨w.heap.size + 1, 0, none⟩ = some (.bool R2) ∧ X.cell? ⟨w.heap.size + 1, 1, none⟩ = some (.slice P2 m2 d2) ∧ X.cell? ⟨y7.heap.size, 0, none⟩ = some (.bool rs) ∧ X.cell? ⟨y7.heap.size, 1, none⟩ = some (.slice As ms cs) ∧ X.cell? ⟨w.heap.size, 0, none⟩ = some (.bool R1) ∧ X.cell? ⟨w.heap.size, 1, none⟩ = some (.slice P1 m1 d1)) (by kernel_rfl) ?_ (fun hHeld => ?_)
  · (try dsimp only)
    exact KS _ (by first | assumption | exact Below.drew (by assumption))
  refine wpAnyH_take (i := 0) (v := ?_) rfl (by kernel_rfl) (by kernel_rfl) (by kernel_rfl) (fun _ _ _ h => h) (Or.inl ⟨by rfl, ?_⟩) (by assumption) ?_
  rotate_left
  · intro w hSw
    (try dsimp only at hSw)
    go_simp
    all_goals with_reducible rfl
  try simp only [Act.put, List.setIfInBounds_toArray, List.set_cons_zero, List.set_cons_succ]
  refine wpAnyH_take (i := 2) (v := ?_) rfl (by kernel_rfl) (by kernel_rfl) (by kernel_rfl) (fun _ _ _ h => h) (Or.inl ⟨by rfl, ?_⟩) (by assumption) ?_
  rotate_left
  · intro w hSw
    (try dsimp only at hSw)
    go_simp
    all_goals with_reducible rfl
  try simp only [Act.put, List.setIfInBounds_toArray, List.set_cons_zero, List.set_cons_succ]
  refine wpAnyH_ready (rs := [1]) (by kernel_rfl) (by simp) ?_
  refine AllReadyH.cons rfl (fun K hK => ?_) AllReadyH.nil
  go_simp
  go_at_call 50
  with_reducible refine ((AB _ (by first | assumption | exact Below.drew (by assumption)) _ _ _ _).out).mono ?_
  rintro e w' ⟨rfl, bb⟩
  go_wp2_with fail
  refine hK.out _ _ ?_ (fun hH2 => ?_)
  · (try dsimp only)
    exact KS _ (by first | assumption | exact Below.drew (by assumption))
  clear hK K hHeld
  have hHeld := hH2
  clear hH2
  try simp only [Act.put, List.setIfInBounds_toArray, List.set_cons_zero, List.set_cons_succ]
  refine wpAnyH_ready (rs := [3]) (by kernel_rfl) (by simp) ?_
  refine AllReadyH.cons rfl (fun K hK => ?_) AllReadyH.nil
  go_simp
  go_at_call 50
  with_reducible refine ((AB _ (by first | assumption | exact Below.drew (by assumption)) _ _ _ _).out).mono ?_
  rintro e w' ⟨rfl, bb⟩
  go_wp2_with fail
  refine hK.out _ _ ?_ (fun hH2 => ?_)
  · (try dsimp only)
    exact KS _ (by first | assumption | exact Below.drew (by assumption))
  clear hK K hHeld
  have hHeld := hH2
  clear hH2
  try simp only [Act.put, List.setIfInBounds_toArray, List.set_cons_zero, List.set_cons_succ]
  refine wpAnyH_ready (rs := [4]) (by kernel_rfl) (by simp) ?_
  refine AllReadyH.cons rfl (fun K hK => ?_) AllReadyH.nil
  go_simp
  go_at_call 31
  with_reducible refine ((CR _ (by first | assumption | exact Below.drew (by assumption)) ).out).mono ?_
  rintro e w' ⟨rfl, bb⟩
  go_wp2_with fail
  refine hK.out _ _ ?_ (fun hH2 => ?_)
  · (try dsimp only)
    exact KS _ (by first | assumption | exact Below.drew (by assumption))
  clear hK K hHeld
  have hHeld := hH2
  clear hH2
  try simp only [Act.put, List.setIfInBounds_toArray, List.set_cons_zero, List.set_cons_succ]
  refine wpAnyH_take (i := 5) (v := ?_) rfl (by kernel_rfl) (by kernel_rfl) (by kernel_rfl) (fun _ _ _ h => h) (Or.inl ⟨by rfl, ?_⟩) (by assumption) ?_
  rotate_left
  · intro w hSw
    (try dsimp only at hSw)
    go_simp
    all_goals with_reducible rfl
  try simp only [Act.put, List.setIfInBounds_toArray, List.set_cons_zero, List.set_cons_succ]
  refine wpAnyH_take (i := 6) (v := ?_) rfl (by kernel_rfl) (by kernel_rfl) (by kernel_rfl) (fun _ _ _ h => h) (Or.inl ⟨by rfl, ?_⟩) (by assumption) ?_
  rotate_left
  · intro w hSw
    (try dsimp only at hSw)
    go_simp
    all_goals with_reducible rfl
  try simp only [Act.put, List.setIfInBounds_toArray, List.set_cons_zero, List.set_cons_succ]
  refine wpAnyH_take (i := 7) (v := ?_) rfl (by kernel_rfl) (by kernel_rfl) (by kernel_rfl) (fun _ _ _ h => h) (Or.inl ⟨by rfl, ?_⟩) (by assumption) ?_
  rotate_left
  · intro w hSw
    (try dsimp only at hSw)
    go_simp
    all_goals with_reducible rfl
  try simp only [Act.put, List.setIfInBounds_toArray, List.set_cons_zero, List.set_cons_succ]
  refine wpAnyH_take (i := 9) (v := ?_) rfl (by kernel_rfl) (by kernel_rfl) (by kernel_rfl) (fun _ _ _ h => h) (Or.inl ⟨by rfl, ?_⟩) (by assumption) ?_
  rotate_left
  · intro w hSw
    (try dsimp only at hSw)
    go_simp
    all_goals with_reducible rfl
  try simp only [Act.put, List.setIfInBounds_toArray, List.set_cons_zero, List.set_cons_succ]
  refine wpAnyH_ready (rs := [8]) (by kernel_rfl) (by simp) ?_
  refine AllReadyH.cons rfl (fun K hK => ?_) AllReadyH.nil
  go_simp
  go_at_call 50
  with_reducible refine ((AB _ (by first | assumption | exact Below.drew (by assumption)) _ _ _ _).out).mono ?_
  rintro e w' ⟨rfl, bb⟩
  go_wp2_with fail
  refine hK.out _ _ ?_ (fun hH2 => ?_)
  · (try dsimp only)
    exact KS _ (by first | assumption | exact Below.drew (by assumption))
  clear hK K hHeld
  have hHeld := hH2
  clear hH2
  try simp only [Act.put, List.setIfInBounds_toArray, List.set_cons_zero, List.set_cons_succ]
  refine wpAnyH_ready (rs := [10]) (by kernel_rfl) (by simp) ?_
  refine AllReadyH.cons rfl (fun K hK => ?_) AllReadyH.nil
  go_simp
  go_at_call 50
  with_reducible refine ((AB _ (by first | assumption | exact Below.drew (by assumption)) _ _ _ _).out).mono ?_
  rintro e w' ⟨rfl, bb⟩
  go_wp2_with fail
  refine hK.out _ _ ?_ (fun hH2 => ?_)
  · (try dsimp only)
    exact KS _ (by first | assumption | exact Below.drew (by assumption))
  clear hK K hHeld
  have hHeld := hH2
  clear hH2
  try simp only [Act.put, List.setIfInBounds_toArray, List.set_cons_zero, List.set_cons_succ]
  refine wpAnyH_ready (rs := [11]) (by kernel_rfl) (by simp) ?_
  refine AllReadyH.cons rfl (fun K hK => ?_) AllReadyH.nil
  go_simp
  go_at_call 31
  with_reducible refine ((CS _ (by first | assumption | exact Below.drew (by assumption)) ).out).mono ?_
  rintro e w' ⟨rfl, bb⟩
  go_wp2_with fail
  refine hK.out _ _ ?_ (fun hH2 => ?_)
  · (try dsimp only)
    exact KS _ (by first | assumption | exact Below.drew (by assumption))
  clear hK K hHeld
  have hHeld := hH2
  clear hH2
  try simp only [Act.put, List.setIfInBounds_toArray, List.set_cons_zero, List.set_cons_succ]
  refine wpAnyH_take (i := 12) (v := ?_) rfl (by kernel_rfl) (by kernel_rfl) (by kernel_rfl) (fun _ _ _ h => h) (Or.inl ⟨by rfl, ?_⟩) (by assumption) ?_
  rotate_left
  · intro w hSw
    (try dsimp only at hSw)
    go_simp
    all_goals with_reducible rfl
  try simp only [Act.put, List.setIfInBounds_toArray, List.set_cons_zero, List.set_cons_succ]
  refine wpAnyH_take (i := 13) (v := ?_) rfl (by kernel_rfl) (by kernel_rfl) (by kernel_rfl) (fun _ _ _ h => h) (Or.inl ⟨by rfl, ?_⟩) (by assumption) ?_
  rotate_left
  · intro w hSw
    (try dsimp only at hSw)
    go_simp
    all_goals with_reducible rfl
  try simp only [Act.put, List.setIfInBounds_toArray, List.set_cons_zero, List.set_cons_succ]
  refine wpAnyH_take (i := 14) (v := ?_) rfl (by kernel_rfl) (by kernel_rfl) (by kernel_rfl) (fun _ _ _ h => h) (Or.inl ⟨by rfl, ?_⟩) (by assumption) ?_
  rotate_left
  · intro w hSw
    (try dsimp only at hSw)
    go_simp
    all_goals with_reducible rfl
  try simp only [Act.put, List.setIfInBounds_toArray, List.set_cons_zero, List.set_cons_succ]
  refine wpAnyH_take (i := 15) (v := ?_) rfl (by kernel_rfl) (by kernel_rfl) (by kernel_rfl) (fun _ _ _ h => h) (Or.inl ⟨by rfl, ?_⟩) (by assumption) ?_
  rotate_left
  · intro w hSw
    (try dsimp only at hSw)
    go_simp
    all_goals with_reducible rfl
  try simp only [Act.put, List.setIfInBounds_toArray, List.set_cons_zero, List.set_cons_succ]
  refine wpAnyH_ready (rs := [16]) (by kernel_rfl) (by simp) ?_
  refine AllReadyH.cons rfl (fun K hK => ?_) AllReadyH.nil
  go_simp
  go_at_call 27
  with_reducible refine ((GR _ (by first | assumption | exact Below.drew (by assumption)) ).out).mono ?_
  rintro e w' ⟨rfl, bb⟩
  go_wp2_with fail
  refine hK.out _ _ ?_ (fun hH2 => ?_)
  · (try dsimp only)
    exact KS _ (by first | assumption | exact Below.drew (by assumption))
  clear hK K hHeld
  have hHeld := hH2
  clear hH2
  try simp only [Act.put, List.setIfInBounds_toArray, List.set_cons_zero, List.set_cons_succ]
  refine wpAnyH_take (i := 17) (v := ?_) rfl (by kernel_rfl) (by kernel_rfl) (by kernel_rfl) (fun _ _ _ h => h) (Or.inl ⟨by rfl, ?_⟩) (by assumption) ?_
  rotate_left
  · intro w hSw
    (try dsimp only at hSw)
    go_simp
    all_goals with_reducible rfl
  try simp only [Act.put, List.setIfInBounds_toArray, List.set_cons_zero, List.set_cons_succ]
  refine wpAnyH_take (i := 18) (v := ?_) rfl (by kernel_rfl) (by kernel_rfl) (by kernel_rfl) (fun _ _ _ h => h) (Or.inl ⟨by rfl, ?_⟩) (by assumption) ?_
  rotate_left
  · intro w hSw
    (try dsimp only at hSw)
    go_simp
    all_goals with_reducible rfl
  try simp only [Act.put, List.setIfInBounds_toArray, List.set_cons_zero, List.set_cons_succ]
  refine wpAnyH_take (i := 19) (v := ?_) rfl (by kernel_rfl) (by kernel_rfl) (by kernel_rfl) (fun _ _ _ h => h) (Or.inl ⟨by rfl, ?_⟩) (by assumption) ?_
  rotate_left
  · intro w hSw
    (try dsimp only at hSw)
    go_simp
    all_goals with_reducible rfl
  try simp only [Act.put, List.setIfInBounds_toArray, List.set_cons_zero, List.set_cons_succ]
  refine wpAnyH_take (i := 21) (v := ?_) rfl (by kernel_rfl) (by kernel_rfl) (by kernel_rfl) (fun _ _ _ h => h) (Or.inl ⟨by rfl, ?_⟩) (by assumption) ?_
  rotate_left
  · intro w hSw
    (try dsimp only at hSw)
    go_simp
    all_goals with_reducible rfl
  try simp only [Act.put, List.setIfInBounds_toArray, List.set_cons_zero, List.set_cons_succ]
  refine wpAnyH_ready (rs := [20]) (by kernel_rfl) (by simp) ?_
  refine AllReadyH.cons rfl (fun K hK => ?_) AllReadyH.nil
  go_simp
  go_at_call 27
  with_reducible refine ((GR _ (by first | assumption | exact Below.drew (by assumption)) ).out).mono ?_
  rintro e w' ⟨rfl, bb⟩
  go_wp2_with fail
  refine hK.out _ _ ?_ (fun hH2 => ?_)
  · (try dsimp only)
    exact KS _ (by first | assumption | exact Below.drew (by assumption))
  clear hK K hHeld
  have hHeld := hH2
  clear hH2
  try simp only [Act.put, List.setIfInBounds_toArray, List.set_cons_zero, List.set_cons_succ]
  refine wpAnyH_ready (rs := [22]) (by kernel_rfl) (by simp) ?_
  refine AllReadyH.cons rfl (fun K hK => ?_) AllReadyH.nil
  go_simp
  go_at_call 27
  with_reducible refine ((GA _ (by first | assumption | exact Below.drew (by assumption)) ).out).mono ?_
  rintro e w' ⟨rfl, bb⟩
  go_wp2_with fail
  refine hK.out _ _ ?_ (fun hH2 => ?_)
  · (try dsimp only)
    exact KS _ (by first | assumption | exact Below.drew (by assumption))
  clear hK K hHeld
  have hHeld := hH2
  clear hH2
  try simp only [Act.put, List.setIfInBounds_toArray, List.set_cons_zero, List.set_cons_succ]
  refine wpAnyH_take (i := 23) (v := ?_) rfl (by kernel_rfl) (by kernel_rfl) (by kernel_rfl) (fun _ _ _ h => h) (Or.inl ⟨by rfl, ?_⟩) (by assumption) ?_
  rotate_left
  · intro w hSw
    (try dsimp only at hSw)
    go_simp
    all_goals with_reducible rfl
  try simp only [Act.put, List.setIfInBounds_toArray, List.set_cons_zero, List.set_cons_succ]
  refine wpAnyH_take (i := 24) (v := ?_) rfl (by kernel_rfl) (by kernel_rfl) (by kernel_rfl) (fun _ _ _ h => h) (Or.inl ⟨by rfl, ?_⟩) (by assumption) ?_
  rotate_left
  · intro w hSw
    (try dsimp only at hSw)
    go_simp
    all_goals with_reducible rfl
  try simp only [Act.put, List.setIfInBounds_toArray, List.set_cons_zero, List.set_cons_succ]
  refine wpAnyH_take (i := 25) (v := ?_) rfl (by kernel_rfl) (by kernel_rfl) (by kernel_rfl) (fun _ _ _ h => h) (Or.inl ⟨by rfl, ?_⟩) (by assumption) ?_
  rotate_left
  · intro w hSw
    (try dsimp only at hSw)
    go_simp
    all_goals with_reducible rfl
  try simp only [Act.put, List.setIfInBounds_toArray, List.set_cons_zero, List.set_cons_succ]
  refine wpAnyH_take (i := 26) (v := ?_) rfl (by kernel_rfl) (by kernel_rfl) (by kernel_rfl) (fun _ _ _ h => h) (Or.inl ⟨by rfl, ?_⟩) (by assumption) ?_
  rotate_left
  · intro w hSw
    (try dsimp only at hSw)
    go_simp
    all_goals with_reducible rfl
  try simp only [Act.put, List.setIfInBounds_toArray, List.set_cons_zero, List.set_cons_succ]
  refine wpAnyH_take (i := 27) (v := ?_) rfl (by kernel_rfl) (by kernel_rfl) (by kernel_rfl) (fun _ _ _ h => h) (Or.inl ⟨by rfl, ?_⟩) (by assumption) ?_
  rotate_left
  · intro w hSw
    (try dsimp only at hSw)
    go_simp
    all_goals with_reducible rfl
  try simp only [Act.put, List.setIfInBounds_toArray, List.set_cons_zero, List.set_cons_succ]
  refine wpAnyH_ready (rs := [28]) (by kernel_rfl) (by simp) ?_
  refine AllReadyH.cons rfl (fun K hK => ?_) AllReadyH.nil
  go_simp
  go_at_call 27
  with_reducible refine ((GS _ (by first | assumption | exact Below.drew (by assumption)) ).out).mono ?_
  rintro e w' ⟨rfl, bb⟩
  go_wp2_with fail
  refine hK.out _ _ ?_ (fun hH2 => ?_)
  · (try dsimp only)
    exact KS _ (by first | assumption | exact Below.drew (by assumption))
  clear hK K hHeld
  have hHeld := hH2
  clear hH2
  try simp only [Act.put, List.setIfInBounds_toArray, List.set_cons_zero, List.set_cons_succ]
  refine wpAnyH_take (i := 29) (v := ?_) rfl (by kernel_rfl) (by kernel_rfl) (by kernel_rfl) (fun _ _ _ h => h) (Or.inl ⟨by rfl, ?_⟩) (by assumption) ?_
  rotate_left
  · intro w hSw
    (try dsimp only at hSw)
    go_simp
    all_goals with_reducible rfl
  try simp only [Act.put, List.setIfInBounds_toArray, List.set_cons_zero, List.set_cons_succ]
  refine wpAnyH_take (i := 30) (v := ?_) rfl (by kernel_rfl) (by kernel_rfl) (by kernel_rfl) (fun _ _ _ h => h) (Or.inl ⟨by rfl, ?_⟩) (by assumption) ?_
  rotate_left
  · intro w hSw
    (try dsimp only at hSw)
    go_simp
    all_goals with_reducible rfl
  try simp only [Act.put, List.setIfInBounds_toArray, List.set_cons_zero, List.set_cons_succ]
  refine wpAnyH_take (i := 31) (v := ?_) rfl (by kernel_rfl) (by kernel_rfl) (by kernel_rfl) (fun _ _ _ h => h) (Or.inl ⟨by rfl, ?_⟩) (by assumption) ?_
  rotate_left
  · intro w hSw
    (try dsimp only at hSw)
    go_simp
    all_goals with_reducible rfl
  try simp only [Act.put, List.setIfInBounds_toArray, List.set_cons_zero, List.set_cons_succ]
  refine wpAnyH_take (i := 33) (v := ?_) rfl (by kernel_rfl) (by kernel_rfl) (by kernel_rfl) (fun _ _ _ h => h) (Or.inl ⟨by rfl, ?_⟩) (by assumption) ?_
  rotate_left
  · intro w hSw
    (try dsimp only at hSw)
    go_simp
    all_goals with_reducible rfl
  try simp only [Act.put, List.setIfInBounds_toArray, List.set_cons_zero, List.set_cons_succ]
  refine wpAnyH_ready (rs := [32]) (by kernel_rfl) (by simp) ?_
  refine AllReadyH.cons rfl (fun K hK => ?_) AllReadyH.nil
  go_simp
  go_at_call 27
  with_reducible refine ((GS _ (by first | assumption | exact Below.drew (by assumption)) ).out).mono ?_
  rintro e w' ⟨rfl, bb⟩
  go_wp2_with fail
  refine hK.out _ _ ?_ (fun hH2 => ?_)
  · (try dsimp only)
    exact KS _ (by first | assumption | exact Below.drew (by assumption))
  clear hK K hHeld
  have hHeld := hH2
  clear hH2
  try simp only [Act.put, List.setIfInBounds_toArray, List.set_cons_zero, List.set_cons_succ]
  refine wpAnyH_ready (rs := [34]) (by kernel_rfl) (by simp) ?_
  refine AllReadyH.cons rfl (fun K hK => ?_) AllReadyH.nil
  go_simp
  go_at_call 27
  with_reducible refine ((GB _ (by first | assumption | exact Below.drew (by assumption)) ).out).mono ?_
  rintro e w' ⟨rfl, bb⟩
  go_wp2_with fail
  refine hK.out _ _ ?_ (fun hH2 => ?_)
  · (try dsimp only)
    exact KS _ (by first | assumption | exact Below.drew (by assumption))
  clear hK K hHeld
  have hHeld := hH2
  clear hH2
  try simp only [Act.put, List.setIfInBounds_toArray, List.set_cons_zero, List.set_cons_succ]
  refine wpAnyH_take (i := 35) (v := ?_) rfl (by kernel_rfl) (by kernel_rfl) (by kernel_rfl) (fun _ _ _ h => h) (Or.inl ⟨by rfl, ?_⟩) (by assumption) ?_
  rotate_left
  · intro w hSw
    (try dsimp only at hSw)
    go_simp
    all_goals with_reducible rfl
  try simp only [Act.put, List.setIfInBounds_toArray, List.set_cons_zero, List.set_cons_succ]
  refine wpAnyH_take (i := 36) (v := ?_) rfl (by kernel_rfl) (by kernel_rfl) (by kernel_rfl) (fun _ _ _ h => h) (Or.inl ⟨by rfl, ?_⟩) (by assumption) ?_
  rotate_left
  · intro w hSw
    (try dsimp only at hSw)
    go_simp
    all_goals with_reducible rfl
  try simp only [Act.put, List.setIfInBounds_toArray, List.set_cons_zero, List.set_cons_succ]
  refine wpAnyH_take (i := 37) (v := ?_) rfl (by kernel_rfl) (by kernel_rfl) (by kernel_rfl) (fun _ _ _ h => h) (Or.inl ⟨by rfl, ?_⟩) (by assumption) ?_
  rotate_left
  · intro w hSw
    (try dsimp only at hSw)
    go_simp
    all_goals with_reducible rfl
  try simp only [Act.put, List.setIfInBounds_toArray, List.set_cons_zero, List.set_cons_succ]
  refine wpAnyH_done (by kernel_rfl) ?_ _
  have ⟨hbX, p1, p2, p3, p4, p5, p6, p7, p8⟩ := hHeld
  clear hHeld k1 k2 k3 k4 k5 k6 k7 k8 AB CR CS GR GS GB GA KS
  have NX := HN.out
  go_wp2_with fail
  refine ((SUB _ _ _ _ _ _ _ _ _ (NX.2.1.below hbX) ls (NX.1.below hbX) lr).out).mono ?_
  rintro e z1 ⟨rd, Ad, md, cd, rfl, Nd, ld, bd⟩
  have ba := below_al (Below.refl z1.heap.size z1) (.cells #[.bool rd, .slice Ad md cd] 24)
  have b9 := below_then hbX (below_then bd ba)
  have Td := Two.made z1 24 (.bool rd) (.slice Ad md cd)
  replace Nd := Nd.below ba
  have N2 := NX.2.2.below b9
  replace T2 := T2.below' b9
  replace B := below_then B b9
  clear p1 p2 p3 p4 p5 p6 p7 p8 NX hbX bd ba b9 T1 Tr Ts SUB
  have k1 := Td.fst
  have k2 := Td.snd
  rcases CD.out with e9 | e9
  · rw [e9] at Nd
    have SD := Lib.hid ((sign_at _ Nd (by omega)).mono fun e w' ⟨he, hb⟩ => (⟨by rw [he, cmpI_eq rfl], hb⟩ : e = Ending.returned (.int .i64 0) ∧ Below _ _ w'))
    go_wp2_with fail
    refine (SD.out).mono ?_
    rintro e z2 ⟨rfl, b10⟩
    go_wp2_with fail
    refine ((AW _ (below_then B b10)).out).mono ?_
    rintro e ye ⟨rfl, be⟩
    go_wp2
    go_ret
    exact ⟨rfl, be⟩
  · rw [e9] at Nd
    have SD := Lib.hid ((sign_at _ Nd (by omega)).mono fun e w' ⟨he, hb⟩ => (⟨by rw [he, HG.out], hb⟩ : e = Ending.returned (.int .i64 1) ∧ Below _ _ w'))
    go_wp2_with fail
    refine (SD.out).mono ?_
    rintro e z2 ⟨rfl, b10⟩
    replace Td := Td.below' b10
    replace T2 := T2.below' b10
    replace B := below_then B b10
    have CE := Lib.hid ((cmp_at z2 (Nd.below b10) (N2.below b10) (by omega) (by omega)).mono fun e w' ⟨he, hb⟩ => (⟨by rw [he, cmpI_eq rfl], hb⟩ : e = Ending.returned (.int .i64 0) ∧ Below _ _ w'))
    clear k1 k2 b10
    have k1 := Td.fst
    have k2 := Td.snd
    have k3 := T2.fst
    have k4 := T2.snd
    go_wp2_with fail
    refine (CE.out).mono ?_
    rintro e z3 ⟨rfl, b11⟩
    go_wp2_with fail
    refine ((AW _ (below_then B b11)).out).mono ?_
    rintro e ye ⟨rfl, be⟩
    go_wp2
    go_ret
    exact ⟨rfl, be⟩
set_option maxHeartbeats 12800000 in
set_option maxRecDepth 100000 in
theorem main_nn (r1 r2 : Bool) (A1 A2 : Option Addr) (n1 c1 n2 c2 : Nat) (sa sb : Int) (w : World) (ht : Tab w) (h1 : NumAt w r1 A1 n1 c1 sa) (h2 : NumAt w r2 A2 n2 c2 sb) (l1 : n1 ≤ 60) (l2 : n2 ≤ 60) (hy : sb ≠ 0) (hU : Hid (cmpI (Int.tmod sa sb) 0 = (-1) ∧ cmpI sa 0 = (-1))) (hT : Hid (cmpI (Int.fmod sa sb) 0 = (-1) ∧ cmpI sb 0 = (-1))) (HVA : Hid (resV sa = 0)) (HVB : Hid (resV sb = 0)) :
    Calls Tryd.prog 12 #[.agg #[.bool r1, .slice A1 n1 c1], .agg #[.bool r2, .slice A2 n2 c2]] w fun e w' => e = .returned (.bool true) ∧ Below w.heap.size w w' := by
  obtain ⟨W, hW⟩ : ∃ W, W = (w.alloc (.cells #[.bool r1, .slice A1 n1 c1] 24)).alloc (.cells #[.bool r2, .slice A2 n2 c2] 24) := ⟨_, rfl⟩
  obtain ⟨t1, t2, hbW, hWs⟩ := boxes24 w _ _ _ _ W hW
  have LA := fun W => Lib.hid (long_no r1 A1 n1 c1 l1 W)
  have LB := fun W => Lib.hid (long_no r2 A2 n2 c2 l2 W)
  have F1 : ∀ V, Agr2 w.heap.size w V → Hid (Firm2 (fun V => NumAt V r1 A1 n1 c1 sa) w.heap.size V) := fun V h => Lib.hid ((firm_old2 h1).step h)
  have F2 : ∀ V, Agr2 w.heap.size w V → Hid (Firm2 (fun V => NumAt V r2 A2 n2 c2 sb) w.heap.size V) := fun V h => Lib.hid ((firm_old2 h2).step h)
  have AW : ∀ V, Below w.heap.size w V → Hid (Calls Tryd.prog 18 #[] V fun e w' => e = .returned (.bool true) ∧ Below w.heap.size w w') :=
    fun V hb => Lib.hid ((awake_any V (ht.below hb)).mono fun e w' ⟨he, hw⟩ => ⟨he, below_then hb hw⟩)
  have k1 := t1.fst
  have k2 := t1.snd
  clear h1 h2 ht
  go_enter Tryd.func12, Tryd.ntmps12
  go_wp2_with fail
  rw [← hW]
  have HW := Lib.hid hW
  have HWS := Lib.hid hWs
  clear hW hWs
  refine ((LA _).out).mono ?_
  rintro e v1 ⟨rfl, b1⟩
  replace t1 := t1.below' b1
  replace t2 := t2.below' b1
  clear k1 k2
  have k1 := t2.fst
  have k2 := t2.snd
  go_wp2_with fail
  refine ((LB _).out).mono ?_
  rintro e v2 ⟨rfl, b2⟩
  replace t1 := t1.below' b2
  replace t2 := t2.below' b2
  have B3 : Below w.heap.size w v2 := below_then (below_then hbW b1) b2
  have S3 : w.heap.size + 2 ≤ v2.heap.size := by have := HWS.out; have := b1.size; have := b2.size; omega
  clear k1 k2 b1 b2 hbW LA LB
  have k1 := t1.fst
  have k2 := t1.snd
  go_wp2_with fail
  have NT := Lib.hid (norm_tells (g := w.heap.size) (F1 _ (Agr2.of_below B3)).out.out (by omega) S3 0 HVA.out)
  refine (NT.out).mono ?_
  clear NT
  rintro e y1 ⟨R1, P1, m1, d1, rfl, G1, b1⟩
  replace t1 := t1.below' b1
  replace t2 := t2.below' b1
  clear k1 k2
  have f1 := t1.free 0
  have f2 := t1.free 1
  have f3 := t1.fst
  have f4 := t1.snd
  have AG := Agr2.set2 (g := w.heap.size) (b := w.heap.size) y1 (.bool R1) (.slice P1 m1 d1) (by omega) (by omega)
  have BX1 : Below w.heap.size w ((y1.setCell ⟨w.heap.size, 0, none⟩ (.bool R1)).setCell ⟨w.heap.size, 1, none⟩ (.slice P1 m1 d1)) := below_two (below_then B3 b1) (by omega)
  have SX1 : w.heap.size + 2 ≤ ((y1.setCell ⟨w.heap.size, 0, none⟩ (.bool R1)).setCell ⟨w.heap.size, 1, none⟩ (.slice P1 m1 d1)).heap.size := by have := b1.size; simp; omega
  replace G1 := G1.step AG
  have u1 : Two ((y1.setCell ⟨w.heap.size, 0, none⟩ (.bool R1)).setCell ⟨w.heap.size, 1, none⟩ (.slice P1 m1 d1)) (w.heap.size) 24 (.bool R1) (.slice P1 m1 d1) := t1.set2
  have u2 := Two.far2 (b := w.heap.size) (u' := .bool R1) (v' := .slice P1 m1 d1) t2 (by omega)
  have k1 := u2.fst
  have k2 := u2.snd
  go_wp2_with fail
  obtain ⟨X1, hX⟩ : ∃ X, X = ((y1.setCell ⟨w.heap.size, 0, none⟩ (.bool R1)).setCell ⟨w.heap.size, 1, none⟩ (.slice P1 m1 d1)) := ⟨_, rfl⟩
  rw [← hX]
  rw [← hX] at AG BX1 SX1 u1 u2 k1 k2 G1
  clear hX t1 t2 AG f1 f2 f3 f4 b1 B3 S3
  have t1 := u1
  have t2 := u2
  clear u1 u2
  have NT := Lib.hid (norm_tells (g := w.heap.size) (F2 _ (Agr2.of_below BX1)).out.out (by omega) SX1 0 HVB.out)
  refine (NT.out).mono ?_
  clear NT
  rintro e y2 ⟨R2, P2, m2, d2, rfl, G2, b2⟩
  replace t1 := t1.below' b2
  replace t2 := t2.below' b2
  replace G1 := G1.step (Agr2.of_below b2)
  clear k1 k2
  have f1 := t2.free 0
  have f2 := t2.free 1
  have f3 := t2.fst
  have f4 := t2.snd
  have AG := Agr2.set2 (g := w.heap.size) (b := w.heap.size + 1) y2 (.bool R2) (.slice P2 m2 d2) (by omega) (by omega)
  have BX2 : Below w.heap.size w ((y2.setCell ⟨w.heap.size + 1, 0, none⟩ (.bool R2)).setCell ⟨w.heap.size + 1, 1, none⟩ (.slice P2 m2 d2)) := below_two (below_then BX1 b2) (by omega)
  have SX2 : w.heap.size + 2 ≤ ((y2.setCell ⟨w.heap.size + 1, 0, none⟩ (.bool R2)).setCell ⟨w.heap.size + 1, 1, none⟩ (.slice P2 m2 d2)).heap.size := by have := b2.size; simp; omega
  replace G1 := G1.step AG
  replace G2 := G2.step AG
  have u1 := Two.far2 (b := w.heap.size + 1) (u' := .bool R2) (v' := .slice P2 m2 d2) t1 (by omega)
  have u2 : Two ((y2.setCell ⟨w.heap.size + 1, 0, none⟩ (.bool R2)).setCell ⟨w.heap.size + 1, 1, none⟩ (.slice P2 m2 d2)) (w.heap.size + 1) 24 (.bool R2) (.slice P2 m2 d2) := t2.set2
  obtain ⟨X, hX⟩ : ∃ X, X = ((y2.setCell ⟨w.heap.size + 1, 0, none⟩ (.bool R2)).setCell ⟨w.heap.size + 1, 1, none⟩ (.slice P2 m2 d2)) := ⟨_, rfl⟩
  have Q1 := hX ▸ G1.out
  have Q2 := hX ▸ G2.out
  have T1 := hX ▸ u1
  have T2 := hX ▸ u2
  have B := hX ▸ BX2
  have K1 := Lib.hid u1
  have K2 := Lib.hid u2
  have HX := Lib.hid hX
  clear hX G1 G2 AG b2 BX1 SX1 SX2 t1 t2 BX2 F1 F2
  clear u1 u2
  rw [resZ_of0 HVA.out] at Q1
  rw [resZ_of0 HVB.out] at Q2
  have lx : m1 ≤ 48 := Q1.le
  have ly : m2 ≤ 48 := Q2.le
  replace Q1 := Q1.at
  replace Q2 := Q2.at
  have HY := Lib.hid hy
  have dx : Hid (dl sa.natAbs ≤ 48) := Lib.hid (by have := NumAt.dl Q1; omega)
  have dy : Hid (dl sb.natAbs ≤ 48) := Lib.hid (by have := NumAt.dl Q2; omega)
  obtain ⟨q, hq⟩ : ∃ q, Int.tdiv sa sb = q := ⟨_, rfl⟩
  obtain ⟨ri, hr⟩ : ∃ ri, Int.tmod sa sb = ri := ⟨_, rfl⟩
  obtain ⟨s, hs⟩ : ∃ s, Int.fmod sa sb = s := ⟨_, rfl⟩
  obtain ⟨g, hg⟩ : ∃ g, cmpI sb 0 = g := ⟨_, rfl⟩
  obtain ⟨h, hh⟩ : ∃ h, cmpI sa 0 = h := ⟨_, rfl⟩
  obtain ⟨u, hu⟩ : ∃ u, cmpI ri 0 = u := ⟨_, rfl⟩
  obtain ⟨t, ht⟩ : ∃ t, cmpI s 0 = t := ⟨_, rfl⟩
  have hg0 : (g == 0) = false := by rw [← hg]; exact sgn_nz hy
  have DQ : Hid (dl q.natAbs ≤ 48) := Lib.hid (by rw [← hq]; exact div_fits dx.out)
  have LR : Hid (ri.natAbs < sb.natAbs) := Lib.hid (by rw [← hr]; exact tmod_less hy)
  have LS : Hid (s.natAbs < sb.natAbs) := Lib.hid (by rw [← hs]; exact fmod_less hy)
  have DR : Hid (dl ri.natAbs ≤ 48) := Lib.hid (Nat.le_trans (dl_mono (Nat.le_of_lt LR.out)) dy.out)
  have DS : Hid (dl s.natAbs ≤ 48) := Lib.hid (Nat.le_trans (dl_mono (Nat.le_of_lt LS.out)) dy.out)
  have EQ : Hid (q * sb + ri = sa) := Lib.hid (by have := Int.mul_tdiv_add_tmod sa sb; rw [hq, hr] at this; rw [Int.mul_comm]; exact this)
  have DP : Hid (dl (q * sb).natAbs ≤ 48) := Lib.hid (by
    refine Nat.le_trans (dl_mono ?_) dx.out
    rw [Int.natAbs_mul, ← hq, Int.natAbs_tdiv]
    exact Nat.div_mul_le_self _ _)
  have CD : Hid (s - ri = 0 ∨ s - ri = sb) := Lib.hid (by rw [← hs, ← hr]; exact fmod_tmod hy)
  obtain rfl : u = (-1) := by rw [← hu, ← hr]; exact hU.out.1
  obtain rfl : h = (-1) := by rw [← hh]; exact hU.out.2
  obtain rfl : t = (-1) := by rw [← ht, ← hs]; exact hT.out.1
  obtain rfl : g = (-1) := by rw [← hg]; exact hT.out.2
  have HQ := Lib.hid hq
  have HR := Lib.hid hr
  have HS := Lib.hid hs
  have HG := Lib.hid hg
  have HH := Lib.hid hh
  have HU := Lib.hid hu
  have HT := Lib.hid ht
  clear hq hr hs hg hh hu ht hy
  have DD : Hid (dl (s - ri).natAbs ≤ 48) := Lib.hid (by
    rcases CD.out with e | e
    · rw [e]; decide
    · rw [e]; exact dy.out)
  have SY : ∀ V, NumAt V R2 P2 m2 d2 sb → Hid (Calls Tryd.prog 27 #[.agg #[.bool R2, .slice P2 m2 d2]] V fun e w' => e = .returned (.int .i64 (-1)) ∧ Below V.heap.size V w') := fun V k => Lib.hid ((sign_at V k (by omega)).mono fun e w' ⟨he, hb⟩ => ⟨by rw [he, HG.out], hb⟩)
  have QUO : ∀ V, NumAt V R1 P1 m1 d1 sa → NumAt V R2 P2 m2 d2 sb → Hid (Calls Tryd.prog 40 #[.agg #[.bool R1, .slice P1 m1 d1], .agg #[.bool R2, .slice P2 m2 d2]] V fun e w' => ∃ rr AA mm cc, e = .returned (.tuple #[.agg #[.bool rr, .slice AA mm cc], .int .i64 0]) ∧ NumAt w' rr AA mm cc q ∧ mm ≤ 48 ∧ Below V.heap.size V w') := fun V k k2 => Lib.hid ((quo_at V k k2 (by omega) (by omega) HY.out).mono fun e w' hq => (HQ.out ▸ hq).yes DQ.out)
  have REM : ∀ V, NumAt V R1 P1 m1 d1 sa → NumAt V R2 P2 m2 d2 sb → Hid (Calls Tryd.prog 41 #[.agg #[.bool R1, .slice P1 m1 d1], .agg #[.bool R2, .slice P2 m2 d2]] V fun e w' => ∃ rr AA mm cc, e = .returned (.tuple #[.agg #[.bool rr, .slice AA mm cc], .int .i64 0]) ∧ NumAt w' rr AA mm cc ri ∧ mm ≤ 48 ∧ Below V.heap.size V w') := fun V k k2 => Lib.hid ((rem_at V k k2 (by omega) (by omega) HY.out).mono fun e w' hq => (HR.out ▸ hq).yes DR.out)
  have MOD : ∀ V, NumAt V R1 P1 m1 d1 sa → NumAt V R2 P2 m2 d2 sb → Hid (Calls Tryd.prog 42 #[.agg #[.bool R1, .slice P1 m1 d1], .agg #[.bool R2, .slice P2 m2 d2]] V fun e w' => ∃ rr AA mm cc, e = .returned (.tuple #[.agg #[.bool rr, .slice AA mm cc], .int .i64 0]) ∧ NumAt w' rr AA mm cc s ∧ mm ≤ 48 ∧ Below V.heap.size V w') := fun V k k2 => Lib.hid ((mod_at V k k2 (by omega) (by omega) HY.out).mono fun e w' hq => (HS.out ▸ hq).yes DS.out)
  have MUL : ∀ V rq Aq mq cq, NumAt V rq Aq mq cq q → mq ≤ 48 → NumAt V R2 P2 m2 d2 sb → Hid (Calls Tryd.prog 38 #[.agg #[.bool rq, .slice Aq mq cq], .agg #[.bool R2, .slice P2 m2 d2]] V fun e w' => ∃ rr AA mm cc, e = .returned (.tuple #[.agg #[.bool rr, .slice AA mm cc], .int .i64 0]) ∧ NumAt w' rr AA mm cc (q * sb) ∧ mm ≤ 48 ∧ Below V.heap.size V w') := fun V rq Aq mq cq k hm k2 => Lib.hid ((mul_at V k k2 (by omega) (by omega)).mono fun e w' hq => hq.yes DP.out)
  have ADD : ∀ V rp Ap mp cp rr Ar mr cr, NumAt V rp Ap mp cp (q * sb) → mp ≤ 48 → NumAt V rr Ar mr cr ri → mr ≤ 48 → Hid (Calls Tryd.prog 35 #[.agg #[.bool rp, .slice Ap mp cp], .agg #[.bool rr, .slice Ar mr cr]] V fun e w' => ∃ rr AA mm cc, e = .returned (.tuple #[.agg #[.bool rr, .slice AA mm cc], .int .i64 0]) ∧ NumAt w' rr AA mm cc sa ∧ mm ≤ 48 ∧ Below V.heap.size V w') := fun V rp Ap mp cp rr Ar mr cr k hm k2 hm2 => Lib.hid ((add_at V k k2 (by omega) (by omega)).mono fun e w' hq => (EQ.out ▸ hq).yes dx.out)
  have CX : ∀ V rx Ax mx cx, NumAt V rx Ax mx cx sa → mx ≤ 48 → NumAt V R1 P1 m1 d1 sa → Hid (Calls Tryd.prog 31 #[.agg #[.bool rx, .slice Ax mx cx], .agg #[.bool R1, .slice P1 m1 d1]] V fun e w' => e = .returned (.int .i64 0) ∧ Below V.heap.size V w') := fun V rx Ax mx cx k hm k1 => Lib.hid ((cmp_at V k k1 (by omega) (by omega)).mono fun e w' ⟨he, hb⟩ => ⟨by rw [he, cmpI_eq rfl], hb⟩)
  have SUB : ∀ V rs As ms cs rr Ar mr cr, NumAt V rs As ms cs s → ms ≤ 48 → NumAt V rr Ar mr cr ri → mr ≤ 48 → Hid (Calls Tryd.prog 36 #[.agg #[.bool rs, .slice As ms cs], .agg #[.bool rr, .slice Ar mr cr]] V fun e w' => ∃ rr AA mm cc, e = .returned (.tuple #[.agg #[.bool rr, .slice AA mm cc], .int .i64 0]) ∧ NumAt w' rr AA mm cc (s - ri) ∧ mm ≤ 48 ∧ Below V.heap.size V w') := fun V rs As ms cs rr Ar mr cr k hm k2 hm2 => Lib.hid ((sub_at V k k2 (by omega) (by omega)).mono fun e w' hq => hq.yes DD.out)
  have k1 := K2.out.fst
  have k2 := K2.out.snd
  go_wp2_with fail
  rw [← HX.out]
  refine ((SY _ Q2).out).mono ?_
  rintro e y0 ⟨rfl, b0⟩
  replace T1 := T1.below' b0
  replace T2 := T2.below' b0
  replace Q1 := Q1.below b0
  replace Q2 := Q2.below b0
  replace B := below_then B b0
  clear k1 k2 b0 K1 K2 HX f1 f2 f3 f4
  have k1 := T1.fst
  have k2 := T1.snd
  have k3 := T2.fst
  have k4 := T2.snd
  go_wp2_with fail
  refine ((QUO _ Q1 Q2).out).mono ?_
  rintro e y5 ⟨rq, Aq, mq, cq, rfl, Nq, lq, b5⟩
  have ba := below_al (Below.refl y5.heap.size y5) (.cells #[.bool rq, .slice Aq mq cq] 24)
  have bb := below_then b5 ba
  replace T1 := T1.below' bb
  replace T2 := T2.below' bb
  replace Q1 := Q1.below bb
  replace Q2 := Q2.below bb
  replace B := below_then B bb
  have Tq := Two.made y5 24 (.bool rq) (.slice Aq mq cq)
  replace Nq := Nq.below ba
  clear k1 k2 k3 k4 b5 ba bb QUO
  have k1 := T1.fst
  have k2 := T1.snd
  have k3 := T2.fst
  have k4 := T2.snd
  go_wp2_with fail
  refine ((REM _ Q1 Q2).out).mono ?_
  rintro e y6 ⟨rr, Ar, mr, cr, rfl, Nr, lr, b6⟩
  have ba := below_al (Below.refl y6.heap.size y6) (.cells #[.bool rr, .slice Ar mr cr] 24)
  have bb := below_then b6 ba
  replace T1 := T1.below' bb
  replace T2 := T2.below' bb
  replace Q1 := Q1.below bb
  replace Q2 := Q2.below bb
  replace B := below_then B bb
  replace Tq := Tq.below' bb
  replace Nq := Nq.below bb
  have Tr := Two.made y6 24 (.bool rr) (.slice Ar mr cr)
  replace Nr := Nr.below ba
  clear k1 k2 k3 k4 b6 ba bb REM
  have k1 := T1.fst
  have k2 := T1.snd
  have k3 := T2.fst
  have k4 := T2.snd
  go_wp2_with fail
  refine ((MOD _ Q1 Q2).out).mono ?_
  rintro e y7 ⟨rs, As, ms, cs, rfl, Ns, ls, b7⟩
  have ba := below_al (Below.refl y7.heap.size y7) (.cells #[.bool rs, .slice As ms cs] 24)
  have bb := below_then b7 ba
  replace T1 := T1.below' bb
  replace T2 := T2.below' bb
  replace Q1 := Q1.below bb
  replace Q2 := Q2.below bb
  replace B := below_then B bb
  replace Tq := Tq.below' bb
  replace Nq := Nq.below bb
  replace Tr := Tr.below' bb
  replace Nr := Nr.below bb
  have Ts := Two.made y7 24 (.bool rs) (.slice As ms cs)
  replace Ns := Ns.below ba
  clear k1 k2 k3 k4 b7 ba bb MOD
  have k1 := Tq.fst
  have k2 := Tq.snd
  have k3 := T2.fst
  have k4 := T2.snd
  go_wp2_with fail
  refine ((MUL _ _ _ _ _ Nq lq Q2).out).mono ?_
  rintro e y8 ⟨rp, Ap, mp, cp, rfl, Np, lp, b8⟩
  have ba := below_al (Below.refl y8.heap.size y8) (.cells #[.bool rp, .slice Ap mp cp] 24)
  have bb := below_then b8 ba
  replace T1 := T1.below' bb
  replace T2 := T2.below' bb
  replace Q1 := Q1.below bb
  replace Q2 := Q2.below bb
  replace B := below_then B bb
  replace Tq := Tq.below' bb
  replace Nq := Nq.below bb
  replace Tr := Tr.below' bb
  replace Nr := Nr.below bb
  replace Ts := Ts.below' bb
  replace Ns := Ns.below bb
  have Tp := Two.made y8 24 (.bool rp) (.slice Ap mp cp)
  replace Np := Np.below ba
  clear k1 k2 k3 k4 b8 ba bb MUL
  have k1 := Tp.fst
  have k2 := Tp.snd
  have k3 := Tr.fst
  have k4 := Tr.snd
  go_wp2_with fail
  refine ((ADD _ _ _ _ _ _ _ _ _ Np lp Nr lr).out).mono ?_
  rintro e y9 ⟨rx, Ax, mx, cx, rfl, Nx, lxx, b9⟩
  have ba := below_al (Below.refl y9.heap.size y9) (.cells #[.bool rx, .slice Ax mx cx] 24)
  have bb := below_then b9 ba
  replace T1 := T1.below' bb
  replace T2 := T2.below' bb
  replace Q1 := Q1.below bb
  replace Q2 := Q2.below bb
  replace B := below_then B bb
  replace Tq := Tq.below' bb
  replace Nq := Nq.below bb
  replace Tr := Tr.below' bb
  replace Nr := Nr.below bb
  replace Ts := Ts.below' bb
  replace Ns := Ns.below bb
  replace Tp := Tp.below' bb
  replace Np := Np.below bb
  have Tx := Two.made y9 24 (.bool rx) (.slice Ax mx cx)
  replace Nx := Nx.below ba
  clear k1 k2 k3 k4 b9 ba bb ADD
  have k1 := Tx.fst
  have k2 := Tx.snd
  have k3 := T1.fst
  have k4 := T1.snd
  go_wp2_with fail
  refine ((CX _ _ _ _ _ Nx lxx Q1).out).mono ?_
  rintro e v ⟨rfl, bb⟩
  replace Tr := Tr.below' bb
  replace Nr := Nr.below bb
  replace Ts := Ts.below' bb
  replace Ns := Ns.below bb
  replace T1 := T1.below' bb
  replace T2 := T2.below' bb
  replace Q1 := Q1.below bb
  replace Q2 := Q2.below bb
  replace B := below_then B bb
  clear k1 k2 k3 k4 bb Tq Tp Tx Nq Np Nx lq lp lxx DP DQ EQ
  have LR' := LR.out
  have LS' := LS.out
  have AB : ∀ X, Below v.heap.size v X → ∀ b A m c, Hid (Calls Tryd.prog 50 #[.agg #[.bool b, .slice A m c]] X fun e w' => e = .returned (.agg #[.bool false, .slice A m c]) ∧ Below v.heap.size v w') := fun X hb b A m c => Lib.hid ((abs_any b A m c X).mono fun e w' ⟨he, hw⟩ => ⟨he, below_then hb hw⟩)
  have CR : ∀ X, Below v.heap.size v X → Hid (Calls Tryd.prog 31 #[.agg #[.bool false, .slice Ar mr cr], .agg #[.bool false, .slice P2 m2 d2]] X fun e w' => e = .returned (.int .i64 (-1)) ∧ Below v.heap.size v w') := fun X hb => Lib.hid ((cmp_at X (NumAt.abs (Nr.below hb)) (NumAt.abs (Q2.below hb)) (by omega) (by omega)).mono fun e w' ⟨he, hw⟩ => ⟨by rw [he, cmpI_lt (by omega)], below_then hb hw⟩)
  have CS : ∀ X, Below v.heap.size v X → Hid (Calls Tryd.prog 31 #[.agg #[.bool false, .slice As ms cs], .agg #[.bool false, .slice P2 m2 d2]] X fun e w' => e = .returned (.int .i64 (-1)) ∧ Below v.heap.size v w') := fun X hb => Lib.hid ((cmp_at X (NumAt.abs (Ns.below hb)) (NumAt.abs (Q2.below hb)) (by omega) (by omega)).mono fun e w' ⟨he, hw⟩ => ⟨by rw [he, cmpI_lt (by omega)], below_then hb hw⟩)
  have GR : ∀ X, Below v.heap.size v X → Hid (Calls Tryd.prog 27 #[.agg #[.bool rr, .slice Ar mr cr]] X fun e w' => e = .returned (.int .i64 (-1)) ∧ Below v.heap.size v w') := fun X hb => Lib.hid ((sign_at X (Nr.below hb) (by omega)).mono fun e w' ⟨he, hw⟩ => ⟨by rw [he, HU.out], below_then hb hw⟩)
  have GS : ∀ X, Below v.heap.size v X → Hid (Calls Tryd.prog 27 #[.agg #[.bool rs, .slice As ms cs]] X fun e w' => e = .returned (.int .i64 (-1)) ∧ Below v.heap.size v w') := fun X hb => Lib.hid ((sign_at X (Ns.below hb) (by omega)).mono fun e w' ⟨he, hw⟩ => ⟨by rw [he, HT.out], below_then hb hw⟩)
  have GB : ∀ X, Below v.heap.size v X → Hid (Calls Tryd.prog 27 #[.agg #[.bool R2, .slice P2 m2 d2]] X fun e w' => e = .returned (.int .i64 (-1)) ∧ Below v.heap.size v w') := fun X hb => Lib.hid ((sign_at X (Q2.below hb) (by omega)).mono fun e w' ⟨he, hw⟩ => ⟨by rw [he, HG.out], below_then hb hw⟩)
  have GA : ∀ X, Below v.heap.size v X → Hid (Calls Tryd.prog 27 #[.agg #[.bool R1, .slice P1 m1 d1]] X fun e w' => e = .returned (.int .i64 (-1)) ∧ Below v.heap.size v w') := fun X hb => Lib.hid ((sign_at X (Q1.below hb) (by omega)).mono fun e w' ⟨he, hw⟩ => ⟨by rw [he, HH.out], below_then hb hw⟩)
  have KS : ∀ X, Below v.heap.size v X → (Below v.heap.size v X ∧ X.cell? ⟨y6.heap.size, 0, none⟩ = some (.bool rr) ∧ X.cell? ⟨y6.heap.size, 1, none⟩ = some (.slice Ar mr cr) ∧ X.cell? ⟨w.heap.size + 1, 0, none⟩ = some (.bool R2) ∧ X.cell? ⟨w.heap.size + 1, 1, none⟩ = some (.slice P2 m2 d2) ∧ X.cell? ⟨y7.heap.size, 0, none⟩ = some (.bool rs) ∧ X.cell? ⟨y7.heap.size, 1, none⟩ = some (.slice As ms cs) ∧ X.cell? ⟨w.heap.size, 0, none⟩ = some (.bool R1) ∧ X.cell? ⟨w.heap.size, 1, none⟩ = some (.slice P1 m1 d1)) := fun X hb => ⟨hb, (Tr.below' hb).fst, (Tr.below' hb).snd, (T2.below' hb).fst, (T2.below' hb).snd, (Ts.below' hb).fst, (Ts.below' hb).snd, (T1.below' hb).fst, (T1.below' hb).snd⟩
  have hm1 : (decide ((-1 : Int) ≥ 0)) = false := by decide
  have BZ : Below v.heap.size v v := Below.refl _ _
  have k1 := Tr.fst
  have k2 := Tr.snd
  have k3 := T2.fst
  have k4 := T2.snd
  have k5 := Ts.fst
  have k6 := Ts.snd
  have k7 := T1.fst
  have k8 := T1.snd
  have HN := Lib.hid (And.intro Nr (And.intro Ns Q2))
  clear LR' LS' Nr Ns Q1 Q2 HU HT HH SY
  go_wp2_with fail
  refine wp_region_held_drew (S := fun X => Below v.heap.size v X ∧ X.cell? ⟨y6.heap.size, 0, none⟩ = some (.bool rr) ∧ X.cell? ⟨y6.heap.size, 1, none⟩ = some (.slice Ar mr cr) ∧ X.cell? ⟨w.heap.size + 1, 0, none⟩ = some (.bool R2) ∧ X.cell? ⟨w.heap.size + 1, 1, none⟩ = some (.slice P2 m2 d2) ∧ X.cell? ⟨y7.heap.size, 0, none⟩ = some (.bool rs) ∧ X.cell? ⟨y7.heap.size, 1, none⟩ = some (.slice As ms cs) ∧ X.cell? ⟨w.heap.size, 0, none⟩ = some (.bool R1) ∧ X.cell? ⟨w.heap.size, 1, none⟩ = some (.slice P1 m1 d1)) (by kernel_rfl) ?_ (fun hHeld => ?_)
  · (try dsimp only)
    exact KS _ (by first | assumption | exact Below.drew (by assumption))
  refine wpAnyH_take (i := 0) (v := ?_) rfl (by kernel_rfl) (by kernel_rfl) (by kernel_rfl) (fun _ _ _ h => h) (Or.inl ⟨by rfl, ?_⟩) (by assumption) ?_
  rotate_left
  · intro w hSw
    (try dsimp only at hSw)
    go_simp
    all_goals with_reducible rfl
  try simp only [Act.put, List.setIfInBounds_toArray, List.set_cons_zero, List.set_cons_succ]
  refine wpAnyH_take (i := 2) (v := ?_) rfl (by kernel_rfl) (by kernel_rfl) (by kernel_rfl) (fun _ _ _ h => h) (Or.inl ⟨by rfl, ?_⟩) (by assumption) ?_
  rotate_left
  · intro w hSw
    (try dsimp only at hSw)
    go_simp
    all_goals with_reducible rfl
  try simp only [Act.put, List.setIfInBounds_toArray, List.set_cons_zero, List.set_cons_succ]
  refine wpAnyH_ready (rs := [1]) (by kernel_rfl) (by simp) ?_
  refine AllReadyH.cons rfl (fun K hK => ?_) AllReadyH.nil
  go_simp
  go_at_call 50
  with_reducible refine ((AB _ (by first | assumption | exact Below.drew (by assumption)) _ _ _ _).out).mono ?_
  rintro e w' ⟨rfl, bb⟩
  go_wp2_with fail
  refine hK.out _ _ ?_ (fun hH2 => ?_)
  · (try dsimp only)
    exact KS _ (by first | assumption | exact Below.drew (by assumption))
  clear hK K hHeld
  have hHeld := hH2
  clear hH2
  try simp only [Act.put, List.setIfInBounds_toArray, List.set_cons_zero, List.set_cons_succ]
  refine wpAnyH_ready (rs := [3]) (by kernel_rfl) (by simp) ?_
  refine AllReadyH.cons rfl (fun K hK => ?_) AllReadyH.nil
  go_simp
  go_at_call 50
  with_reducible refine ((AB _ (by first | assumption | exact Below.drew (by assumption)) _ _ _ _).out).mono ?_
  rintro e w' ⟨rfl, bb⟩
  go_wp2_with fail
  refine hK.out _ _ ?_ (fun hH2 => ?_)
  · (try dsimp only)
    exact KS _ (by first | assumption | exact Below.drew (by assumption))
  clear hK K hHeld
  have hHeld := hH2
  clear hH2
  try simp only [Act.put, List.setIfInBounds_toArray, List.set_cons_zero, List.set_cons_succ]
  refine wpAnyH_ready (rs := [4]) (by kernel_rfl) (by simp) ?_
  refine AllReadyH.cons rfl (fun K hK => ?_) AllReadyH.nil
  go_simp
  go_at_call 31
  with_reducible refine ((CR _ (by first | assumption | exact Below.drew (by assumption)) ).out).mono ?_
  rintro e w' ⟨rfl, bb⟩
  go_wp2_with fail
  refine hK.out _ _ ?_ (fun hH2 => ?_)
  · (try dsimp only)
    exact KS _ (by first | assumption | exact Below.drew (by assumption))
  clear hK K hHeld
  have hHeld := hH2
  clear hH2
  try simp only [Act.put, List.setIfInBounds_toArray, List.set_cons_zero, List.set_cons_succ]
  refine wpAnyH_take (i := 5) (v := ?_) rfl (by kernel_rfl) (by kernel_rfl) (by kernel_rfl) (fun _ _ _ h => h) (Or.inl ⟨by rfl, ?_⟩) (by assumption) ?_
  rotate_left
  · intro w hSw
    (try dsimp only at hSw)
    go_simp
    all_goals with_reducible rfl
  try simp only [Act.put, List.setIfInBounds_toArray, List.set_cons_zero, List.set_cons_succ]
  refine wpAnyH_take (i := 6) (v := ?_) rfl (by kernel_rfl) (by kernel_rfl) (by kernel_rfl) (fun _ _ _ h => h) (Or.inl ⟨by rfl, ?_⟩) (by assumption) ?_
  rotate_left
  · intro w hSw
    (try dsimp only at hSw)
    go_simp
    all_goals with_reducible rfl
  try simp only [Act.put, List.setIfInBounds_toArray, List.set_cons_zero, List.set_cons_succ]
  refine wpAnyH_take (i := 7) (v := ?_) rfl (by kernel_rfl) (by kernel_rfl) (by kernel_rfl) (fun _ _ _ h => h) (Or.inl ⟨by rfl, ?_⟩) (by assumption) ?_
  rotate_left
  · intro w hSw
    (try dsimp only at hSw)
    go_simp
    all_goals with_reducible rfl
  try simp only [Act.put, List.setIfInBounds_toArray, List.set_cons_zero, List.set_cons_succ]
  refine wpAnyH_take (i := 9) (v := ?_) rfl (by kernel_rfl) (by kernel_rfl) (by kernel_rfl) (fun _ _ _ h => h) (Or.inl ⟨by rfl, ?_⟩) (by assumption) ?_
  rotate_left
  · intro w hSw
    (try dsimp only at hSw)
    go_simp
    all_goals with_reducible rfl
  try simp only [Act.put, List.setIfInBounds_toArray, List.set_cons_zero, List.set_cons_succ]
  refine wpAnyH_ready (rs := [8]) (by kernel_rfl) (by simp) ?_
  refine AllReadyH.cons rfl (fun K hK => ?_) AllReadyH.nil
  go_simp
  go_at_call 50
  with_reducible refine ((AB _ (by first | assumption | exact Below.drew (by assumption)) _ _ _ _).out).mono ?_
  rintro e w' ⟨rfl, bb⟩
  go_wp2_with fail
  refine hK.out _ _ ?_ (fun hH2 => ?_)
  · (try dsimp only)
    exact KS _ (by first | assumption | exact Below.drew (by assumption))
  clear hK K hHeld
  have hHeld := hH2
  clear hH2
  try simp only [Act.put, List.setIfInBounds_toArray, List.set_cons_zero, List.set_cons_succ]
  refine wpAnyH_ready (rs := [10]) (by kernel_rfl) (by simp) ?_
  refine AllReadyH.cons rfl (fun K hK => ?_) AllReadyH.nil
  go_simp
  go_at_call 50
  with_reducible refine ((AB _ (by first | assumption | exact Below.drew (by assumption)) _ _ _ _).out).mono ?_
  rintro e w' ⟨rfl, bb⟩
  go_wp2_with fail
  refine hK.out _ _ ?_ (fun hH2 => ?_)
  · (try dsimp only)
    exact KS _ (by first | assumption | exact Below.drew (by assumption))
  clear hK K hHeld
  have hHeld := hH2
  clear hH2
  try simp only [Act.put, List.setIfInBounds_toArray, List.set_cons_zero, List.set_cons_succ]
  refine wpAnyH_ready (rs := [11]) (by kernel_rfl) (by simp) ?_
  refine AllReadyH.cons rfl (fun K hK => ?_) AllReadyH.nil
  go_simp
  go_at_call 31
  with_reducible refine ((CS _ (by first | assumption | exact Below.drew (by assumption)) ).out).mono ?_
  rintro e w' ⟨rfl, bb⟩
  go_wp2_with fail
  refine hK.out _ _ ?_ (fun hH2 => ?_)
  · (try dsimp only)
    exact KS _ (by first | assumption | exact Below.drew (by assumption))
  clear hK K hHeld
  have hHeld := hH2
  clear hH2
  try simp only [Act.put, List.setIfInBounds_toArray, List.set_cons_zero, List.set_cons_succ]
  refine wpAnyH_take (i := 12) (v := ?_) rfl (by kernel_rfl) (by kernel_rfl) (by kernel_rfl) (fun _ _ _ h => h) (Or.inl ⟨by rfl, ?_⟩) (by assumption) ?_
  rotate_left
  · intro w hSw
    (try dsimp only at hSw)
    go_simp
    all_goals with_reducible rfl
  try simp only [Act.put, List.setIfInBounds_toArray, List.set_cons_zero, List.set_cons_succ]
  refine wpAnyH_take (i := 13) (v := ?_) rfl (by kernel_rfl) (by kernel_rfl) (by kernel_rfl) (fun _ _ _ h => h) (Or.inl ⟨by rfl, ?_⟩) (by assumption) ?_
  rotate_left
  · intro w hSw
    (try dsimp only at hSw)
    go_simp
    all_goals with_reducible rfl
  try simp only [Act.put, List.setIfInBounds_toArray, List.set_cons_zero, List.set_cons_succ]
  refine wpAnyH_take (i := 14) (v := ?_) rfl (by kernel_rfl) (by kernel_rfl) (by kernel_rfl) (fun _ _ _ h => h) (Or.inl ⟨by rfl, ?_⟩) (by assumption) ?_
  rotate_left
  · intro w hSw
    (try dsimp only at hSw)
    go_simp
    all_goals with_reducible rfl
  try simp only [Act.put, List.setIfInBounds_toArray, List.set_cons_zero, List.set_cons_succ]
  refine wpAnyH_take (i := 15) (v := ?_) rfl (by kernel_rfl) (by kernel_rfl) (by kernel_rfl) (fun _ _ _ h => h) (Or.inl ⟨by rfl, ?_⟩) (by assumption) ?_
  rotate_left
  · intro w hSw
    (try dsimp only at hSw)
    go_simp
    all_goals with_reducible rfl
  try simp only [Act.put, List.setIfInBounds_toArray, List.set_cons_zero, List.set_cons_succ]
  refine wpAnyH_ready (rs := [16]) (by kernel_rfl) (by simp) ?_
  refine AllReadyH.cons rfl (fun K hK => ?_) AllReadyH.nil
  go_simp
  go_at_call 27
  with_reducible refine ((GR _ (by first | assumption | exact Below.drew (by assumption)) ).out).mono ?_
  rintro e w' ⟨rfl, bb⟩
  go_wp2_with fail
  refine hK.out _ _ ?_ (fun hH2 => ?_)
  · (try dsimp only)
    exact KS _ (by first | assumption | exact Below.drew (by assumption))
  clear hK K hHeld
  have hHeld := hH2
  clear hH2
  try simp only [Act.put, List.setIfInBounds_toArray, List.set_cons_zero, List.set_cons_succ]
  refine wpAnyH_take (i := 17) (v := ?_) rfl (by kernel_rfl) (by kernel_rfl) (by kernel_rfl) (fun _ _ _ h => h) (Or.inl ⟨by rfl, ?_⟩) (by assumption) ?_
  rotate_left
  · intro w hSw
    (try dsimp only at hSw)
    go_simp
    all_goals with_reducible rfl
  try simp only [Act.put, List.setIfInBounds_toArray, List.set_cons_zero, List.set_cons_succ]
  refine wpAnyH_take (i := 18) (v := ?_) rfl (by kernel_rfl) (by kernel_rfl) (by kernel_rfl) (fun _ _ _ h => h) (Or.inl ⟨by rfl, ?_⟩) (by assumption) ?_
  rotate_left
  · intro w hSw
    (try dsimp only at hSw)
    go_simp
    all_goals with_reducible rfl
  try simp only [Act.put, List.setIfInBounds_toArray, List.set_cons_zero, List.set_cons_succ]
  refine wpAnyH_take (i := 19) (v := ?_) rfl (by kernel_rfl) (by kernel_rfl) (by kernel_rfl) (fun _ _ _ h => h) (Or.inl ⟨by rfl, ?_⟩) (by assumption) ?_
  rotate_left
  · intro w hSw
    (try dsimp only at hSw)
    go_simp
    all_goals with_reducible rfl
  try simp only [Act.put, List.setIfInBounds_toArray, List.set_cons_zero, List.set_cons_succ]
  refine wpAnyH_take (i := 21) (v := ?_) rfl (by kernel_rfl) (by kernel_rfl) (by kernel_rfl) (fun _ _ _ h => h) (Or.inl ⟨by rfl, ?_⟩) (by assumption) ?_
  rotate_left
  · intro w hSw
    (try dsimp only at hSw)
    go_simp
    all_goals with_reducible rfl
  try simp only [Act.put, List.setIfInBounds_toArray, List.set_cons_zero, List.set_cons_succ]
  refine wpAnyH_ready (rs := [20]) (by kernel_rfl) (by simp) ?_
  refine AllReadyH.cons rfl (fun K hK => ?_) AllReadyH.nil
  go_simp
  go_at_call 27
  with_reducible refine ((GR _ (by first | assumption | exact Below.drew (by assumption)) ).out).mono ?_
  rintro e w' ⟨rfl, bb⟩
  go_wp2_with fail
  refine hK.out _ _ ?_ (fun hH2 => ?_)
  · (try dsimp only)
    exact KS _ (by first | assumption | exact Below.drew (by assumption))
  clear hK K hHeld
  have hHeld := hH2
  clear hH2
  try simp only [Act.put, List.setIfInBounds_toArray, List.set_cons_zero, List.set_cons_succ]
  refine wpAnyH_ready (rs := [22]) (by kernel_rfl) (by simp) ?_
  refine AllReadyH.cons rfl (fun K hK => ?_) AllReadyH.nil
  go_simp
  go_at_call 27
  with_reducible refine ((GA _ (by first | assumption | exact Below.drew (by assumption)) ).out).mono ?_
  rintro e w' ⟨rfl, bb⟩
  go_wp2_with fail
  refine hK.out _ _ ?_ (fun hH2 => ?_)
  · (try dsimp only)
    exact KS _ (by first | assumption | exact Below.drew (by assumption))
  clear hK K hHeld
  have hHeld := hH2
  clear hH2
  try simp only [Act.put, List.setIfInBounds_toArray, List.set_cons_zero, List.set_cons_succ]
  refine wpAnyH_take (i := 23) (v := ?_) rfl (by kernel_rfl) (by kernel_rfl) (by kernel_rfl) (fun _ _ _ h => h) (Or.inl ⟨by rfl, ?_⟩) (by assumption) ?_
  rotate_left
  · intro w hSw
    (try dsimp only at hSw)
    go_simp
    all_goals with_reducible rfl
  try simp only [Act.put, List.setIfInBounds_toArray, List.set_cons_zero, List.set_cons_succ]
  refine wpAnyH_take (i := 24) (v := ?_) rfl (by kernel_rfl) (by kernel_rfl) (by kernel_rfl) (fun _ _ _ h => h) (Or.inl ⟨by rfl, ?_⟩) (by assumption) ?_
  rotate_left
  · intro w hSw
    (try dsimp only at hSw)
    go_simp
    all_goals with_reducible rfl
  try simp only [Act.put, List.setIfInBounds_toArray, List.set_cons_zero, List.set_cons_succ]
  refine wpAnyH_take (i := 25) (v := ?_) rfl (by kernel_rfl) (by kernel_rfl) (by kernel_rfl) (fun _ _ _ h => h) (Or.inl ⟨by rfl, ?_⟩) (by assumption) ?_
  rotate_left
  · intro w hSw
    (try dsimp only at hSw)
    go_simp
    all_goals with_reducible rfl
  try simp only [Act.put, List.setIfInBounds_toArray, List.set_cons_zero, List.set_cons_succ]
  refine wpAnyH_take (i := 26) (v := ?_) rfl (by kernel_rfl) (by kernel_rfl) (by kernel_rfl) (fun _ _ _ h => h) (Or.inl ⟨by rfl, ?_⟩) (by assumption) ?_
  rotate_left
  · intro w hSw
    (try dsimp only at hSw)
    go_simp
    all_goals with_reducible rfl
  try simp only [Act.put, List.setIfInBounds_toArray, List.set_cons_zero, List.set_cons_succ]
  refine wpAnyH_take (i := 27) (v := ?_) rfl (by kernel_rfl) (by kernel_rfl) (by kernel_rfl) (fun _ _ _ h => h) (Or.inl ⟨by rfl, ?_⟩) (by assumption) ?_
  rotate_left
  · intro w hSw
    (try dsimp only at hSw)
    go_simp
    all_goals with_reducible rfl
  try simp only [Act.put, List.setIfInBounds_toArray, List.set_cons_zero, List.set_cons_succ]
  refine wpAnyH_ready (rs := [28]) (by kernel_rfl) (by simp) ?_
  refine AllReadyH.cons rfl (fun K hK => ?_) AllReadyH.nil
  go_simp
  go_at_call 27
  with_reducible refine ((GS _ (by first | assumption | exact Below.drew (by assumption)) ).out).mono ?_
  rintro e w' ⟨rfl, bb⟩
  go_wp2_with fail
  refine hK.out _ _ ?_ (fun hH2 => ?_)
  · (try dsimp only)
    exact KS _ (by first | assumption | exact Below.drew (by assumption))
  clear hK K hHeld
  have hHeld := hH2
  clear hH2
  try simp only [Act.put, List.setIfInBounds_toArray, List.set_cons_zero, List.set_cons_succ]
  refine wpAnyH_take (i := 29) (v := ?_) rfl (by kernel_rfl) (by kernel_rfl) (by kernel_rfl) (fun _ _ _ h => h) (Or.inl ⟨by rfl, ?_⟩) (by assumption) ?_
  rotate_left
  · intro w hSw
    (try dsimp only at hSw)
    go_simp
    all_goals with_reducible rfl
  try simp only [Act.put, List.setIfInBounds_toArray, List.set_cons_zero, List.set_cons_succ]
  refine wpAnyH_take (i := 30) (v := ?_) rfl (by kernel_rfl) (by kernel_rfl) (by kernel_rfl) (fun _ _ _ h => h) (Or.inl ⟨by rfl, ?_⟩) (by assumption) ?_
  rotate_left
  · intro w hSw
    (try dsimp only at hSw)
    go_simp
    all_goals with_reducible rfl
  try simp only [Act.put, List.setIfInBounds_toArray, List.set_cons_zero, List.set_cons_succ]
  refine wpAnyH_take (i := 31) (v := ?_) rfl (by kernel_rfl) (by kernel_rfl) (by kernel_rfl) (fun _ _ _ h => h) (Or.inl ⟨by rfl, ?_⟩) (by assumption) ?_
  rotate_left
  · intro w hSw
    (try dsimp only at hSw)
    go_simp
    all_goals with_reducible rfl
  try simp only [Act.put, List.setIfInBounds_toArray, List.set_cons_zero, List.set_cons_succ]
  refine wpAnyH_take (i := 33) (v := ?_) rfl (by kernel_rfl) (by kernel_rfl) (by kernel_rfl) (fun _ _ _ h => h) (Or.inl ⟨by rfl, ?_⟩) (by assumption) ?_
  rotate_left
  · intro w hSw
    (try dsimp only at hSw)
    go_simp
    all_goals with_reducible rfl
  try simp only [Act.put, List.setIfInBounds_toArray, List.set_cons_zero, List.set_cons_succ]
  refine wpAnyH_ready (rs := [32]) (by kernel_rfl) (by simp) ?_
  refine AllReadyH.cons rfl (fun K hK => ?_) AllReadyH.nil
  go_simp
  go_at_call 27
  with_reducible refine ((GS _ (by first | assumption | exact Below.drew (by assumption)) ).out).mono ?_
  rintro e w' ⟨rfl, bb⟩
  go_wp2_with fail
  refine hK.out _ _ ?_ (fun hH2 => ?_)
  · (try dsimp only)
    exact KS _ (by first | assumption | exact Below.drew (by assumption))
  clear hK K hHeld
  have hHeld := hH2
  clear hH2
  try simp only [Act.put, List.setIfInBounds_toArray, List.set_cons_zero, List.set_cons_succ]
  refine wpAnyH_ready (rs := [34]) (by kernel_rfl) (by simp) ?_
  refine AllReadyH.cons rfl (fun K hK => ?_) AllReadyH.nil
  go_simp
  go_at_call 27
  with_reducible refine ((GB _ (by first | assumption | exact Below.drew (by assumption)) ).out).mono ?_
  rintro e w' ⟨rfl, bb⟩
  go_wp2_with fail
  refine hK.out _ _ ?_ (fun hH2 => ?_)
  · (try dsimp only)
    exact KS _ (by first | assumption | exact Below.drew (by assumption))
  clear hK K hHeld
  have hHeld := hH2
  clear hH2
  try simp only [Act.put, List.setIfInBounds_toArray, List.set_cons_zero, List.set_cons_succ]
  refine wpAnyH_take (i := 35) (v := ?_) rfl (by kernel_rfl) (by kernel_rfl) (by kernel_rfl) (fun _ _ _ h => h) (Or.inl ⟨by rfl, ?_⟩) (by assumption) ?_
  rotate_left
  · intro w hSw
    (try dsimp only at hSw)
    go_simp
    all_goals with_reducible rfl
  try simp only [Act.put, List.setIfInBounds_toArray, List.set_cons_zero, List.set_cons_succ]
  refine wpAnyH_take (i := 36) (v := ?_) rfl (by kernel_rfl) (by kernel_rfl) (by kernel_rfl) (fun _ _ _ h => h) (Or.inl ⟨by rfl, ?_⟩) (by assumption) ?_
  rotate_left
  · intro w hSw
    (try dsimp only at hSw)
    go_simp
    all_goals with_reducible rfl
  try simp only [Act.put, List.setIfInBounds_toArray, List.set_cons_zero, List.set_cons_succ]
  refine wpAnyH_take (i := 37) (v := ?_) rfl (by kernel_rfl) (by kernel_rfl) (by kernel_rfl) (fun _ _ _ h => h) (Or.inl ⟨by rfl, ?_⟩) (by assumption) ?_
  rotate_left
  · intro w hSw
    (try dsimp only at hSw)
    go_simp
    all_goals with_reducible rfl
  try simp only [Act.put, List.setIfInBounds_toArray, List.set_cons_zero, List.set_cons_succ]
  refine wpAnyH_done (by kernel_rfl) ?_ _
  have ⟨hbX, p1, p2, p3, p4, p5, p6, p7, p8⟩ := hHeld
  clear hHeld k1 k2 k3 k4 k5 k6 k7 k8 AB CR CS GR GS GB GA KS
  have NX := HN.out
  go_wp2_with fail
  refine ((SUB _ _ _ _ _ _ _ _ _ (NX.2.1.below hbX) ls (NX.1.below hbX) lr).out).mono ?_
  rintro e z1 ⟨rd, Ad, md, cd, rfl, Nd, ld, bd⟩
  have ba := below_al (Below.refl z1.heap.size z1) (.cells #[.bool rd, .slice Ad md cd] 24)
  have b9 := below_then hbX (below_then bd ba)
  have Td := Two.made z1 24 (.bool rd) (.slice Ad md cd)
  replace Nd := Nd.below ba
  have N2 := NX.2.2.below b9
  replace T2 := T2.below' b9
  replace B := below_then B b9
  clear p1 p2 p3 p4 p5 p6 p7 p8 NX hbX bd ba b9 T1 Tr Ts SUB
  have k1 := Td.fst
  have k2 := Td.snd
  rcases CD.out with e9 | e9
  · rw [e9] at Nd
    have SD := Lib.hid ((sign_at _ Nd (by omega)).mono fun e w' ⟨he, hb⟩ => (⟨by rw [he, cmpI_eq rfl], hb⟩ : e = Ending.returned (.int .i64 0) ∧ Below _ _ w'))
    go_wp2_with fail
    refine (SD.out).mono ?_
    rintro e z2 ⟨rfl, b10⟩
    go_wp2_with fail
    refine ((AW _ (below_then B b10)).out).mono ?_
    rintro e ye ⟨rfl, be⟩
    go_wp2
    go_ret
    exact ⟨rfl, be⟩
  · rw [e9] at Nd
    have SD := Lib.hid ((sign_at _ Nd (by omega)).mono fun e w' ⟨he, hb⟩ => (⟨by rw [he, HG.out], hb⟩ : e = Ending.returned (.int .i64 (-1)) ∧ Below _ _ w'))
    go_wp2_with fail
    refine (SD.out).mono ?_
    rintro e z2 ⟨rfl, b10⟩
    replace Td := Td.below' b10
    replace T2 := T2.below' b10
    replace B := below_then B b10
    have CE := Lib.hid ((cmp_at z2 (Nd.below b10) (N2.below b10) (by omega) (by omega)).mono fun e w' ⟨he, hb⟩ => (⟨by rw [he, cmpI_eq rfl], hb⟩ : e = Ending.returned (.int .i64 0) ∧ Below _ _ w'))
    clear k1 k2 b10
    have k1 := Td.fst
    have k2 := Td.snd
    have k3 := T2.fst
    have k4 := T2.snd
    go_wp2_with fail
    refine (CE.out).mono ?_
    rintro e z3 ⟨rfl, b11⟩
    go_wp2_with fail
    refine ((AW _ (below_then B b11)).out).mono ?_
    rintro e ye ⟨rfl, be⟩
    go_wp2
    go_ret
    exact ⟨rfl, be⟩
end Go.Proofs.YtocoflojlliapaaDoor.numDivision
