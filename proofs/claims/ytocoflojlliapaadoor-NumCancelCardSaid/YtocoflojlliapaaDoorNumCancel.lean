/- NumCancel: THE LAW's WALK, AND THE STATEMENT. -/
import Derived.Test.YtocoflojlliapaaDoorY2
import Derived.Test.YtocoflojlliapaaDoorT2
set_option linter.unusedVariables false
namespace Go.Proofs.YtocoflojlliapaaDoor.numCancel
open Go.ChangeShapes Go.WideShapes Go.ChangeAt Go.RowKit Go.Proofs.YtocoflojlliapaaDoor
theorem NumAt.dl {w : World} {r : Bool} {A : Option Addr} {m c : Nat} {z : Int} (h : NumAt w r A m c z) : dl z.natAbs ≤ m := by
  obtain ⟨M, hm, hz⟩ := h
  rw [← sg_abs hz]
  exact hm.le
theorem sgn_nz {y : Int} (h : y ≠ 0) : (cmpI y 0 == 0) = false := by
  rcases Int.lt_trichotomy y 0 with k | k | k
  · rw [cmpI_lt k]; rfl
  · exact absurd k h
  · rw [cmpI_gt k]; rfl
set_option maxHeartbeats 3200000 in
set_option maxRecDepth 100000 in
theorem main (r1 r2 : Bool) (A1 A2 : Option Addr) (n1 c1 n2 c2 : Nat) (x y : Int) (w : World) (ht : Tab w) (h1 : NumAt w r1 A1 n1 c1 x) (h2 : NumAt w r2 A2 n2 c2 y) (l1 : n1 ≤ 24) (l2 : n2 ≤ 24) (hy : y ≠ 0) :
    Calls Tryd.prog 15 #[.agg #[.bool r1, .slice A1 n1 c1], .agg #[.bool r2, .slice A2 n2 c2]] w fun e w' => e = .returned (.bool true) ∧ Below w.heap.size w w' := by
  obtain ⟨W, hW⟩ : ∃ W, W = (w.alloc (.cells #[.bool r1, .slice A1 n1 c1] 24)).alloc (.cells #[.bool r2, .slice A2 n2 c2] 24) := ⟨_, rfl⟩
  obtain ⟨t1, t2, hbW, hWs⟩ := boxes24 w _ _ _ _ W hW
  have AW : ∀ V, Below w.heap.size w V → Hid (Calls Tryd.prog 18 #[] V fun e w' => e = .returned (.bool true) ∧ Below w.heap.size w w') :=
    fun V hb => Lib.hid ((awake_any V (ht.below hb)).mono fun e w' ⟨he, hw⟩ => ⟨he, below_then hb hw⟩)
  have m1 := h1.below hbW
  have m2 := h2.below hbW
  have HXY : Hid (dl (x * y).natAbs ≤ 48) := Lib.hid (by
    have := NumAt.dl h1
    have := NumAt.dl h2
    rw [Int.natAbs_mul]
    exact dl_mul2 (m := 24) (n := 24) (by omega) (by omega))
  have HX : Hid (dl x.natAbs ≤ 48) := Lib.hid (by have := NumAt.dl h1; omega)
  have H0 : Hid (dl (0 : Int).natAbs ≤ 48) := Lib.hid (by decide)
  have HE : Hid (Int.tdiv (x * y) y = x ∧ Int.tmod (x * y) y = 0 ∧ Int.fmod (x * y) y = 0) := Lib.hid ⟨Int.mul_tdiv_cancel x hy, Int.mul_tmod_left x y, Int.mul_fmod_left x y⟩
  have HY := Lib.hid hy
  obtain ⟨g, hg⟩ : ∃ g, cmpI y 0 = g := ⟨_, rfl⟩
  have hg0 : (g == 0) = false := by rw [← hg]; exact sgn_nz hy
  have HG := Lib.hid hg
  have SB : ∀ V, NumAt V r2 A2 n2 c2 y → Hid (Calls Tryd.prog 27 #[.agg #[.bool r2, .slice A2 n2 c2]] V fun e w' => e = .returned (.int .i64 g) ∧ Below V.heap.size V w') := fun V h => Lib.hid ((sign_at V h (by omega)).mono fun e w' ⟨he, hb⟩ => ⟨by rw [he, HG.out], hb⟩)
  have MUL : ∀ V, NumAt V r1 A1 n1 c1 x → NumAt V r2 A2 n2 c2 y → Hid (Calls Tryd.prog 38 #[.agg #[.bool r1, .slice A1 n1 c1], .agg #[.bool r2, .slice A2 n2 c2]] V fun e w' => ∃ r A m c, e = .returned (.tuple #[.agg #[.bool r, .slice A m c], .int .i64 0]) ∧ NumAt w' r A m c (x * y) ∧ m ≤ 48 ∧ Below V.heap.size V w') := fun V h h2 => Lib.hid ((mul_at V h h2 (by omega) (by omega)).mono fun e w' hq => hq.yes HXY.out)
  have QUO : ∀ V r A m c, NumAt V r A m c (x * y) → m ≤ 48 → NumAt V r2 A2 n2 c2 y → Hid (Calls Tryd.prog 40 #[.agg #[.bool r, .slice A m c], .agg #[.bool r2, .slice A2 n2 c2]] V fun e w' => ∃ r A m c, e = .returned (.tuple #[.agg #[.bool r, .slice A m c], .int .i64 0]) ∧ NumAt w' r A m c x ∧ m ≤ 48 ∧ Below V.heap.size V w') := fun V r A m c h hm h2 => Lib.hid ((quo_at V h h2 (by omega) (by omega) HY.out).mono fun e w' hq => (HE.out.1 ▸ hq).yes HX.out)
  have REM : ∀ V r A m c, NumAt V r A m c (x * y) → m ≤ 48 → NumAt V r2 A2 n2 c2 y → Hid (Calls Tryd.prog 41 #[.agg #[.bool r, .slice A m c], .agg #[.bool r2, .slice A2 n2 c2]] V fun e w' => ∃ r A m c, e = .returned (.tuple #[.agg #[.bool r, .slice A m c], .int .i64 0]) ∧ NumAt w' r A m c 0 ∧ m ≤ 48 ∧ Below V.heap.size V w') := fun V r A m c h hm h2 => Lib.hid ((rem_at V h h2 (by omega) (by omega) HY.out).mono fun e w' hq => (HE.out.2.1 ▸ hq).yes H0.out)
  have MOD : ∀ V r A m c, NumAt V r A m c (x * y) → m ≤ 48 → NumAt V r2 A2 n2 c2 y → Hid (Calls Tryd.prog 42 #[.agg #[.bool r, .slice A m c], .agg #[.bool r2, .slice A2 n2 c2]] V fun e w' => ∃ r A m c, e = .returned (.tuple #[.agg #[.bool r, .slice A m c], .int .i64 0]) ∧ NumAt w' r A m c 0 ∧ m ≤ 48 ∧ Below V.heap.size V w') := fun V r A m c h hm h2 => Lib.hid ((mod_at V h h2 (by omega) (by omega) HY.out).mono fun e w' hq => (HE.out.2.2 ▸ hq).yes H0.out)
  have CMP : ∀ V r A m c, NumAt V r A m c x → m ≤ 48 → NumAt V r1 A1 n1 c1 x → Hid (Calls Tryd.prog 31 #[.agg #[.bool r, .slice A m c], .agg #[.bool r1, .slice A1 n1 c1]] V fun e w' => e = .returned (.int .i64 0) ∧ Below V.heap.size V w') := fun V r A m c h hm h1 => Lib.hid ((cmp_at V h h1 (by omega) (by omega)).mono fun e w' ⟨he, hb⟩ => ⟨by rw [he, cmpI_eq rfl], hb⟩)
  have S0 : ∀ V r A m c, NumAt V r A m c 0 → m ≤ 48 → Hid (Calls Tryd.prog 27 #[.agg #[.bool r, .slice A m c]] V fun e w' => e = .returned (.int .i64 0) ∧ Below V.heap.size V w') := fun V r A m c h hm => Lib.hid ((sign_at V h (by omega)).mono fun e w' ⟨he, hb⟩ => ⟨by rw [he, cmpI_eq rfl], hb⟩)
  have k1 := t1.fst
  have k2 := t1.snd
  have k3 := t2.fst
  have k4 := t2.snd
  clear hg hy h1 h2 ht
  go_enter Tryd.func15, Tryd.ntmps15
  go_wp2_with fail
  rw [← hW]
  have HW := Lib.hid hW
  have HWS := Lib.hid hWs
  clear hW hWs
  refine ((SB _ m2).out).mono ?_
  rintro e y0 ⟨rfl, b0⟩
  replace t1 := t1.below' b0
  replace t2 := t2.below' b0
  replace m1 := m1.below b0
  replace m2 := m2.below b0
  replace hbW := below_then hbW b0
  clear k1 k2 k3 k4 b0 SB
  have k1 := t1.fst
  have k2 := t1.snd
  have k3 := t2.fst
  have k4 := t2.snd
  go_wp2_with fail
  refine ((MUL _ m1 m2).out).mono ?_
  rintro e y1 ⟨rp, Ap, mp, cp, rfl, np, lp, b1⟩
  have ba := below_al (Below.refl y1.heap.size y1) (.cells #[.bool rp, .slice Ap mp cp] 24)
  have bb := below_then b1 ba
  replace t1 := t1.below' bb
  replace t2 := t2.below' bb
  replace m1 := m1.below bb
  replace m2 := m2.below bb
  replace hbW := below_then hbW bb
  have tp := Two.made y1 24 (.bool rp) (.slice Ap mp cp)
  replace np := np.below ba
  clear k1 k2 k3 k4 b1 ba bb MUL
  have k1 := tp.fst
  have k2 := tp.snd
  have k3 := t2.fst
  have k4 := t2.snd
  go_wp2_with fail
  refine ((QUO _ _ _ _ _ np lp m2).out).mono ?_
  rintro e y2 ⟨rq, Aq, mq, cq, rfl, nq, lq, b2⟩
  have ba := below_al (Below.refl y2.heap.size y2) (.cells #[.bool rq, .slice Aq mq cq] 24)
  have bb := below_then b2 ba
  replace t1 := t1.below' bb
  replace t2 := t2.below' bb
  replace m1 := m1.below bb
  replace m2 := m2.below bb
  replace hbW := below_then hbW bb
  replace tp := tp.below' bb
  replace np := np.below bb
  have tq := Two.made y2 24 (.bool rq) (.slice Aq mq cq)
  replace nq := nq.below ba
  clear k1 k2 k3 k4 b2 ba bb QUO
  have k1 := tp.fst
  have k2 := tp.snd
  have k3 := t2.fst
  have k4 := t2.snd
  go_wp2_with fail
  refine ((REM _ _ _ _ _ np lp m2).out).mono ?_
  rintro e y3 ⟨rr, Ar, mr, cr, rfl, nr, lr, b3⟩
  have ba := below_al (Below.refl y3.heap.size y3) (.cells #[.bool rr, .slice Ar mr cr] 24)
  have bb := below_then b3 ba
  replace t1 := t1.below' bb
  replace t2 := t2.below' bb
  replace m1 := m1.below bb
  replace m2 := m2.below bb
  replace hbW := below_then hbW bb
  replace tp := tp.below' bb
  replace np := np.below bb
  replace tq := tq.below' bb
  replace nq := nq.below bb
  have tr := Two.made y3 24 (.bool rr) (.slice Ar mr cr)
  replace nr := nr.below ba
  clear k1 k2 k3 k4 b3 ba bb REM
  have k1 := tp.fst
  have k2 := tp.snd
  have k3 := t2.fst
  have k4 := t2.snd
  go_wp2_with fail
  refine ((MOD _ _ _ _ _ np lp m2).out).mono ?_
  rintro e y4 ⟨rs, As, ms, cs, rfl, ns, ls, b4⟩
  have ba := below_al (Below.refl y4.heap.size y4) (.cells #[.bool rs, .slice As ms cs] 24)
  have bb := below_then b4 ba
  replace t1 := t1.below' bb
  replace t2 := t2.below' bb
  replace m1 := m1.below bb
  replace m2 := m2.below bb
  replace hbW := below_then hbW bb
  replace tp := tp.below' bb
  replace np := np.below bb
  replace tq := tq.below' bb
  replace nq := nq.below bb
  replace tr := tr.below' bb
  replace nr := nr.below bb
  have ts := Two.made y4 24 (.bool rs) (.slice As ms cs)
  replace ns := ns.below ba
  clear k1 k2 k3 k4 b4 ba bb MOD
  have k1 := tq.fst
  have k2 := tq.snd
  have k3 := t1.fst
  have k4 := t1.snd
  go_wp2_with fail
  refine ((CMP _ _ _ _ _ nq lq m1).out).mono ?_
  rintro e z1 ⟨rfl, bb⟩
  replace tr := tr.below' bb
  replace ts := ts.below' bb
  replace nr := nr.below bb
  replace ns := ns.below bb
  replace hbW := below_then hbW bb
  clear k1 k2 k3 k4 bb
  have k1 := tr.fst
  have k2 := tr.snd
  have k3 := hg0
  have k4 := hg0
  go_wp2_with fail
  refine ((S0 _ _ _ _ _ nr lr).out).mono ?_
  rintro e z2 ⟨rfl, bb⟩
  replace tr := tr.below' bb
  replace ts := ts.below' bb
  replace nr := nr.below bb
  replace ns := ns.below bb
  replace hbW := below_then hbW bb
  clear k1 k2 k3 k4 bb
  have k1 := ts.fst
  have k2 := ts.snd
  have k3 := hg0
  have k4 := hg0
  go_wp2_with fail
  refine ((S0 _ _ _ _ _ ns ls).out).mono ?_
  rintro e z3 ⟨rfl, bb⟩
  replace hbW := below_then hbW bb
  clear k1 k2 k3 k4 bb
  go_wp2_with fail
  refine ((AW _ hbW).out).mono ?_
  rintro e y8 ⟨rfl, bb8⟩
  go_wp2
  go_ret
  exact ⟨rfl, bb8⟩
set_option maxHeartbeats 3200000 in
set_option maxRecDepth 100000 in
theorem long_1 (r1 r2 : Bool) (A1 A2 : Option Addr) (n1 c1 n2 c2 : Nat) (w : World) (ht : Tab w) (l1 : 24 < n1) :
    Calls Tryd.prog 15 #[.agg #[.bool r1, .slice A1 n1 c1], .agg #[.bool r2, .slice A2 n2 c2]] w fun e w' => e = .returned (.bool true) ∧ Below w.heap.size w w' := by
  obtain ⟨W, hW⟩ : ∃ W, W = (w.alloc (.cells #[.bool r1, .slice A1 n1 c1] 24)).alloc (.cells #[.bool r2, .slice A2 n2 c2] 24) := ⟨_, rfl⟩
  obtain ⟨t1, t2, hbW, hWs⟩ := boxes24 w _ _ _ _ W hW
  have AW : ∀ V, Below w.heap.size w V → Hid (Calls Tryd.prog 18 #[] V fun e w' => e = .returned (.bool true) ∧ Below w.heap.size w w') :=
    fun V hb => Lib.hid ((awake_any V (ht.below hb)).mono fun e w' ⟨he, hw⟩ => ⟨he, below_then hb hw⟩)
  have k1 := t1.fst
  have k2 := t1.snd
  have k3 := t2.fst
  have k4 := t2.snd
  clear ht
  go_enter Tryd.func15, Tryd.ntmps15
  go_wp2_with fail
  rw [← hW]
  have HW := Lib.hid hW
  have HWS := Lib.hid hWs
  clear hW hWs
  refine ((AW _ hbW).out).mono ?_
  rintro e y8 ⟨rfl, bb8⟩
  go_wp2
  go_ret
  exact ⟨rfl, bb8⟩
set_option maxHeartbeats 3200000 in
set_option maxRecDepth 100000 in
theorem long_2 (r1 r2 : Bool) (A1 A2 : Option Addr) (n1 c1 n2 c2 : Nat) (w : World) (ht : Tab w) (l1 : n1 ≤ 24) (l2 : 24 < n2) :
    Calls Tryd.prog 15 #[.agg #[.bool r1, .slice A1 n1 c1], .agg #[.bool r2, .slice A2 n2 c2]] w fun e w' => e = .returned (.bool true) ∧ Below w.heap.size w w' := by
  obtain ⟨W, hW⟩ : ∃ W, W = (w.alloc (.cells #[.bool r1, .slice A1 n1 c1] 24)).alloc (.cells #[.bool r2, .slice A2 n2 c2] 24) := ⟨_, rfl⟩
  obtain ⟨t1, t2, hbW, hWs⟩ := boxes24 w _ _ _ _ W hW
  have AW : ∀ V, Below w.heap.size w V → Hid (Calls Tryd.prog 18 #[] V fun e w' => e = .returned (.bool true) ∧ Below w.heap.size w w') :=
    fun V hb => Lib.hid ((awake_any V (ht.below hb)).mono fun e w' ⟨he, hw⟩ => ⟨he, below_then hb hw⟩)
  have k1 := t1.fst
  have k2 := t1.snd
  have k3 := t2.fst
  have k4 := t2.snd
  clear ht
  go_enter Tryd.func15, Tryd.ntmps15
  go_wp2_with fail
  rw [← hW]
  have HW := Lib.hid hW
  have HWS := Lib.hid hWs
  clear hW hWs
  refine ((AW _ hbW).out).mono ?_
  rintro e y8 ⟨rfl, bb8⟩
  go_wp2
  go_ret
  exact ⟨rfl, bb8⟩
set_option maxHeartbeats 3200000 in
set_option maxRecDepth 100000 in
theorem zero (r1 r2 : Bool) (A1 A2 : Option Addr) (n1 c1 n2 c2 : Nat) (w : World) (ht : Tab w) (h2 : NumAt w r2 A2 n2 c2 0) (l1 : n1 ≤ 24) (l2 : n2 ≤ 24) :
    Calls Tryd.prog 15 #[.agg #[.bool r1, .slice A1 n1 c1], .agg #[.bool r2, .slice A2 n2 c2]] w fun e w' => e = .returned (.bool true) ∧ Below w.heap.size w w' := by
  obtain ⟨W, hW⟩ : ∃ W, W = (w.alloc (.cells #[.bool r1, .slice A1 n1 c1] 24)).alloc (.cells #[.bool r2, .slice A2 n2 c2] 24) := ⟨_, rfl⟩
  obtain ⟨t1, t2, hbW, hWs⟩ := boxes24 w _ _ _ _ W hW
  have AW : ∀ V, Below w.heap.size w V → Hid (Calls Tryd.prog 18 #[] V fun e w' => e = .returned (.bool true) ∧ Below w.heap.size w w') :=
    fun V hb => Lib.hid ((awake_any V (ht.below hb)).mono fun e w' ⟨he, hw⟩ => ⟨he, below_then hb hw⟩)
  have m2 := h2.below hbW
  have SB : ∀ V, NumAt V r2 A2 n2 c2 0 → Hid (Calls Tryd.prog 27 #[.agg #[.bool r2, .slice A2 n2 c2]] V fun e w' => e = .returned (.int .i64 0) ∧ Below V.heap.size V w') := fun V h => Lib.hid ((sign_at V h (by omega)).mono fun e w' ⟨he, hb⟩ => ⟨by rw [he, cmpI_eq rfl], hb⟩)
  have k1 := t1.fst
  have k2 := t1.snd
  have k3 := t2.fst
  have k4 := t2.snd
  clear ht
  go_enter Tryd.func15, Tryd.ntmps15
  go_wp2_with fail
  rw [← hW]
  have HW := Lib.hid hW
  have HWS := Lib.hid hWs
  clear hW hWs
  refine ((SB _ m2).out).mono ?_
  rintro e y0 ⟨rfl, b0⟩
  replace hbW := below_then hbW b0
  go_wp2_with fail
  refine ((AW _ hbW).out).mono ?_
  rintro e y8 ⟨rfl, bb8⟩
  go_wp2
  go_ret
  exact ⟨rfl, bb8⟩
theorem walk (r1 r2 : Bool) (A1 A2 : Option Addr) (n1 c1 n2 c2 : Nat) (x y : Int) (w : World) (ht : Tab w) (h1 : NumAt w r1 A1 n1 c1 x) (h2 : NumAt w r2 A2 n2 c2 y) :
    Calls Tryd.prog 15 #[.agg #[.bool r1, .slice A1 n1 c1], .agg #[.bool r2, .slice A2 n2 c2]] w fun e w' => e = .returned (.bool true) ∧ Below w.heap.size w w' := by
  by_cases l1 : n1 ≤ 24
  · by_cases l2 : n2 ≤ 24
    · by_cases hy : y = 0
      · subst hy
        exact zero r1 r2 A1 A2 n1 c1 n2 c2 w ht h2 l1 l2
      · exact main r1 r2 A1 A2 n1 c1 n2 c2 x y w ht h1 h2 l1 l2 hy
    · exact long_2 r1 r2 A1 A2 n1 c1 n2 c2 w ht l1 (by omega)
  · exact long_1 r1 r2 A1 A2 n1 c1 n2 c2 w ht (by omega)
/-! The row's step. -/
set_option maxRecDepth 100000 in
theorem contract (H : Type) (enc : TypeId × Value → H) (W : World) (base : Nat) (args : Array Value) (ds gs : List (DataW H)) (before : List MemPlace)
    (hval : ∀ (j : Nat) t v, Tryd.f15.params[j]? = some t → args[j]? = some v → Value.okWide Tryd.prog W .any base t v)
    (hW : DataW.Whole enc Tryd.prog Tryd.f15.params.toList Rows.numCancelSpec.vars false W args.toList ds gs before) (hL : laidMetH Tryd.prog Rows.numCancelRow.laid W) :
    Calls Tryd.prog 15 args W fun e W' => ∃ v, e = .returned v ∧ Rows.numCancelSpec.post enc Tryd.prog Tryd.f15 false true false false W args v W' := by
  have hW' := hW
  obtain ⟨p, q, hA0, hV, rfl, hfz, hnd⟩ := hW
  have hA : DataW.TrodAll enc Tryd.prog W 0 (fun _ => true) true Tryd.f15.params.toList args.toList ds p := hA0
  obtain ⟨rfl, rfl⟩ := trodVars_none hV
  simp only [List.append_nil] at hW'
  have hlt : ∀ x ∈ p, x.block < W.heap.size := fun x hx => by simpa using hW'.lt x hx
  have hAk := hA
  rw [Tryd.params15] at hA hval
  obtain ⟨v0, vs0, d0, ds0, p0, q0, hargs, rfl, rfl, h0, r0⟩ := trodAll_cons hA
  obtain ⟨v1, vs1, d1, ds1, p1, q1, rfl, rfl, rfl, h1, r1⟩ := trodAll_cons r0
  obtain ⟨rfl, rfl, rfl⟩ := trodAll_nil r1
  obtain rfl : args = #[v0, v1] := by cases args; simp_all
  obtain ⟨g0, A0, n0, c0, N0, rfl, m0⟩ := open_num (hval 0 24 v0 rfl rfl) h0
  obtain ⟨g1, A1, n1, c1, N1, rfl, m1⟩ := open_num (hval 1 24 v1 rfl rfl) h1
  refine (walk g0 g1 A0 A1 n0 c0 n1 c1 _ _ W (tab_of hL) ⟨N0, m0, rfl⟩ ⟨N1, m1, rfl⟩).mono fun e W' ⟨he, hg⟩ => ?_
  subst he
  exact ⟨_, rfl, _, _, _, [], _, [], hW', (trodAll_cons_mk (shut_bool Tryd.underlying4 _) trodAll_mk0), below_all hg (by kernel_rfl) hAk hlt, rfl, hg.frame _, fun h => by cases h⟩
theorem laid_met (os : Os) : laidMet Tryd.prog Rows.numCancelRow.laid ((laidWorld os).forCall (fun _ _ => 0) ⟨#[], #[.agg #[.bool false, .slice none 0 0], .agg #[.bool false, .slice none 0 0]], []⟩).memory :=
  laidMet_laidAll _ (by kernel_rfl) (by kernel_rfl)
theorem reads (os : Os) {H : Type} (enc : TypeId × Value → H) : ∃ places, DataW.whole enc Tryd.prog ((laidWorld os).forCall (fun _ _ => 0) ⟨#[], #[.agg #[.bool false, .slice none 0 0], .agg #[.bool false, .slice none 0 0]], []⟩).memory Tryd.f15.params.toList Rows.numCancelSpec.vars false (#[(Value.agg #[.bool false, .slice none 0 0]), (Value.agg #[.bool false, .slice none 0 0])] : Array Value).toList 8 = some ([.agg [.lit (.bool false), .nil], .agg [.lit (.bool false), .nil]], [], places) :=
  ⟨[], by kernel_rfl⟩
set_option maxRecDepth 100000 in
theorem lifted (os : Os) (started : os.Started) (H : Type) (enc : TypeId × Value → H) (F : Stop.Interp) :
    ReturnsInHanded {} Tryd.checked os 15 .any ((OpenSpec.ofChange Rows.numCancelSpec).preRow enc Tryd.prog Tryd.f15 Rows.numCancelRow.domain false Rows.numCancelRow.laid) (((OpenSpec.ofChange Rows.numCancelSpec).at F).post enc Tryd.prog Tryd.f15 false true false false) := by
  obtain ⟨places, hx⟩ := reads os enc
  refine returnsInHanded_of_row (C := Tryd.checked) (s := OpenSpec.ofChange Rows.numCancelSpec) own started (by kernel_rfl) Tryd.func15
    (witness_row_at (enc := enc) (C := Tryd.checked) false (laidWorld os) #[.agg #[.bool false, .slice none 0 0], .agg #[.bool false, .slice none 0 0]] (laidWorld_os os) (by kernel_rfl) (by kernel_rfl) (by kernel_rfl)
      (OpenSpec.preRow_of_cond 8 hx (by kernel_rfl) (fun k hk => by cases hk) (by kernel_rfl) (laid_met os))) ?_
  intro W base args ds gs before hval hW _ _ _ hL _ _
  exact contract H enc W base args ds gs before hval hW hL
theorem said : Rows.NumCancelSaid :=
  OpenClaim.holds_of_cond 15 Tryd.f15 rfl rfl rfl rfl rfl rfl rfl ⟨rfl, rfl, rfl, rfl, rfl⟩ rfl rfl rfl rfl rfl (by kernel_rfl) Tryd.func15 (by kernel_rfl)
    (of_decide_eq_true (by kernel_rfl)) (by unfold Func.isWrapper; first | (rw [if_pos (by decide +kernel)]; kernel_rfl) | (rw [if_neg (by decide +kernel)]; exact ⟨rfl, rfl⟩))
    (fun os started H enc _ F => by rw [OpenClaim.pre_eq_preRow]; exact lifted os started H enc F)
theorem plain (f : FuncId) (fn : Func) (hf : Tryd.pinned.checked.prog.funcNamed "moraine/morainelaw02.NumCancel" = some f) (hfn : Tryd.pinned.checked.prog.funcs[f]? = some fn) :
    false = Tryd.pinned.checked.prog.looks [] ∧ ∀ (j : Nat) t, fn.params[j]? = some t → Tryd.pinned.checked.prog.wantsStandIn t = false := by
  obtain rfl : f = 15 := Option.some.inj ((show Tryd.prog.funcNamed "moraine/morainelaw02.NumCancel" = some 15 by kernel_rfl).symm.trans hf) |>.symm
  obtain rfl : fn = Tryd.f15 := (Option.some.inj (Tryd.func15.symm.trans hfn)).symm
  refine ⟨by kernel_rfl, fun j t ht => ?_⟩
  rw [Tryd.params15] at ht
  have hm := Array.mem_of_getElem? ht
  have hall : (#[24, 24] : Array TypeId).toList.all (fun t => !Tryd.prog.wantsStandIn t) = true := by kernel_rfl
  have := List.all_eq_true.1 hall t (by simpa using hm)
  exact (show Tryd.prog.wantsStandIn t = false by simpa using this)
/-- THE STATEMENT -/
theorem card : Rows.NumCancelCardSaid :=
  Claim7.holds_tied_plain_at .later [] _ _ _ _ said (fun _ h => by cases h) (by kernel_rfl) (fun _ h => by cases h) Go.Proofs.YtocoflojlliapaaDoor.numCancel_row_tie rfl ⟨rfl, rfl⟩ (by kernel_rfl) rfl plain (by kernel_rfl)
#print axioms card
end Go.Proofs.YtocoflojlliapaaDoor.numCancel
