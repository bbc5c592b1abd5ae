/- NumOrder: THE LAW's WALK, AND THE STATEMENT. -/
import Derived.Test.YtocoflojlliapaaDoorH4
set_option linter.unusedVariables false
namespace Go.Proofs.YtocoflojlliapaaDoor.numOrder
open Go.ChangeShapes Go.WideShapes Go.ChangeAt Go.RowKit Go.Proofs.YtocoflojlliapaaDoor
set_option maxHeartbeats 3200000 in
theorem main_yes (na nb nc : Bool) (A1 A2 A3 : Option Addr) (n1 c1 n2 c2 n3 c3 : Nat) (sa sb sc x y z : Int) (w : World) (ht : Tab w) (h1 : NumAt w na A1 n1 c1 sa) (h2 : NumAt w nb A2 n2 c2 sb) (h3 : NumAt w nc A3 n3 c3 sc)
    (l1 : n1 ≤ 60) (l2 : n2 ≤ 60) (l3 : n3 ≤ 60) (hx : Hid (cmpI sa sb = x)) (hy : Hid (cmpI sb sc = y)) (hz : Hid (cmpI sa sc = z)) (hx' : Hid (cmpI sb sa = -x)) (hd : Hid (cmpI (sa - sb) 0 = x)) (ha : Hid (cmpI sa sa = 0))
    (hcase : Hid (x = 1 ∨ x = -1 ∧ y = 1 ∨ x = 0 ∧ y = 1 ∨ x = -1 ∧ y = -1 ∧ z = -1 ∨ x = -1 ∧ y = 0 ∧ z = -1 ∨ x = 0 ∧ y = -1 ∧ z = -1 ∨ x = 0 ∧ y = 0 ∧ z = 0)) (hfit : Hid (dl (sa - sb).natAbs ≤ 48)) :
    Calls Tryd.prog 14 #[.agg #[.bool na, .slice A1 n1 c1], .agg #[.bool nb, .slice A2 n2 c2], .agg #[.bool nc, .slice A3 n3 c3]] w fun e w' => e = .returned (.bool true) ∧ Below w.heap.size w w' := by
  obtain ⟨W, hW⟩ : ∃ W, W = ((w.alloc (.cells #[.bool na, .slice A1 n1 c1] 24)).alloc (.cells #[.bool nb, .slice A2 n2 c2] 24)).alloc (.cells #[.bool nc, .slice A3 n3 c3] 24) := ⟨_, rfl⟩
  obtain ⟨t1, t2, t3, hbW, hWs⟩ := boxes3 w _ _ _ _ _ _ W hW
  have m1 := h1.below hbW
  have m2 := h2.below hbW
  have m3 := h3.below hbW
  have htW := ht.below hbW
  have k1 := t1.fst
  have k2 := t1.snd
  have k3 := t2.fst
  have k4 := t2.snd
  have k5 := t3.fst
  have k6 := t3.snd
  have LA := fun W => Lib.hid (long_no na A1 n1 c1 l1 W)
  have LB := fun W => Lib.hid (long_no nb A2 n2 c2 l2 W)
  have LC := fun W => Lib.hid (long_no nc A3 n3 c3 l3 W)
  have CAB : ∀ V, Below W.heap.size W V → Hid (Calls Tryd.prog 31 #[.agg #[.bool na, .slice A1 n1 c1], .agg #[.bool nb, .slice A2 n2 c2]] V fun e w' => e = .returned (.int .i64 x) ∧ Below W.heap.size W w') :=
    fun V hb => Lib.hid ((cmp_at V (m1.below hb) (m2.below hb) (by omega) (by omega)).mono fun e w' ⟨he, hw⟩ => ⟨by rw [he, hx.out], below_then hb hw⟩)
  have CBC : ∀ V, Below W.heap.size W V → Hid (Calls Tryd.prog 31 #[.agg #[.bool nb, .slice A2 n2 c2], .agg #[.bool nc, .slice A3 n3 c3]] V fun e w' => e = .returned (.int .i64 y) ∧ Below W.heap.size W w') :=
    fun V hb => Lib.hid ((cmp_at V (m2.below hb) (m3.below hb) (by omega) (by omega)).mono fun e w' ⟨he, hw⟩ => ⟨by rw [he, hy.out], below_then hb hw⟩)
  have CAC : ∀ V, Below W.heap.size W V → Hid (Calls Tryd.prog 31 #[.agg #[.bool na, .slice A1 n1 c1], .agg #[.bool nc, .slice A3 n3 c3]] V fun e w' => e = .returned (.int .i64 z) ∧ Below W.heap.size W w') :=
    fun V hb => Lib.hid ((cmp_at V (m1.below hb) (m3.below hb) (by omega) (by omega)).mono fun e w' ⟨he, hw⟩ => ⟨by rw [he, hz.out], below_then hb hw⟩)
  have CBA : ∀ V, Below W.heap.size W V → Hid (Calls Tryd.prog 31 #[.agg #[.bool nb, .slice A2 n2 c2], .agg #[.bool na, .slice A1 n1 c1]] V fun e w' => e = .returned (.int .i64 (-x)) ∧ Below W.heap.size W w') :=
    fun V hb => Lib.hid ((cmp_at V (m2.below hb) (m1.below hb) (by omega) (by omega)).mono fun e w' ⟨he, hw⟩ => ⟨by rw [he, hx'.out], below_then hb hw⟩)
  have CAA : ∀ V, Below W.heap.size W V → Hid (Calls Tryd.prog 31 #[.agg #[.bool na, .slice A1 n1 c1], .agg #[.bool na, .slice A1 n1 c1]] V fun e w' => e = .returned (.int .i64 0) ∧ Below W.heap.size W w') :=
    fun V hb => Lib.hid ((cmp_at V (m1.below hb) (m1.below hb) (by omega) (by omega)).mono fun e w' ⟨he, hw⟩ => ⟨by rw [he, ha.out], below_then hb hw⟩)
  have SUB : ∀ V, Below W.heap.size W V → Hid (Calls Tryd.prog 36 #[.agg #[.bool na, .slice A1 n1 c1], .agg #[.bool nb, .slice A2 n2 c2]] V fun e w' => ∃ r A m c, e = .returned (.tuple #[.agg #[.bool r, .slice A m c], .int .i64 0]) ∧ NumAt w' r A m c (sa - sb) ∧ m ≤ 48 ∧ Below W.heap.size W w') :=
    fun V hb => Lib.hid ((sub_at V (m1.below hb) (m2.below hb) (by omega) (by omega)).mono fun e w' hg => by
      obtain ⟨r, A, m, c, he, hn, hm, hw⟩ := hg.yes hfit.out
      exact ⟨r, A, m, c, he, hn, hm, below_then hb hw⟩)
  have SGN : ∀ V r A m c, NumAt V r A m c (sa - sb) → m ≤ 48 → Below W.heap.size W V → Hid (Calls Tryd.prog 27 #[.agg #[.bool r, .slice A m c]] V fun e w' => e = .returned (.int .i64 x) ∧ Below W.heap.size W w') :=
    fun V r A m c hn hm hb => Lib.hid ((sign_at V hn (by omega)).mono fun e w' ⟨he, hw⟩ => ⟨by rw [he, hd.out], below_then hb hw⟩)
  have AW : ∀ V, Below W.heap.size W V → Hid (Calls Tryd.prog 18 #[] V fun e w' => e = .returned (.bool true) ∧ Below W.heap.size W w') :=
    fun V hb => Lib.hid ((awake_any V (htW.below hb)).mono fun e w' ⟨he, hw⟩ => ⟨he, below_then hb hw⟩)
  have K1 : ∀ V, Below W.heap.size W V → Hid (V.cell? ⟨w.heap.size, 0, none⟩ = some (.bool na) ∧ V.cell? ⟨w.heap.size, 1, none⟩ = some (.slice A1 n1 c1)) := fun V hb => Lib.hid ⟨(t1.below' hb).fst, (t1.below' hb).snd⟩
  have K2 : ∀ V, Below W.heap.size W V → Hid (V.cell? ⟨w.heap.size + 1, 0, none⟩ = some (.bool nb) ∧ V.cell? ⟨w.heap.size + 1, 1, none⟩ = some (.slice A2 n2 c2)) := fun V hb => Lib.hid ⟨(t2.below' hb).fst, (t2.below' hb).snd⟩
  have K3 : ∀ V, Below W.heap.size W V → Hid (V.cell? ⟨w.heap.size + 2, 0, none⟩ = some (.bool nc) ∧ V.cell? ⟨w.heap.size + 2, 1, none⟩ = some (.slice A3 n3 c3)) := fun V hb => Lib.hid ⟨(t3.below' hb).fst, (t3.below' hb).snd⟩
  go_enter Tryd.func14, Tryd.ntmps14
  go_wp2_with fail
  rw [← hW]
  have HW := Lib.hid hW
  have HWS := Lib.hid hWs
  have B0 : Below W.heap.size W W := Below.refl _ _
  clear hW hWs hx hy hz hx' hd ha hfit m1 m2 m3 h1 h2 h3 t1 t2 t3
  refine ((LA _).out).mono ?_
  rintro e v1 ⟨rfl, b1⟩
  have B1 := below_then B0 b1
  have ⟨p1, p2⟩ := (K2 _ B1).out
  go_wp2_with fail
  refine ((LB _).out).mono ?_
  rintro e v2 ⟨rfl, b2⟩
  have B2 := below_then B1 b2
  have ⟨p3, p4⟩ := (K3 _ B2).out
  go_wp2_with fail
  refine ((LC _).out).mono ?_
  rintro e v3 ⟨rfl, b3⟩
  have B3 := below_then B2 b3
  clear k1 k2 k3 k4 k5 k6 p1 p2 p3 p4
  have ⟨p1, p2⟩ := (K1 _ B3).out
  have ⟨p3, p4⟩ := (K2 _ B3).out
  have ⟨p5, p6⟩ := (K3 _ B3).out
  have B3' : Below W.heap.size W v3.drew := B3.drew
  have KS : ∀ V, Below W.heap.size W V → (Below W.heap.size W V ∧ V.cell? ⟨w.heap.size, 0, none⟩ = some (.bool na) ∧ V.cell? ⟨w.heap.size, 1, none⟩ = some (.slice A1 n1 c1) ∧ V.cell? ⟨w.heap.size + 1, 0, none⟩ = some (.bool nb) ∧ V.cell? ⟨w.heap.size + 1, 1, none⟩ = some (.slice A2 n2 c2)
    ∧ V.cell? ⟨w.heap.size + 1 + 1, 0, none⟩ = some (.bool nc) ∧ V.cell? ⟨w.heap.size + 1 + 1, 1, none⟩ = some (.slice A3 n3 c3)) :=
    fun V hb => ⟨hb, (K1 V hb).out.1, (K1 V hb).out.2, (K2 V hb).out.1, (K2 V hb).out.2, (K3 V hb).out.1, (K3 V hb).out.2⟩
  clear b1 b2 b3 B1 B2 B0
  go_wp2_with fail
  go_region_held3 (fun V => Below W.heap.size W V ∧ V.cell? ⟨w.heap.size, 0, none⟩ = some (.bool na) ∧ V.cell? ⟨w.heap.size, 1, none⟩ = some (.slice A1 n1 c1) ∧ V.cell? ⟨w.heap.size + 1, 0, none⟩ = some (.bool nb) ∧ V.cell? ⟨w.heap.size + 1, 1, none⟩ = some (.slice A2 n2 c2)
    ∧ V.cell? ⟨w.heap.size + 1 + 1, 0, none⟩ = some (.bool nc) ∧ V.cell? ⟨w.heap.size + 1 + 1, 1, none⟩ = some (.slice A3 n3 c3)) (exact KS _ (by first | assumption | exact Below.drew (by assumption)))
    (first | (go_at_call 31; (first
      | ((with_reducible refine ((CAB _ (by assumption)).out).mono ?_); rintro e y1 ⟨rfl, bb1⟩)
      | ((with_reducible refine ((CBC _ (by assumption)).out).mono ?_); rintro e y2 ⟨rfl, bb2⟩)
      | ((with_reducible refine ((CAC _ (by assumption)).out).mono ?_); rintro e y3 ⟨rfl, bb3⟩))))
  clear p1 p2 p3 p4 p5 p6 B3 B3' bb1 bb2 KS CAB CBC CAC LA LB LC
  have HC := hcase.out
  clear hcase
  rcases HC with rfl | ⟨rfl, rfl⟩ | ⟨rfl, rfl⟩ | ⟨rfl, rfl, rfl⟩ | ⟨rfl, rfl, rfl⟩ | ⟨rfl, rfl, rfl⟩ | ⟨rfl, rfl, rfl⟩
  all_goals
    have ⟨p1, p2⟩ := (K1 _ bb3).out
    have ⟨p3, p4⟩ := (K2 _ bb3).out
    have BB3 := Lib.hid bb3
    clear bb3
    go_wp2_with fail
    refine ((CBA _ BB3.out).out).mono ?_
    rintro e y4 ⟨rfl, bb4⟩
    have ⟨q1, q2⟩ := (K1 _ bb4).out
    clear p1 p2 p3 p4
    go_wp2_with fail
    refine ((CAA _ bb4).out).mono ?_
    rintro e y5 ⟨rfl, bb5⟩
    have ⟨p1, p2⟩ := (K1 _ bb5).out
    have ⟨p3, p4⟩ := (K2 _ bb5).out
    clear q1 q2 bb4
    go_wp2_with fail
    refine ((SUB _ bb5).out).mono ?_
    rintro e y6 ⟨r, A, m, c, rfl, hn, hm, bb6⟩
    clear p1 p2 p3 p4 bb5
    have hb6 : Below y6.heap.size y6 (y6.alloc (.cells #[.bool r, .slice A m c] 24)) := below_al (Below.refl _ _) _
    go_wp2_with fail
    refine ((SGN _ r A m c (hn.below hb6) hm (below_then bb6 hb6)).out).mono ?_
    rintro e y7 ⟨rfl, bb7⟩
    go_wp2_with fail
    refine ((AW _ bb7).out).mono ?_
    rintro e y8 ⟨rfl, bb8⟩
    go_wp2
    go_ret
    exact ⟨rfl, below_then hbW bb8⟩
set_option maxHeartbeats 3200000 in
theorem main_no (na nb nc : Bool) (A1 A2 A3 : Option Addr) (n1 c1 n2 c2 n3 c3 : Nat) (sa sb sc x y z : Int) (w : World) (ht : Tab w) (h1 : NumAt w na A1 n1 c1 sa) (h2 : NumAt w nb A2 n2 c2 sb) (h3 : NumAt w nc A3 n3 c3 sc)
    (l1 : n1 ≤ 60) (l2 : n2 ≤ 60) (l3 : n3 ≤ 60) (hx : Hid (cmpI sa sb = x)) (hy : Hid (cmpI sb sc = y)) (hz : Hid (cmpI sa sc = z)) (hx' : Hid (cmpI sb sa = -x)) (hd : Hid (cmpI (sa - sb) 0 = x)) (ha : Hid (cmpI sa sa = 0))
    (hcase : Hid (x = 1 ∨ x = -1 ∧ y = 1 ∨ x = 0 ∧ y = 1 ∨ x = -1 ∧ y = -1 ∧ z = -1 ∨ x = -1 ∧ y = 0 ∧ z = -1 ∨ x = 0 ∧ y = -1 ∧ z = -1 ∨ x = 0 ∧ y = 0 ∧ z = 0)) (hfit : Hid (48 < dl (sa - sb).natAbs)) :
    Calls Tryd.prog 14 #[.agg #[.bool na, .slice A1 n1 c1], .agg #[.bool nb, .slice A2 n2 c2], .agg #[.bool nc, .slice A3 n3 c3]] w fun e w' => e = .returned (.bool true) ∧ Below w.heap.size w w' := by
  obtain ⟨W, hW⟩ : ∃ W, W = ((w.alloc (.cells #[.bool na, .slice A1 n1 c1] 24)).alloc (.cells #[.bool nb, .slice A2 n2 c2] 24)).alloc (.cells #[.bool nc, .slice A3 n3 c3] 24) := ⟨_, rfl⟩
  obtain ⟨t1, t2, t3, hbW, hWs⟩ := boxes3 w _ _ _ _ _ _ W hW
  have m1 := h1.below hbW
  have m2 := h2.below hbW
  have m3 := h3.below hbW
  have htW := ht.below hbW
  have k1 := t1.fst
  have k2 := t1.snd
  have k3 := t2.fst
  have k4 := t2.snd
  have k5 := t3.fst
  have k6 := t3.snd
  have LA := fun W => Lib.hid (long_no na A1 n1 c1 l1 W)
  have LB := fun W => Lib.hid (long_no nb A2 n2 c2 l2 W)
  have LC := fun W => Lib.hid (long_no nc A3 n3 c3 l3 W)
  have CAB : ∀ V, Below W.heap.size W V → Hid (Calls Tryd.prog 31 #[.agg #[.bool na, .slice A1 n1 c1], .agg #[.bool nb, .slice A2 n2 c2]] V fun e w' => e = .returned (.int .i64 x) ∧ Below W.heap.size W w') :=
    fun V hb => Lib.hid ((cmp_at V (m1.below hb) (m2.below hb) (by omega) (by omega)).mono fun e w' ⟨he, hw⟩ => ⟨by rw [he, hx.out], below_then hb hw⟩)
  have CBC : ∀ V, Below W.heap.size W V → Hid (Calls Tryd.prog 31 #[.agg #[.bool nb, .slice A2 n2 c2], .agg #[.bool nc, .slice A3 n3 c3]] V fun e w' => e = .returned (.int .i64 y) ∧ Below W.heap.size W w') :=
    fun V hb => Lib.hid ((cmp_at V (m2.below hb) (m3.below hb) (by omega) (by omega)).mono fun e w' ⟨he, hw⟩ => ⟨by rw [he, hy.out], below_then hb hw⟩)
  have CAC : ∀ V, Below W.heap.size W V → Hid (Calls Tryd.prog 31 #[.agg #[.bool na, .slice A1 n1 c1], .agg #[.bool nc, .slice A3 n3 c3]] V fun e w' => e = .returned (.int .i64 z) ∧ Below W.heap.size W w') :=
    fun V hb => Lib.hid ((cmp_at V (m1.below hb) (m3.below hb) (by omega) (by omega)).mono fun e w' ⟨he, hw⟩ => ⟨by rw [he, hz.out], below_then hb hw⟩)
  have CBA : ∀ V, Below W.heap.size W V → Hid (Calls Tryd.prog 31 #[.agg #[.bool nb, .slice A2 n2 c2], .agg #[.bool na, .slice A1 n1 c1]] V fun e w' => e = .returned (.int .i64 (-x)) ∧ Below W.heap.size W w') :=
    fun V hb => Lib.hid ((cmp_at V (m2.below hb) (m1.below hb) (by omega) (by omega)).mono fun e w' ⟨he, hw⟩ => ⟨by rw [he, hx'.out], below_then hb hw⟩)
  have CAA : ∀ V, Below W.heap.size W V → Hid (Calls Tryd.prog 31 #[.agg #[.bool na, .slice A1 n1 c1], .agg #[.bool na, .slice A1 n1 c1]] V fun e w' => e = .returned (.int .i64 0) ∧ Below W.heap.size W w') :=
    fun V hb => Lib.hid ((cmp_at V (m1.below hb) (m1.below hb) (by omega) (by omega)).mono fun e w' ⟨he, hw⟩ => ⟨by rw [he, ha.out], below_then hb hw⟩)
  have SUB : ∀ V, Below W.heap.size W V → Hid (Calls Tryd.prog 36 #[.agg #[.bool na, .slice A1 n1 c1], .agg #[.bool nb, .slice A2 n2 c2]] V fun e w' => e = .returned (.tuple #[.agg #[.bool false, .slice none 0 0], .int .i64 6]) ∧ Below W.heap.size W w') :=
    fun V hb => Lib.hid ((sub_at V (m1.below hb) (m2.below hb) (by omega) (by omega)).mono fun e w' hg => ⟨(hg.no hfit.out).1, below_then hb (hg.no hfit.out).2⟩)
  have AW : ∀ V, Below W.heap.size W V → Hid (Calls Tryd.prog 18 #[] V fun e w' => e = .returned (.bool true) ∧ Below W.heap.size W w') :=
    fun V hb => Lib.hid ((awake_any V (htW.below hb)).mono fun e w' ⟨he, hw⟩ => ⟨he, below_then hb hw⟩)
  have K1 : ∀ V, Below W.heap.size W V → Hid (V.cell? ⟨w.heap.size, 0, none⟩ = some (.bool na) ∧ V.cell? ⟨w.heap.size, 1, none⟩ = some (.slice A1 n1 c1)) := fun V hb => Lib.hid ⟨(t1.below' hb).fst, (t1.below' hb).snd⟩
  have K2 : ∀ V, Below W.heap.size W V → Hid (V.cell? ⟨w.heap.size + 1, 0, none⟩ = some (.bool nb) ∧ V.cell? ⟨w.heap.size + 1, 1, none⟩ = some (.slice A2 n2 c2)) := fun V hb => Lib.hid ⟨(t2.below' hb).fst, (t2.below' hb).snd⟩
  have K3 : ∀ V, Below W.heap.size W V → Hid (V.cell? ⟨w.heap.size + 2, 0, none⟩ = some (.bool nc) ∧ V.cell? ⟨w.heap.size + 2, 1, none⟩ = some (.slice A3 n3 c3)) := fun V hb => Lib.hid ⟨(t3.below' hb).fst, (t3.below' hb).snd⟩
  go_enter Tryd.func14, Tryd.ntmps14
  go_wp2_with fail
  rw [← hW]
  have HW := Lib.hid hW
  have HWS := Lib.hid hWs
  have B0 : Below W.heap.size W W := Below.refl _ _
  clear hW hWs hx hy hz hx' hd ha hfit m1 m2 m3 h1 h2 h3 t1 t2 t3
  refine ((LA _).out).mono ?_
  rintro e v1 ⟨rfl, b1⟩
  have B1 := below_then B0 b1
  have ⟨p1, p2⟩ := (K2 _ B1).out
  go_wp2_with fail
  refine ((LB _).out).mono ?_
  rintro e v2 ⟨rfl, b2⟩
  have B2 := below_then B1 b2
  have ⟨p3, p4⟩ := (K3 _ B2).out
  go_wp2_with fail
  refine ((LC _).out).mono ?_
  rintro e v3 ⟨rfl, b3⟩
  have B3 := below_then B2 b3
  clear k1 k2 k3 k4 k5 k6 p1 p2 p3 p4
  have ⟨p1, p2⟩ := (K1 _ B3).out
  have ⟨p3, p4⟩ := (K2 _ B3).out
  have ⟨p5, p6⟩ := (K3 _ B3).out
  have B3' : Below W.heap.size W v3.drew := B3.drew
  have KS : ∀ V, Below W.heap.size W V → (Below W.heap.size W V ∧ V.cell? ⟨w.heap.size, 0, none⟩ = some (.bool na) ∧ V.cell? ⟨w.heap.size, 1, none⟩ = some (.slice A1 n1 c1) ∧ V.cell? ⟨w.heap.size + 1, 0, none⟩ = some (.bool nb) ∧ V.cell? ⟨w.heap.size + 1, 1, none⟩ = some (.slice A2 n2 c2)
    ∧ V.cell? ⟨w.heap.size + 1 + 1, 0, none⟩ = some (.bool nc) ∧ V.cell? ⟨w.heap.size + 1 + 1, 1, none⟩ = some (.slice A3 n3 c3)) :=
    fun V hb => ⟨hb, (K1 V hb).out.1, (K1 V hb).out.2, (K2 V hb).out.1, (K2 V hb).out.2, (K3 V hb).out.1, (K3 V hb).out.2⟩
  clear b1 b2 b3 B1 B2 B0
  go_wp2_with fail
  go_region_held3 (fun V => Below W.heap.size W V ∧ V.cell? ⟨w.heap.size, 0, none⟩ = some (.bool na) ∧ V.cell? ⟨w.heap.size, 1, none⟩ = some (.slice A1 n1 c1) ∧ V.cell? ⟨w.heap.size + 1, 0, none⟩ = some (.bool nb) ∧ V.cell? ⟨w.heap.size + 1, 1, none⟩ = some (.slice A2 n2 c2)
    ∧ V.cell? ⟨w.heap.size + 1 + 1, 0, none⟩ = some (.bool nc) ∧ V.cell? ⟨w.heap.size + 1 + 1, 1, none⟩ = some (.slice A3 n3 c3)) (exact KS _ (by first | assumption | exact Below.drew (by assumption)))
    (first | (go_at_call 31; (first
      | ((with_reducible refine ((CAB _ (by assumption)).out).mono ?_); rintro e y1 ⟨rfl, bb1⟩)
      | ((with_reducible refine ((CBC _ (by assumption)).out).mono ?_); rintro e y2 ⟨rfl, bb2⟩)
      | ((with_reducible refine ((CAC _ (by assumption)).out).mono ?_); rintro e y3 ⟨rfl, bb3⟩))))
  clear p1 p2 p3 p4 p5 p6 B3 B3' bb1 bb2 KS CAB CBC CAC LA LB LC
  have HC := hcase.out
  clear hcase
  rcases HC with rfl | ⟨rfl, rfl⟩ | ⟨rfl, rfl⟩ | ⟨rfl, rfl, rfl⟩ | ⟨rfl, rfl, rfl⟩ | ⟨rfl, rfl, rfl⟩ | ⟨rfl, rfl, rfl⟩
  all_goals
    have ⟨p1, p2⟩ := (K1 _ bb3).out
    have ⟨p3, p4⟩ := (K2 _ bb3).out
    have BB3 := Lib.hid bb3
    clear bb3
    go_wp2_with fail
    refine ((CBA _ BB3.out).out).mono ?_
    rintro e y4 ⟨rfl, bb4⟩
    have ⟨q1, q2⟩ := (K1 _ bb4).out
    clear p1 p2 p3 p4
    go_wp2_with fail
    refine ((CAA _ bb4).out).mono ?_
    rintro e y5 ⟨rfl, bb5⟩
    have ⟨p1, p2⟩ := (K1 _ bb5).out
    have ⟨p3, p4⟩ := (K2 _ bb5).out
    clear q1 q2 bb4
    go_wp2_with fail
    refine ((SUB _ bb5).out).mono ?_
    rintro e y6 ⟨rfl, bb6⟩
    clear p1 p2 p3 p4 bb5
    go_wp2_with fail
    refine ((AW _ (below_then bb6 (below_al (Below.refl _ _) _))).out).mono ?_
    rintro e y8 ⟨rfl, bb8⟩
    go_wp2
    go_ret
    exact ⟨rfl, below_then hbW bb8⟩
theorem cases3 (a b c : Int) : cmpI a b = 1 ∨ cmpI a b = -1 ∧ cmpI b c = 1 ∨ cmpI a b = 0 ∧ cmpI b c = 1 ∨ cmpI a b = -1 ∧ cmpI b c = -1 ∧ cmpI a c = -1 ∨ cmpI a b = -1 ∧ cmpI b c = 0 ∧ cmpI a c = -1 ∨ cmpI a b = 0 ∧ cmpI b c = -1 ∧ cmpI a c = -1 ∨ cmpI a b = 0 ∧ cmpI b c = 0 ∧ cmpI a c = 0 := by
  rcases Int.lt_trichotomy a b with h | h | h
  · rcases Int.lt_trichotomy b c with k | k | k
    · simp [cmpI_lt h, cmpI_lt k, cmpI_lt (show a < c by omega)]
    · simp [cmpI_lt h, cmpI_eq k, cmpI_lt (show a < c by omega)]
    · simp [cmpI_lt h, cmpI_gt k]
  · rcases Int.lt_trichotomy b c with k | k | k
    · simp [cmpI_eq h, cmpI_lt k, cmpI_lt (show a < c by omega)]
    · simp [cmpI_eq h, cmpI_eq k, cmpI_eq (show a = c by omega)]
    · simp [cmpI_eq h, cmpI_gt k]
  · simp [cmpI_gt h]
theorem cmpI_flip (a b : Int) : cmpI b a = - cmpI a b := by
  rcases Int.lt_trichotomy a b with h | h | h
  · rw [cmpI_lt h, cmpI_gt h]; rfl
  · rw [cmpI_eq h, cmpI_eq h.symm]; rfl
  · rw [cmpI_lt h, cmpI_gt h]
theorem cmpI_sub (a b : Int) : cmpI (a - b) 0 = cmpI a b := by
  rcases Int.lt_trichotomy a b with h | h | h
  · rw [cmpI_lt h, cmpI_lt (by omega)]
  · rw [cmpI_eq h, cmpI_eq (by omega)]
  · rw [cmpI_gt h, cmpI_gt (by omega)]
set_option maxHeartbeats 1600000 in
theorem long_1 (na nb nc : Bool) (A1 A2 A3 : Option Addr) (n1 c1 n2 c2 n3 c3 : Nat) (w : World) (ht : Tab w) (l1 : 60 < n1) :
    Calls Tryd.prog 14 #[.agg #[.bool na, .slice A1 n1 c1], .agg #[.bool nb, .slice A2 n2 c2], .agg #[.bool nc, .slice A3 n3 c3]] w fun e w' => e = .returned (.bool true) ∧ Below w.heap.size w w' := by
  obtain ⟨W, hW⟩ : ∃ W, W = ((w.alloc (.cells #[.bool na, .slice A1 n1 c1] 24)).alloc (.cells #[.bool nb, .slice A2 n2 c2] 24)).alloc (.cells #[.bool nc, .slice A3 n3 c3] 24) := ⟨_, rfl⟩
  obtain ⟨t1, t2, t3, hbW, hWs⟩ := boxes3 w _ _ _ _ _ _ W hW
  have htW := ht.below hbW
  have k1 := t1.fst
  have k2 := t1.snd
  have L1 := fun W => Lib.hid (long_yes na A1 n1 c1 l1 W)
  have AW : ∀ V, Below W.heap.size W V → Hid (Calls Tryd.prog 18 #[] V fun e w' => e = .returned (.bool true) ∧ Below W.heap.size W w') :=
    fun V hb => Lib.hid ((awake_any V (htW.below hb)).mono fun e w' ⟨he, hw⟩ => ⟨he, below_then hb hw⟩)
  have K2 : ∀ V, Below W.heap.size W V → Hid (V.cell? ⟨w.heap.size + 1, 0, none⟩ = some (.bool nb) ∧ V.cell? ⟨w.heap.size + 1, 1, none⟩ = some (.slice A2 n2 c2)) := fun V hb => Lib.hid ⟨(t2.below' hb).fst, (t2.below' hb).snd⟩
  have K3 : ∀ V, Below W.heap.size W V → Hid (V.cell? ⟨w.heap.size + 2, 0, none⟩ = some (.bool nc) ∧ V.cell? ⟨w.heap.size + 2, 1, none⟩ = some (.slice A3 n3 c3)) := fun V hb => Lib.hid ⟨(t3.below' hb).fst, (t3.below' hb).snd⟩
  have B0 : Below W.heap.size W W := Below.refl _ _
  go_enter Tryd.func14, Tryd.ntmps14
  go_wp2_with fail
  rw [← hW]
  have HW := Lib.hid hW
  clear hW hWs t1 t2 t3
  refine ((L1 _).out).mono ?_
  rintro e v1 ⟨rfl, b1⟩
  have B1 := below_then B0 b1
  go_wp2_with fail
  refine ((AW _ B1).out).mono ?_
  rintro e y8 ⟨rfl, bb8⟩
  go_wp2
  go_ret
  exact ⟨rfl, below_then hbW bb8⟩
set_option maxHeartbeats 1600000 in
theorem long_2 (na nb nc : Bool) (A1 A2 A3 : Option Addr) (n1 c1 n2 c2 n3 c3 : Nat) (w : World) (ht : Tab w) (l1 : n1 ≤ 60) (l2 : 60 < n2) :
    Calls Tryd.prog 14 #[.agg #[.bool na, .slice A1 n1 c1], .agg #[.bool nb, .slice A2 n2 c2], .agg #[.bool nc, .slice A3 n3 c3]] w fun e w' => e = .returned (.bool true) ∧ Below w.heap.size w w' := by
  obtain ⟨W, hW⟩ : ∃ W, W = ((w.alloc (.cells #[.bool na, .slice A1 n1 c1] 24)).alloc (.cells #[.bool nb, .slice A2 n2 c2] 24)).alloc (.cells #[.bool nc, .slice A3 n3 c3] 24) := ⟨_, rfl⟩
  obtain ⟨t1, t2, t3, hbW, hWs⟩ := boxes3 w _ _ _ _ _ _ W hW
  have htW := ht.below hbW
  have k1 := t1.fst
  have k2 := t1.snd
  have L1 := fun W => Lib.hid (long_no na A1 n1 c1 l1 W)
  have L2 := fun W => Lib.hid (long_yes nb A2 n2 c2 l2 W)
  have AW : ∀ V, Below W.heap.size W V → Hid (Calls Tryd.prog 18 #[] V fun e w' => e = .returned (.bool true) ∧ Below W.heap.size W w') :=
    fun V hb => Lib.hid ((awake_any V (htW.below hb)).mono fun e w' ⟨he, hw⟩ => ⟨he, below_then hb hw⟩)
  have K2 : ∀ V, Below W.heap.size W V → Hid (V.cell? ⟨w.heap.size + 1, 0, none⟩ = some (.bool nb) ∧ V.cell? ⟨w.heap.size + 1, 1, none⟩ = some (.slice A2 n2 c2)) := fun V hb => Lib.hid ⟨(t2.below' hb).fst, (t2.below' hb).snd⟩
  have K3 : ∀ V, Below W.heap.size W V → Hid (V.cell? ⟨w.heap.size + 2, 0, none⟩ = some (.bool nc) ∧ V.cell? ⟨w.heap.size + 2, 1, none⟩ = some (.slice A3 n3 c3)) := fun V hb => Lib.hid ⟨(t3.below' hb).fst, (t3.below' hb).snd⟩
  have B0 : Below W.heap.size W W := Below.refl _ _
  go_enter Tryd.func14, Tryd.ntmps14
  go_wp2_with fail
  rw [← hW]
  have HW := Lib.hid hW
  clear hW hWs t1 t2 t3
  refine ((L1 _).out).mono ?_
  rintro e v1 ⟨rfl, b1⟩
  have B1 := below_then B0 b1
  have ⟨p2, p3⟩ := (K2 _ B1).out
  go_wp2_with fail
  refine ((L2 _).out).mono ?_
  rintro e v2 ⟨rfl, b2⟩
  have B2 := below_then B1 b2
  go_wp2_with fail
  refine ((AW _ B2).out).mono ?_
  rintro e y8 ⟨rfl, bb8⟩
  go_wp2
  go_ret
  exact ⟨rfl, below_then hbW bb8⟩
set_option maxHeartbeats 1600000 in
theorem long_3 (na nb nc : Bool) (A1 A2 A3 : Option Addr) (n1 c1 n2 c2 n3 c3 : Nat) (w : World) (ht : Tab w) (l1 : n1 ≤ 60) (l2 : n2 ≤ 60) (l3 : 60 < n3) :
    Calls Tryd.prog 14 #[.agg #[.bool na, .slice A1 n1 c1], .agg #[.bool nb, .slice A2 n2 c2], .agg #[.bool nc, .slice A3 n3 c3]] w fun e w' => e = .returned (.bool true) ∧ Below w.heap.size w w' := by
  obtain ⟨W, hW⟩ : ∃ W, W = ((w.alloc (.cells #[.bool na, .slice A1 n1 c1] 24)).alloc (.cells #[.bool nb, .slice A2 n2 c2] 24)).alloc (.cells #[.bool nc, .slice A3 n3 c3] 24) := ⟨_, rfl⟩
  obtain ⟨t1, t2, t3, hbW, hWs⟩ := boxes3 w _ _ _ _ _ _ W hW
  have htW := ht.below hbW
  have k1 := t1.fst
  have k2 := t1.snd
  have L1 := fun W => Lib.hid (long_no na A1 n1 c1 l1 W)
  have L2 := fun W => Lib.hid (long_no nb A2 n2 c2 l2 W)
  have L3 := fun W => Lib.hid (long_yes nc A3 n3 c3 l3 W)
  have AW : ∀ V, Below W.heap.size W V → Hid (Calls Tryd.prog 18 #[] V fun e w' => e = .returned (.bool true) ∧ Below W.heap.size W w') :=
    fun V hb => Lib.hid ((awake_any V (htW.below hb)).mono fun e w' ⟨he, hw⟩ => ⟨he, below_then hb hw⟩)
  have K2 : ∀ V, Below W.heap.size W V → Hid (V.cell? ⟨w.heap.size + 1, 0, none⟩ = some (.bool nb) ∧ V.cell? ⟨w.heap.size + 1, 1, none⟩ = some (.slice A2 n2 c2)) := fun V hb => Lib.hid ⟨(t2.below' hb).fst, (t2.below' hb).snd⟩
  have K3 : ∀ V, Below W.heap.size W V → Hid (V.cell? ⟨w.heap.size + 2, 0, none⟩ = some (.bool nc) ∧ V.cell? ⟨w.heap.size + 2, 1, none⟩ = some (.slice A3 n3 c3)) := fun V hb => Lib.hid ⟨(t3.below' hb).fst, (t3.below' hb).snd⟩
  have B0 : Below W.heap.size W W := Below.refl _ _
  go_enter Tryd.func14, Tryd.ntmps14
  go_wp2_with fail
  rw [← hW]
  have HW := Lib.hid hW
  clear hW hWs t1 t2 t3
  refine ((L1 _).out).mono ?_
  rintro e v1 ⟨rfl, b1⟩
  have B1 := below_then B0 b1
  have ⟨p2, p3⟩ := (K2 _ B1).out
  go_wp2_with fail
  refine ((L2 _).out).mono ?_
  rintro e v2 ⟨rfl, b2⟩
  have B2 := below_then B1 b2
  have ⟨p4, p5⟩ := (K3 _ B2).out
  go_wp2_with fail
  refine ((L3 _).out).mono ?_
  rintro e v3 ⟨rfl, b3⟩
  have B3 := below_then B2 b3
  go_wp2_with fail
  refine ((AW _ B3).out).mono ?_
  rintro e y8 ⟨rfl, bb8⟩
  go_wp2
  go_ret
  exact ⟨rfl, below_then hbW bb8⟩
theorem walk (na nb nc : Bool) (A1 A2 A3 : Option Addr) (n1 c1 n2 c2 n3 c3 : Nat) (sa sb sc : Int) (w : World) (ht : Tab w) (h1 : NumAt w na A1 n1 c1 sa) (h2 : NumAt w nb A2 n2 c2 sb) (h3 : NumAt w nc A3 n3 c3 sc) :
    Calls Tryd.prog 14 #[.agg #[.bool na, .slice A1 n1 c1], .agg #[.bool nb, .slice A2 n2 c2], .agg #[.bool nc, .slice A3 n3 c3]] w fun e w' => e = .returned (.bool true) ∧ Below w.heap.size w w' := by
  by_cases l1 : n1 ≤ 60
  · by_cases l2 : n2 ≤ 60
    · by_cases l3 : n3 ≤ 60
      · by_cases hf : dl (sa - sb).natAbs ≤ 48
        · exact main_yes na nb nc A1 A2 A3 n1 c1 n2 c2 n3 c3 sa sb sc _ _ _ w ht h1 h2 h3 l1 l2 l3 (Lib.hid rfl) (Lib.hid rfl) (Lib.hid rfl) (Lib.hid (cmpI_flip sa sb)) (Lib.hid (cmpI_sub sa sb)) (Lib.hid (cmpI_eq rfl)) (Lib.hid (cases3 sa sb sc)) (Lib.hid hf)
        · exact main_no na nb nc A1 A2 A3 n1 c1 n2 c2 n3 c3 sa sb sc _ _ _ w ht h1 h2 h3 l1 l2 l3 (Lib.hid rfl) (Lib.hid rfl) (Lib.hid rfl) (Lib.hid (cmpI_flip sa sb)) (Lib.hid (cmpI_sub sa sb)) (Lib.hid (cmpI_eq rfl)) (Lib.hid (cases3 sa sb sc)) (Lib.hid (by omega))
      · exact long_3 na nb nc A1 A2 A3 n1 c1 n2 c2 n3 c3 w ht l1 l2 (by omega)
    · exact long_2 na nb nc A1 A2 A3 n1 c1 n2 c2 n3 c3 w ht l1 (by omega)
  · exact long_1 na nb nc A1 A2 A3 n1 c1 n2 c2 n3 c3 w ht (by omega)
/-! The row's step. -/
set_option maxRecDepth 100000 in
theorem contract (H : Type) (enc : TypeId × Value → H) (W : World) (base : Nat) (args : Array Value) (ds gs : List (DataW H)) (before : List MemPlace)
    (hval : ∀ (j : Nat) t v, Tryd.f14.params[j]? = some t → args[j]? = some v → Value.okWide Tryd.prog W .any base t v)
    (hW : DataW.Whole enc Tryd.prog Tryd.f14.params.toList Rows.numOrderSpec.vars false W args.toList ds gs before) (hL : laidMetH Tryd.prog Rows.numOrderRow.laid W) :
    Calls Tryd.prog 14 args W fun e W' => ∃ v, e = .returned v ∧ Rows.numOrderSpec.post enc Tryd.prog Tryd.f14 false true false false W args v W' := by
  have hW' := hW
  obtain ⟨p, q, hA0, hV, rfl, hfz, hnd⟩ := hW
  have hA : DataW.TrodAll enc Tryd.prog W 0 (fun _ => true) true Tryd.f14.params.toList args.toList ds p := hA0
  obtain ⟨rfl, rfl⟩ := trodVars_none hV
  simp only [List.append_nil] at hW'
  have hlt : ∀ x ∈ p, x.block < W.heap.size := fun x hx => by simpa using hW'.lt x hx
  have hAk := hA
  rw [Tryd.params14] at hA hval
  obtain ⟨v0, vs0, d0, ds0, p0, q0, hargs, rfl, rfl, h0, r0⟩ := trodAll_cons hA
  obtain ⟨v1, vs1, d1, ds1, p1, q1, rfl, rfl, rfl, h1, r1⟩ := trodAll_cons r0
  obtain ⟨v2, vs2, d2, ds2, p2, q2, rfl, rfl, rfl, h2, r2⟩ := trodAll_cons r1
  obtain ⟨rfl, rfl, rfl⟩ := trodAll_nil r2
  obtain rfl : args = #[v0, v1, v2] := by cases args; simp_all
  obtain ⟨g0, A0, n0, c0, N0, rfl, m0⟩ := open_num (hval 0 24 v0 rfl rfl) h0
  obtain ⟨g1, A1, n1, c1, N1, rfl, m1⟩ := open_num (hval 1 24 v1 rfl rfl) h1
  obtain ⟨g2, A2, n2, c2, N2, rfl, m2⟩ := open_num (hval 2 24 v2 rfl rfl) h2
  refine (walk g0 g1 g2 A0 A1 A2 n0 c0 n1 c1 n2 c2 _ _ _ W (tab_of hL) ⟨N0, m0, rfl⟩ ⟨N1, m1, rfl⟩ ⟨N2, m2, rfl⟩).mono fun e W' ⟨he, hg⟩ => ?_
  subst he
  exact ⟨_, rfl, _, _, _, [], _, [], hW', (trodAll_cons_mk (shut_bool Tryd.underlying4 _) trodAll_mk0), below_all hg (by kernel_rfl) hAk hlt, rfl, hg.frame _, fun h => by cases h⟩
theorem laid_met (os : Os) : laidMet Tryd.prog Rows.numOrderRow.laid ((laidWorld os).forCall (fun _ _ => 0) ⟨#[], #[.agg #[.bool false, .slice none 0 0], .agg #[.bool false, .slice none 0 0], .agg #[.bool false, .slice none 0 0]], []⟩).memory :=
  laidMet_laidAll _ (by kernel_rfl) (by kernel_rfl)
theorem reads (os : Os) {H : Type} (enc : TypeId × Value → H) : ∃ places, DataW.whole enc Tryd.prog ((laidWorld os).forCall (fun _ _ => 0) ⟨#[], #[.agg #[.bool false, .slice none 0 0], .agg #[.bool false, .slice none 0 0], .agg #[.bool false, .slice none 0 0]], []⟩).memory Tryd.f14.params.toList Rows.numOrderSpec.vars false (#[(Value.agg #[.bool false, .slice none 0 0]), (Value.agg #[.bool false, .slice none 0 0]), (Value.agg #[.bool false, .slice none 0 0])] : Array Value).toList 8 = some ([.agg [.lit (.bool false), .nil], .agg [.lit (.bool false), .nil], .agg [.lit (.bool false), .nil]], [], places) :=
  ⟨[], by kernel_rfl⟩
set_option maxRecDepth 100000 in
theorem lifted (os : Os) (started : os.Started) (H : Type) (enc : TypeId × Value → H) (F : Stop.Interp) :
    ReturnsInHanded {} Tryd.checked os 14 .any ((OpenSpec.ofChange Rows.numOrderSpec).preRow enc Tryd.prog Tryd.f14 Rows.numOrderRow.domain false Rows.numOrderRow.laid) (((OpenSpec.ofChange Rows.numOrderSpec).at F).post enc Tryd.prog Tryd.f14 false true false false) := by
  obtain ⟨places, hx⟩ := reads os enc
  refine returnsInHanded_of_row (C := Tryd.checked) (s := OpenSpec.ofChange Rows.numOrderSpec) own started (by kernel_rfl) Tryd.func14
    (witness_row_at (enc := enc) (C := Tryd.checked) false (laidWorld os) #[.agg #[.bool false, .slice none 0 0], .agg #[.bool false, .slice none 0 0], .agg #[.bool false, .slice none 0 0]] (laidWorld_os os) (by kernel_rfl) (by kernel_rfl) (by kernel_rfl)
      (OpenSpec.preRow_of_cond 8 hx (by kernel_rfl) (fun k hk => by cases hk) (by kernel_rfl) (laid_met os))) ?_
  intro W base args ds gs before hval hW _ _ _ hL _ _
  exact contract H enc W base args ds gs before hval hW hL
theorem said : Rows.NumOrderSaid :=
  OpenClaim.holds_of_cond 14 Tryd.f14 rfl rfl rfl rfl rfl rfl rfl ⟨rfl, rfl, rfl, rfl, rfl⟩ rfl rfl rfl rfl rfl (by kernel_rfl) Tryd.func14 (by kernel_rfl)
    (of_decide_eq_true (by kernel_rfl)) (by unfold Func.isWrapper; first | (rw [if_pos (by decide +kernel)]; kernel_rfl) | (rw [if_neg (by decide +kernel)]; exact ⟨rfl, rfl⟩))
    (fun os started H enc _ F => by rw [OpenClaim.pre_eq_preRow]; exact lifted os started H enc F)
theorem plain (f : FuncId) (fn : Func) (hf : Tryd.pinned.checked.prog.funcNamed "moraine/morainelaw02.NumOrder" = some f) (hfn : Tryd.pinned.checked.prog.funcs[f]? = some fn) :
    false = Tryd.pinned.checked.prog.looks [] ∧ ∀ (j : Nat) t, fn.params[j]? = some t → Tryd.pinned.checked.prog.wantsStandIn t = false := by
  obtain rfl : f = 14 := Option.some.inj ((show Tryd.prog.funcNamed "moraine/morainelaw02.NumOrder" = some 14 by kernel_rfl).symm.trans hf) |>.symm
  obtain rfl : fn = Tryd.f14 := (Option.some.inj (Tryd.func14.symm.trans hfn)).symm
  refine ⟨by kernel_rfl, fun j t ht => ?_⟩
  rw [Tryd.params14] at ht
  have hm := Array.mem_of_getElem? ht
  have hall : (#[24, 24, 24] : Array TypeId).toList.all (fun t => !Tryd.prog.wantsStandIn t) = true := by kernel_rfl
  have := List.all_eq_true.1 hall t (by simpa using hm)
  exact (show Tryd.prog.wantsStandIn t = false by simpa using this)
/-- THE STATEMENT -/
theorem card : Rows.NumOrderCardSaid :=
  Claim7.holds_tied_plain_at .later [] _ _ _ _ said (fun _ h => by cases h) (by kernel_rfl) (fun _ h => by cases h) Go.Proofs.YtocoflojlliapaaDoor.numOrder_row_tie rfl ⟨rfl, rfl⟩ (by kernel_rfl) rfl plain (by kernel_rfl)
#print axioms card
end Go.Proofs.YtocoflojlliapaaDoor.numOrder
