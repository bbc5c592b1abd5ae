/- NumMay: THE LAW's WALK, AND THE STATEMENT. -/
import Derived.Test.YtocoflojlliapaaDoorK9
import Derived.Test.YtocoflojlliapaaDoorS1
import Derived.Deep.RegionWith
set_option linter.unusedVariables false
namespace Go.Proofs.YtocoflojlliapaaDoor.numMay
open Go.ChangeShapes Go.WideShapes Go.ChangeAt Go.RowKit Go.Proofs.YtocoflojlliapaaDoor
theorem norm_f {r : Bool} {A : Option Addr} {n c : Nat} {z : Int} (w : World) (h : NumAt w r A n c z) (hl : n ≤ 35184372088832) :
    Calls Tryd.prog 21 #[.agg #[.bool r, .slice A n c]] w fun e w' => TellsF w w' e z := by
  obtain ⟨N, hm, hz⟩ := h
  exact (norm_any r A n c N w hm hl).mono fun e w' hq => Gives.tellsF ⟨r, N, hq, hz⟩
theorem neg_f {r : Bool} {A : Option Addr} {n c : Nat} {z : Int} (w : World) (h : NumAt w r A n c z) (hl : n ≤ 35184372088832) :
    Calls Tryd.prog 22 #[.agg #[.bool r, .slice A n c]] w fun e w' => TellsF w w' e (-z) := by
  obtain ⟨N, hm, hz⟩ := h
  exact (neg_any r A n c N w hm hl).mono fun e w' hq => Gives.tellsF ⟨!r, N, hq, by
    rw [← hz]
    cases r
    · rw [sg_false]; exact sg_true N
    · rw [sg_true, Int.neg_neg]; exact sg_false N⟩
theorem TellsF.open {w w' : World} {e : Ending} {z : Int} (h : TellsF w w' e z) : ∃ r A m c, e = .returned (.tuple #[.agg #[.bool r, .slice A m c], .int .i64 (resV z)]) ∧ Can w' r A m c (resZ z) ∧ Room w' w.heap.size w'.heap.size A m ∧ m ≤ 48 ∧ Below w.heap.size w w' := by
  obtain ⟨r, A, m, c, rfl, rfl, rfl, hm, hf⟩ := h
  exact ⟨_, A, _, c, rfl, ⟨rfl, rfl, hm, (Mag.of_fresh hf).1⟩, Room.of_fresh hf, hm, hf.2⟩
theorem BVal.turn {w : World} {r : Bool} {B : Option Addr} {m d : Nat} {z : Int} (h : BVal w r B m d z) : BVal w (decide (-z < 0)) B m d (-z) := ⟨rfl, by rw [Int.natAbs_neg]; exact h.2.1, by rw [Int.natAbs_neg]; exact h.2.2⟩
theorem bval_nil (w : World) : BVal w false none 0 0 0 := ⟨rfl, rfl, Bit.none_ w⟩
theorem turn_b {r : Bool} {B : Option Addr} {m d : Nat} {z : Int} (w : World) (h : BVal w r B m d z) (hm : m ≤ 1000000) :
    Calls Tryd.prog 26 #[.agg #[.bool r, .slice B m d]] w fun e w' => e = .returned (.agg #[.bool (decide (-z < 0)), .slice B m d]) ∧ Below w.heap.size w w' :=
  (turn_any w h hm).mono fun e w' hq => by
    obtain ⟨r', m', rfl, ⟨h1, h2, h3⟩, hb⟩ := hq
    have : m' = m := by rw [h2, h.2.1, Int.natAbs_neg]
    subst this
    subst h1
    exact ⟨rfl, hb⟩
/-- what Fix and the row of bits say -/
theorem four (z : Int) (m : Nat) (r fb : Bool) (fv q : Int) (hm : m = bl z.natAbs) (hr : r = decide (z < 0)) (hfb : fb = fixB z) (hfv : fv = fixV z) (hq : cmpI z (-1152921504606846976) = q) :
    (fb = true ∧ fv = z ∧ m ≤ 60) ∨ (fb = true ∧ fv = z ∧ 60 < m ∧ r = true ∧ q = 0) ∨ (fb = false ∧ fv = 0 ∧ 60 < m ∧ r = false) ∨ (fb = false ∧ fv = 0 ∧ 60 < m ∧ r = true ∧ q = -1) := by
  have h60 := bl_le z.natAbs 60
  have hp : (2 : Nat) ^ 60 = 1152921504606846976 := by decide
  rw [hp] at h60
  subst hm hr hfb hfv hq
  by_cases h1 : -1152921504606846976 ≤ z ∧ z < 1152921504606846976
  · have e : fixB z = true := by unfold fixB; exact decide_eq_true h1
    rw [fixV, if_pos e, e]
    by_cases h2 : z.natAbs < 1152921504606846976
    · exact .inl ⟨rfl, rfl, h60.2 h2⟩
    · have hz : z = -1152921504606846976 := by omega
      refine .inr (.inl ⟨rfl, rfl, ?_, decide_eq_true (by omega), cmpI_eq hz⟩)
      have := mt h60.1 h2
      omega
  · have e : fixB z = false := by unfold fixB; exact decide_eq_false h1
    rw [fixV, if_neg (by rw [e]; decide), e]
    have h3 : 60 < bl z.natAbs := by
      have := mt h60.1 (by omega)
      omega
    by_cases h2 : z < 0
    · exact .inr (.inr (.inr ⟨rfl, rfl, h3, decide_eq_true h2, cmpI_lt (by omega)⟩))
    · exact .inr (.inr (.inl ⟨rfl, rfl, h3, decide_eq_false h2⟩))
theorem fix_fits {z : Int} (h : fixB z = true) : resV z = 0 ∧ resZ z = z := by
  unfold fixB at h
  have h := of_decide_eq_true h
  have : dl z.natAbs ≤ 48 := Nat.le_trans ((dl_le z.natAbs 2).2 (by omega)) (by decide)
  exact ⟨resV_yes this, resZ_yes this⟩
set_option maxHeartbeats 12800000 in
set_option maxRecDepth 100000 in
theorem main (r1 : Bool) (A1 : Option Addr) (n1 c1 : Nat) (xs : List Nat) (z : Int) (w : World) (ht : Tab w) (h1 : Limbs w A1 n1 c1 xs) (hz : sg r1 (val 4294967296 xs) = z) (l1 : n1 ≤ 60) :
    Calls Tryd.prog 3 #[.agg #[.bool r1, .slice A1 n1 c1]] w fun e w' => e = .returned (.bool true) ∧ Below w.heap.size w w' := by
  obtain ⟨W, hW⟩ : ∃ W, W = w.alloc (.cells #[.bool r1, .slice A1 n1 c1] 24) := ⟨_, rfl⟩
  have hbW : Below w.heap.size w W := by rw [hW]; exact below_al (Below.refl _ _) _
  have t1 : Two W w.heap.size 24 (.bool r1) (.slice A1 n1 c1) := by rw [hW]; exact Two.made w 24 _ _
  have LA := fun W => Lib.hid (long_no r1 A1 n1 c1 l1 W)
  have HZ := Lib.hid hz
  have hx := Lib.hid h1.2.1
  have hn := Lib.hid h1.2.2.1
  have R := h1.below hbW
  have NA : ∀ V, Limbs V A1 n1 c1 xs → NumAt V r1 A1 n1 c1 z := fun V h => ⟨_, h.mag, HZ.out⟩
  have AW : ∀ V, Below w.heap.size w V → Hid (Calls Tryd.prog 18 #[] V fun e w' => e = .returned (.bool true) ∧ Below V.heap.size V w') :=
    fun V hb => Lib.hid (awake_any V (ht.below hb))
  have k1 := t1.fst
  have k2 := t1.snd
  clear hz h1 ht
  go_enter Tryd.func3, Tryd.ntmps3
  go_wp2_with fail
  rw [← hW]
  have HW := Lib.hid hW
  clear hW
  refine ((LA _).out).mono ?_
  rintro e v1 ⟨rfl, b1⟩
  replace t1 := t1.below' b1
  replace R := R.below b1
  replace hbW := below_then hbW b1
  clear k1 k2 b1 LA
  have k1 := t1.fst
  have k2 := t1.snd
  go_wp2_with fail
  have CT := Lib.hid (copy_row r1 A1 n1 c1 xs v1 R (by omega))
  refine (CT.out).mono ?_
  clear CT
  rintro e y1 ⟨B2, d2, rfl, R2, b1⟩
  have bb := below_then b1 (below_al (Below.refl _ _) (.cells #[.bool r1, .slice B2 n1 d2] 24))
  have t2 := Two.made y1 24 (.bool r1) (.slice B2 n1 d2)
  replace t1 := t1.below' bb
  replace R := R.below bb
  replace R2 := R2.below (below_al (Below.refl _ _) (.cells #[.bool r1, .slice B2 n1 d2] 24))
  replace hbW := below_then hbW bb
  clear k1 k2 b1 bb
  have k1 := t2.fst
  have k2 := t2.snd
  go_wp2_with fail
  have CT := Lib.hid (refval_row _ R2 HZ.out (by omega))
  refine (CT.out).mono ?_
  clear CT
  rintro e y2 ⟨rv, B3, m3, d3, rfl, V3, b1⟩
  have m3b : m3 ≤ 2000 := Nat.le_trans (V3.len hx.out hn.out HZ.out rfl) (by omega)
  have bb := below_then b1 (below_al (Below.refl _ _) (.cells #[.bool rv, .slice B3 m3 d3] 30))
  have t3 := Two.made y2 30 (.bool rv) (.slice B3 m3 d3)
  replace t1 := t1.below' bb
  replace t2 := t2.below' bb
  replace R := R.below bb
  replace R2 := R2.below bb
  replace V3 := V3.below (below_al (Below.refl _ _) (.cells #[.bool rv, .slice B3 m3 d3] 30))
  replace hbW := below_then hbW bb
  clear k1 k2 b1 bb
  have k1 := t1.fst
  have k2 := t1.snd
  go_wp2_with fail
  obtain ⟨U, hU⟩ : ∃ U, U = y2.alloc (.cells #[.bool rv, .slice B3 m3 d3] 30) := ⟨_, rfl⟩
  rw [← hU] at t1 t2 t3 R R2 V3 hbW k1 k2 ⊢
  have hs3 : y2.heap.size < U.heap.size := by rw [hU]; simp
  have hs2 : y1.heap.size < U.heap.size := t2.lt
  have hs1 : w.heap.size < U.heap.size := t1.lt
  have HU := Lib.hid hU
  clear hU
  have CT := Lib.hid (norm_f U (NA U R) (by omega))
  refine (CT.out).mono ?_
  clear CT
  intro e y3 hq
  obtain ⟨ra, A4, m4, c4, rfl, Q4, M4, l4, b1⟩ := TellsF.open hq
  clear hq
  have ba := below_al (Below.refl y3.heap.size y3) (.cells #[.bool ra, .slice A4 m4 c4] 24)
  have BU := below_then b1 ba
  have u1 := t1.below' BU
  have u2 := t2.below' BU
  have u3 := t3.below' BU
  have u4 := Two.made y3 24 (.bool ra) (.slice A4 m4 c4)
  replace Q4 := Q4.below ba
  replace M4 := M4.below ba
  have RU := R.below BU
  have hs4 : U.heap.size ≤ y3.heap.size := b1.size
  clear k1 k2 b1 ba
  have k1 := u1.fst
  have k2 := u1.snd
  go_wp2_with fail
  obtain ⟨Y, hY⟩ : ∃ Y, Y = y3.alloc (.cells #[.bool ra, .slice A4 m4 c4] 24) := ⟨_, rfl⟩
  rw [← hY] at u1 u2 u3 u4 BU Q4 M4 RU k1 k2 ⊢
  have hs5 : y3.heap.size < Y.heap.size := by rw [hY]; simp
  have HY := Lib.hid hY
  clear hY
  have CT := Lib.hid (neg_f Y (NA Y RU) (by omega))
  refine (CT.out).mono ?_
  clear CT RU
  intro e y4 hq
  obtain ⟨rb, A5, m5, c5, rfl, Q5, M5, l5, b1⟩ := TellsF.open hq
  clear hq
  have ba := below_al (Below.refl y4.heap.size y4) (.cells #[.bool rb, .slice A5 m5 c5] 24)
  have bb := below_then b1 ba
  replace u1 := u1.below' bb
  replace u2 := u2.below' bb
  replace u3 := u3.below' bb
  replace u4 := u4.below' bb
  have u5 := Two.made y4 24 (.bool rb) (.slice A5 m5 c5)
  replace Q4 := Q4.below bb
  replace M4 := M4.below bb
  replace Q5 := Q5.below ba
  replace M5 := M5.below ba
  replace BU := below_then BU bb
  have hs6 : Y.heap.size ≤ y4.heap.size := b1.size
  clear k1 k2 b1 ba bb
  obtain ⟨X, hX⟩ : ∃ X, X = y4.alloc (.cells #[.bool rb, .slice A5 m5 c5] 24) := ⟨_, rfl⟩
  have X1 := hX ▸ u1
  have X2 := hX ▸ u2
  have X3 := hX ▸ u3
  have X4 := hX ▸ u4
  have X5 := hX ▸ u5
  have XQ4 := hX ▸ Q4
  have XQ5 := hX ▸ Q5
  have XM4 := hX ▸ M4
  have XM5 := hX ▸ M5
  have XB := hX ▸ BU
  have hs7 : y4.heap.size < X.heap.size := by rw [hX]; simp
  have HX := Lib.hid hX
  have k1 := u1.fst
  have k2 := u1.snd
  clear hX u1 u2 u3 u4 u5 Q4 Q5 M4 M5 BU
  have RX := R.below XB
  have RX2 := R2.below XB
  have VX := V3.below XB
  obtain ⟨L, hL⟩ : ∃ L, mayB r1 xs = L := ⟨_, rfl⟩
  obtain ⟨s, hs⟩ : ∃ s, cmpI z 0 = s := ⟨_, rfl⟩
  obtain ⟨rn, hrn⟩ : ∃ rn, decide (-z < 0) = rn := ⟨_, rfl⟩
  have VN : BVal X rn B3 m3 d3 (-z) := by rw [← hrn]; exact BVal.turn VX
  have C1 : ∀ V, Below X.heap.size X V → Hid (Calls Tryd.prog 23 #[.agg #[.bool r1, .slice A1 n1 c1]] V fun e w' => e = .returned (.bool L) ∧ Below X.heap.size X w') := fun V hb => Lib.hid ((may_row V (RX.below hb) (by omega)).mono fun e w' ⟨he, hw⟩ => ⟨by rw [he, hL], below_then hb hw⟩)
  have C2 : ∀ V, Below X.heap.size X V → Hid (Calls Tryd.prog 24 #[.agg #[.bool r1, .slice B2 n1 d2]] V fun e w' => e = .returned (.bool L) ∧ Below X.heap.size X w') := fun V hb => Lib.hid ((refmay_row V (RX2.below hb) HZ.out (by omega)).mono fun e w' ⟨he, hw⟩ => ⟨by rw [he, hL], below_then hb hw⟩)
  have C3 : ∀ V, Below X.heap.size X V → Hid (Calls Tryd.prog 25 #[.agg #[.bool ra, .slice A4 m4 c4], .int .i64 (resV z), .agg #[.bool rv, .slice B3 m3 d3]] V fun e w' => e = .returned (.bool true) ∧ Below X.heap.size X w') := fun V hb => Lib.hid ((is_can V (XQ4.below hb) (VX.below hb) (by omega) _ (Lib.hid rfl)).mono fun e w' ⟨he, hw⟩ => ⟨he, below_then hb hw⟩)
  have C4 : ∀ V, Below X.heap.size X V → Hid (Calls Tryd.prog 26 #[.agg #[.bool rv, .slice B3 m3 d3]] V fun e w' => e = .returned (.agg #[.bool rn, .slice B3 m3 d3]) ∧ Below X.heap.size X w') := fun V hb => Lib.hid ((turn_b V (VX.below hb) (by omega)).mono fun e w' ⟨he, hw⟩ => ⟨by rw [he, hrn], below_then hb hw⟩)
  have C5 : ∀ V, Below X.heap.size X V → Hid (Calls Tryd.prog 25 #[.agg #[.bool rb, .slice A5 m5 c5], .int .i64 (resV (-z)), .agg #[.bool rn, .slice B3 m3 d3]] V fun e w' => e = .returned (.bool true) ∧ Below X.heap.size X w') := fun V hb => Lib.hid ((is_can V (XQ5.below hb) (VN.below hb) (by omega) _ (Lib.hid rfl)).mono fun e w' ⟨he, hw⟩ => ⟨he, below_then hb hw⟩)
  have C6 : ∀ V, Below X.heap.size X V → Hid (Calls Tryd.prog 27 #[.agg #[.bool r1, .slice A1 n1 c1]] V fun e w' => e = .returned (.int .i64 s) ∧ Below X.heap.size X w') := fun V hb => Lib.hid ((sign_at V (NA V (RX.below hb)) (by omega)).mono fun e w' ⟨he, hw⟩ => ⟨by rw [he, hs], below_then hb hw⟩)
  have C7 : ∀ V, Below X.heap.size X V → Hid (Calls Tryd.prog 28 #[.agg #[.bool rv, .slice B3 m3 d3], .agg #[.bool false, .slice none 0 0]] V fun e w' => e = .returned (.int .i64 s) ∧ Below X.heap.size X w') := fun V hb => Lib.hid ((refcmp_at V (VX.below hb) (bval_nil V) (by omega) (by omega)).mono fun e w' ⟨he, hw⟩ => ⟨by rw [he, hs], below_then hb hw⟩)
  have KS : ∀ V, Below X.heap.size X V → (Below X.heap.size X V ∧ V.cell? ⟨w.heap.size, 0, none⟩ = some (.bool r1) ∧ V.cell? ⟨w.heap.size, 1, none⟩ = some (.slice A1 n1 c1) ∧ V.cell? ⟨y1.heap.size, 0, none⟩ = some (.bool r1) ∧ V.cell? ⟨y1.heap.size, 1, none⟩ = some (.slice B2 n1 d2) ∧ V.cell? ⟨y2.heap.size, 0, none⟩ = some (.bool rv) ∧ V.cell? ⟨y2.heap.size, 1, none⟩ = some (.slice B3 m3 d3) ∧ V.cell? ⟨y3.heap.size, 0, none⟩ = some (.bool ra) ∧ V.cell? ⟨y3.heap.size, 1, none⟩ = some (.slice A4 m4 c4) ∧ V.cell? ⟨y4.heap.size, 0, none⟩ = some (.bool rb) ∧ V.cell? ⟨y4.heap.size, 1, none⟩ = some (.slice A5 m5 c5)) := fun V hb => ⟨hb, (X1.below' hb).fst, (X1.below' hb).snd, (X2.below' hb).fst, (X2.below' hb).snd, (X3.below' hb).fst, (X3.below' hb).snd, (X4.below' hb).fst, (X4.below' hb).snd, (X5.below' hb).fst, (X5.below' hb).snd⟩
  have BX0 : Below X.heap.size X X := Below.refl _ _
  clear hL hs hrn k1 k2
  have k := KS X BX0
  have k1 := k.2.1
  have k2 := k.2.2.1
  have HRN := Lib.hid RX
  clear k
  have eL : (L != L) = false := by cases L <;> rfl
  have es : (s != s) = false := by simp
  all_goals
    go_wp2_with fail
    rw [← HX.out]
    go_region_held3 (fun V => Below X.heap.size X V ∧ V.cell? ⟨w.heap.size, 0, none⟩ = some (.bool r1) ∧ V.cell? ⟨w.heap.size, 1, none⟩ = some (.slice A1 n1 c1) ∧ V.cell? ⟨y1.heap.size, 0, none⟩ = some (.bool r1) ∧ V.cell? ⟨y1.heap.size, 1, none⟩ = some (.slice B2 n1 d2) ∧ V.cell? ⟨y2.heap.size, 0, none⟩ = some (.bool rv) ∧ V.cell? ⟨y2.heap.size, 1, none⟩ = some (.slice B3 m3 d3) ∧ V.cell? ⟨y3.heap.size, 0, none⟩ = some (.bool ra) ∧ V.cell? ⟨y3.heap.size, 1, none⟩ = some (.slice A4 m4 c4) ∧ V.cell? ⟨y4.heap.size, 0, none⟩ = some (.bool rb) ∧ V.cell? ⟨y4.heap.size, 1, none⟩ = some (.slice A5 m5 c5)) (exact KS _ (by first | assumption | exact Below.drew (by assumption)))
      (first
        | (go_at_call 23; refine ((C1 _ (by first | assumption | exact Below.drew (by assumption))).out).mono ?_; rintro e z1 ⟨rfl, zb1⟩)
        | (go_at_call 24; refine ((C2 _ (by first | assumption | exact Below.drew (by assumption))).out).mono ?_; rintro e z2 ⟨rfl, zb2⟩)
        | (go_at_call 26; refine ((C4 _ (by first | assumption | exact Below.drew (by assumption))).out).mono ?_; rintro e z4 ⟨rfl, zb4⟩)
        | (go_at_call 27; refine ((C6 _ (by first | assumption | exact Below.drew (by assumption))).out).mono ?_; rintro e z6 ⟨rfl, zb6⟩)
        | (go_at_call 28; refine ((C7 _ (by first | assumption | exact Below.drew (by assumption))).out).mono ?_; rintro e z7 ⟨rfl, zb7⟩)
        | (go_at_call 25; (with_reducible refine ((C3 _ (by first | assumption | exact Below.drew (by assumption))).out).mono ?_); rintro e z3 ⟨rfl, zb3⟩)
        | (go_at_call 25; (with_reducible refine ((C5 _ (by first | assumption | exact Below.drew (by assumption))).out).mono ?_); rintro e z5 ⟨rfl, zb5⟩))
    have d1 := X4.below' zb7
    have d2 := X5.below' zb7
    have N4 := XM4.below zb7
    have N5 := XM5.below zb7
    have EB := Lib.hid (below_then XB zb7)
    clear C1 C2 C3 C4 C5 C6 C7 KS k1 k2 zb1 zb2 zb3 zb4 zb5 zb6 BX0 X1 X2 X3 X4 X5 XQ4 XQ5 XM4 XM5 RX RX2 VX VN zb7 XB
    have k1 := d1.fst
    have k2 := d1.snd
    go_wp2_with fail
    have CT := Lib.hid (spoil_room ra A4 m4 c4 _ _ _ N4 (by omega))
    refine (CT.out).mono ?_
    clear CT
    rintro e z8 ⟨rfl, S8⟩
    clear k1 k2
    have k1 := (S8.two d2 (by omega)).fst
    have k2 := (S8.two d2 (by omega)).snd
    have N5' := S8.room N5 (by omega)
    have E8 := Lib.hid (S8.after EB.out (by omega))
    go_wp2_with fail
    have CT := Lib.hid (spoil_room rb A5 m5 c5 _ _ _ N5' (by omega))
    refine (CT.out).mono ?_
    clear CT
    rintro e z9 ⟨rfl, S9⟩
    have E9 := S9.after E8.out (by omega)
    clear k1 k2 S8 S9 E8 N5 N5' N4 d1 d2 EB
    have p1 := t1.below' E9
    have p2 := t2.below' E9
    have p3 := t3.below' E9
    have PR := R.below E9
    have PR2 := R2.below E9
    have PV := V3.below E9
    have B9 := Lib.hid (below_then hbW E9)
    clear E9 t1 t2 t3 R R2 V3
    have k1 := p1.fst
    have k2 := p1.snd
    obtain ⟨fv, hfv⟩ : ∃ v, v = fixV z := ⟨_, rfl⟩
    obtain ⟨fb, hfb⟩ : ∃ v, v = fixB z := ⟨_, rfl⟩
    obtain ⟨q, hq⟩ : ∃ v, cmpI z (-1152921504606846976) = v := ⟨_, rfl⟩
    have F4 := Lib.hid (four z m3 rv fb fv q PV.2.1 PV.1 hfb hfv hq)
    have HFB := Lib.hid hfb
    have HQ := Lib.hid hq
    have HFV := Lib.hid hfv
    go_wp2_with fail
    have CT := Lib.hid (fix_at z9 (NA z9 PR) (by omega))
    rw [← hfv, ← hfb] at CT
    refine (CT.out).mono ?_
    clear CT hfv hfb hq
    rintro e z10 ⟨rfl, bb⟩
    replace p1 := p1.below' bb
    replace p2 := p2.below' bb
    replace p3 := p3.below' bb
    replace PR := PR.below bb
    replace PR2 := PR2.below bb
    replace PV := PV.below bb
    have B10 := Lib.hid (below_then B9.out bb)
    clear bb k1 k2 B9
    have k1 := p1.fst
    have k2 := p1.snd
    have k3 := p3.fst
    have k4 := p3.snd
    clear HRN HU
    rcases F4.out with ⟨rfl, rfl, hm⟩ | ⟨rfl, rfl, hm, rfl, rfl⟩ | ⟨rfl, rfl, hm, rfl⟩ | ⟨rfl, rfl, hm, rfl, rfl⟩
    · clear F4
      go_wp2_with fail
      have hff := HFB.out.symm
      have hbd := of_decide_eq_true (show decide (-1152921504606846976 ≤ fv ∧ fv < 1152921504606846976) = true from hff)
      have D1 : ∀ V, Below z10.heap.size z10 V → Hid (Calls Tryd.prog 32 #[.int .i64 fv] V fun e w' => ∃ r A m c, e = .returned (.agg #[.bool r, .slice A m c]) ∧ Can w' r A m c fv ∧ Below z10.heap.size z10 w') := fun V hb => Lib.hid ((of_can fv (by omega) (by omega) V).mono fun e w' hq => by
        obtain ⟨r, A, m, c, he, hc, hw⟩ := hq
        exact ⟨r, A, m, c, he, hc, below_then hb hw⟩)
      have D2 : ∀ V r A m c, Below z10.heap.size z10 V → Can V r A m c fv → Hid (Calls Tryd.prog 25 #[.agg #[.bool r, .slice A m c], .int .i64 0, .agg #[.bool rv, .slice B3 m3 d3]] V fun e w' => e = .returned (.bool true) ∧ Below z10.heap.size z10 w') := fun V r A m c hb hc => Lib.hid ((is_can V (by rw [(fix_fits hff).2]; exact hc) (PV.below hb) (by omega) 0 (Lib.hid (fix_fits hff).1)).mono fun e w' ⟨he, hw⟩ => ⟨he, below_then hb hw⟩)
      have HBD := Lib.hid hbd
      have HFF := Lib.hid hff
      clear hbd hff
      have D3 : ∀ V, Below z10.heap.size z10 V → Hid (Calls Tryd.prog 33 #[.agg #[.bool r1, .slice A1 n1 c1], .agg #[.bool r1, .slice B2 n1 d2]] V fun e w' => e = .returned (.bool true) ∧ Below z10.heap.size z10 w') := fun V hb => Lib.hid ((same_rows (PR.below hb) (PR2.below hb) (by omega)).mono fun e w' ⟨he, hw⟩ => ⟨he, below_then hb hw⟩)
      have D4 : ∀ V, Below z10.heap.size z10 V → Hid (Calls Tryd.prog 18 #[] V fun e w' => e = .returned (.bool true) ∧ Below z10.heap.size z10 w') := fun V hb => Lib.hid (((AW V (below_then B10.out hb)).out).mono fun e w' ⟨he, hw⟩ => ⟨he, below_then hb hw⟩)
      have KS : ∀ V, Below z10.heap.size z10 V → (Below z10.heap.size z10 V ∧ V.cell? ⟨w.heap.size, 0, none⟩ = some (.bool r1) ∧ V.cell? ⟨w.heap.size, 1, none⟩ = some (.slice A1 n1 c1) ∧ V.cell? ⟨y1.heap.size, 0, none⟩ = some (.bool r1) ∧ V.cell? ⟨y1.heap.size, 1, none⟩ = some (.slice B2 n1 d2) ∧ V.cell? ⟨y2.heap.size, 0, none⟩ = some (.bool rv) ∧ V.cell? ⟨y2.heap.size, 1, none⟩ = some (.slice B3 m3 d3)) := fun V hb => ⟨hb, (p1.below' hb).fst, (p1.below' hb).snd, (p2.below' hb).fst, (p2.below' hb).snd, (p3.below' hb).fst, (p3.below' hb).snd⟩
      have BZ : Below z10.heap.size z10 z10 := Below.refl _ _
      have k := KS z10 BZ
      have k1 := k.2.1
      have k2 := k.2.2.1
      clear k p1 p2 p3 PR PR2 PV
      go_region_held3 (fun V => Below z10.heap.size z10 V ∧ V.cell? ⟨w.heap.size, 0, none⟩ = some (.bool r1) ∧ V.cell? ⟨w.heap.size, 1, none⟩ = some (.slice A1 n1 c1) ∧ V.cell? ⟨y1.heap.size, 0, none⟩ = some (.bool r1) ∧ V.cell? ⟨y1.heap.size, 1, none⟩ = some (.slice B2 n1 d2) ∧ V.cell? ⟨y2.heap.size, 0, none⟩ = some (.bool rv) ∧ V.cell? ⟨y2.heap.size, 1, none⟩ = some (.slice B3 m3 d3)) (exact KS _ (by first | assumption | exact Below.drew (by assumption)))
        (first
          | (go_at_call 32; refine ((D1 _ (by first | assumption | exact Below.drew (by assumption))).out).mono ?_; rintro e f1 ⟨r6, A6, m6, c6, rfl, Q6, fb1⟩)
          | (go_at_call 25; refine ((D2 _ r6 A6 m6 c6 (by first | assumption | exact Below.drew (by assumption)) (by exact Q6)).out).mono ?_; rintro e f2 ⟨rfl, fb2⟩)
          | (go_at_call 33; refine ((D3 _ (by first | assumption | exact Below.drew (by assumption))).out).mono ?_; rintro e f3 ⟨rfl, fb3⟩)
          | (go_at_call 18; refine ((D4 _ (by first | assumption | exact Below.drew (by assumption))).out).mono ?_; rintro e f4 ⟨rfl, fb4⟩))
      go_wp2
      go_ret
      exact ⟨rfl, below_then B10.out fb4⟩
    · clear F4
      go_wp2_with fail
      have hbu := below_al (Below.refl z10.heap.size z10) (.cells #[.int .u32 0, .int .u32 268435456] 43)
      have NM : NumAt (z10.alloc (.cells #[.int .u32 0, .int .u32 268435456] 43)) true (some ⟨z10.heap.size, 0, none⟩) 2 2 (-1152921504606846976) := ⟨_, Mag.pair z10 0 268435456 (by decide) (by decide), by rw [sg_true]; rfl⟩
      have CT := Lib.hid ((cmp_at _ (NA _ (PR.below hbu)) NM (by omega) (by omega)).mono fun e w' ⟨he, hw⟩ => (⟨he.trans (by rw [HQ.out]), below_then hbu hw⟩ : e = Ending.returned (Value.int .i64 0) ∧ Below z10.heap.size z10 w'))
      refine (CT.out).mono ?_
      clear CT NM hbu
      rintro e z11 ⟨rfl, bb⟩
      replace p1 := p1.below' bb
      replace p2 := p2.below' bb
      replace p3 := p3.below' bb
      replace PR := PR.below bb
      replace PR2 := PR2.below bb
      replace PV := PV.below bb
      replace B10 := Lib.hid (below_then B10.out bb)
      clear bb k1 k2 k3 k4
      go_wp2_with fail
      have hff := HFB.out.symm
      have hbd := of_decide_eq_true (show decide (-1152921504606846976 ≤ fv ∧ fv < 1152921504606846976) = true from hff)
      have D1 : ∀ V, Below z11.heap.size z11 V → Hid (Calls Tryd.prog 32 #[.int .i64 fv] V fun e w' => ∃ r A m c, e = .returned (.agg #[.bool r, .slice A m c]) ∧ Can w' r A m c fv ∧ Below z11.heap.size z11 w') := fun V hb => Lib.hid ((of_can fv (by omega) (by omega) V).mono fun e w' hq => by
        obtain ⟨r, A, m, c, he, hc, hw⟩ := hq
        exact ⟨r, A, m, c, he, hc, below_then hb hw⟩)
      have D2 : ∀ V r A m c, Below z11.heap.size z11 V → Can V r A m c fv → Hid (Calls Tryd.prog 25 #[.agg #[.bool r, .slice A m c], .int .i64 0, .agg #[.bool true, .slice B3 m3 d3]] V fun e w' => e = .returned (.bool true) ∧ Below z11.heap.size z11 w') := fun V r A m c hb hc => Lib.hid ((is_can V (by rw [(fix_fits hff).2]; exact hc) (PV.below hb) (by omega) 0 (Lib.hid (fix_fits hff).1)).mono fun e w' ⟨he, hw⟩ => ⟨he, below_then hb hw⟩)
      have HBD := Lib.hid hbd
      have HFF := Lib.hid hff
      clear hbd hff
      have D3 : ∀ V, Below z11.heap.size z11 V → Hid (Calls Tryd.prog 33 #[.agg #[.bool r1, .slice A1 n1 c1], .agg #[.bool r1, .slice B2 n1 d2]] V fun e w' => e = .returned (.bool true) ∧ Below z11.heap.size z11 w') := fun V hb => Lib.hid ((same_rows (PR.below hb) (PR2.below hb) (by omega)).mono fun e w' ⟨he, hw⟩ => ⟨he, below_then hb hw⟩)
      have D4 : ∀ V, Below z11.heap.size z11 V → Hid (Calls Tryd.prog 18 #[] V fun e w' => e = .returned (.bool true) ∧ Below z11.heap.size z11 w') := fun V hb => Lib.hid (((AW V (below_then B10.out hb)).out).mono fun e w' ⟨he, hw⟩ => ⟨he, below_then hb hw⟩)
      have KS : ∀ V, Below z11.heap.size z11 V → (Below z11.heap.size z11 V ∧ V.cell? ⟨w.heap.size, 0, none⟩ = some (.bool r1) ∧ V.cell? ⟨w.heap.size, 1, none⟩ = some (.slice A1 n1 c1) ∧ V.cell? ⟨y1.heap.size, 0, none⟩ = some (.bool r1) ∧ V.cell? ⟨y1.heap.size, 1, none⟩ = some (.slice B2 n1 d2) ∧ V.cell? ⟨y2.heap.size, 0, none⟩ = some (.bool true) ∧ V.cell? ⟨y2.heap.size, 1, none⟩ = some (.slice B3 m3 d3)) := fun V hb => ⟨hb, (p1.below' hb).fst, (p1.below' hb).snd, (p2.below' hb).fst, (p2.below' hb).snd, (p3.below' hb).fst, (p3.below' hb).snd⟩
      have BZ : Below z11.heap.size z11 z11 := Below.refl _ _
      have k := KS z11 BZ
      have k1 := k.2.1
      have k2 := k.2.2.1
      clear k p1 p2 p3 PR PR2 PV
      go_region_held3 (fun V => Below z11.heap.size z11 V ∧ V.cell? ⟨w.heap.size, 0, none⟩ = some (.bool r1) ∧ V.cell? ⟨w.heap.size, 1, none⟩ = some (.slice A1 n1 c1) ∧ V.cell? ⟨y1.heap.size, 0, none⟩ = some (.bool r1) ∧ V.cell? ⟨y1.heap.size, 1, none⟩ = some (.slice B2 n1 d2) ∧ V.cell? ⟨y2.heap.size, 0, none⟩ = some (.bool true) ∧ V.cell? ⟨y2.heap.size, 1, none⟩ = some (.slice B3 m3 d3)) (exact KS _ (by first | assumption | exact Below.drew (by assumption)))
        (first
          | (go_at_call 32; refine ((D1 _ (by first | assumption | exact Below.drew (by assumption))).out).mono ?_; rintro e f1 ⟨r6, A6, m6, c6, rfl, Q6, fb1⟩)
          | (go_at_call 25; refine ((D2 _ r6 A6 m6 c6 (by first | assumption | exact Below.drew (by assumption)) (by exact Q6)).out).mono ?_; rintro e f2 ⟨rfl, fb2⟩)
          | (go_at_call 33; refine ((D3 _ (by first | assumption | exact Below.drew (by assumption))).out).mono ?_; rintro e f3 ⟨rfl, fb3⟩)
          | (go_at_call 18; refine ((D4 _ (by first | assumption | exact Below.drew (by assumption))).out).mono ?_; rintro e f4 ⟨rfl, fb4⟩))
      go_wp2
      go_ret
      exact ⟨rfl, below_then B10.out fb4⟩
    · clear F4
      have em : decide ((m3 : Int) ≤ 60) = false := decide_eq_false (by omega)
      go_wp2_with fail
      have D3 : ∀ V, Below z10.heap.size z10 V → Hid (Calls Tryd.prog 33 #[.agg #[.bool r1, .slice A1 n1 c1], .agg #[.bool r1, .slice B2 n1 d2]] V fun e w' => e = .returned (.bool true) ∧ Below z10.heap.size z10 w') := fun V hb => Lib.hid ((same_rows (PR.below hb) (PR2.below hb) (by omega)).mono fun e w' ⟨he, hw⟩ => ⟨he, below_then hb hw⟩)
      have D4 : ∀ V, Below z10.heap.size z10 V → Hid (Calls Tryd.prog 18 #[] V fun e w' => e = .returned (.bool true) ∧ Below z10.heap.size z10 w') := fun V hb => Lib.hid (((AW V (below_then B10.out hb)).out).mono fun e w' ⟨he, hw⟩ => ⟨he, below_then hb hw⟩)
      have KS : ∀ V, Below z10.heap.size z10 V → (Below z10.heap.size z10 V ∧ V.cell? ⟨w.heap.size, 0, none⟩ = some (.bool r1) ∧ V.cell? ⟨w.heap.size, 1, none⟩ = some (.slice A1 n1 c1) ∧ V.cell? ⟨y1.heap.size, 0, none⟩ = some (.bool r1) ∧ V.cell? ⟨y1.heap.size, 1, none⟩ = some (.slice B2 n1 d2)) := fun V hb => ⟨hb, (p1.below' hb).fst, (p1.below' hb).snd, (p2.below' hb).fst, (p2.below' hb).snd⟩
      have BZ : Below z10.heap.size z10 z10 := Below.refl _ _
      have k := KS z10 BZ
      have k1 := k.2.1
      have k2 := k.2.2.1
      clear p1 p2 p3 PR PR2 PV
      have k3 := k.2.2.2.1
      have k4 := k.2.2.2.2
      clear k
      first | (go_region_with (first
          | (go_at_call 33; refine ((D3 _ (by first | assumption | exact Below.drew (by assumption))).out).mono ?_; rintro e f3 ⟨rfl, fb3⟩)
          | (go_at_call 18; refine ((D4 _ (by first | assumption | exact Below.drew (by assumption))).out).mono ?_; rintro e f4 ⟨rfl, fb4⟩))) | fail
      all_goals go_wp2
      all_goals go_ret
      all_goals exact ⟨rfl, below_then B10.out (by assumption)⟩
    · clear F4
      go_wp2_with fail
      have hbu := below_al (Below.refl z10.heap.size z10) (.cells #[.int .u32 0, .int .u32 268435456] 43)
      have NM : NumAt (z10.alloc (.cells #[.int .u32 0, .int .u32 268435456] 43)) true (some ⟨z10.heap.size, 0, none⟩) 2 2 (-1152921504606846976) := ⟨_, Mag.pair z10 0 268435456 (by decide) (by decide), by rw [sg_true]; rfl⟩
      have CT := Lib.hid ((cmp_at _ (NA _ (PR.below hbu)) NM (by omega) (by omega)).mono fun e w' ⟨he, hw⟩ => (⟨he.trans (by rw [HQ.out]), below_then hbu hw⟩ : e = Ending.returned (Value.int .i64 (-1)) ∧ Below z10.heap.size z10 w'))
      refine (CT.out).mono ?_
      clear CT NM hbu
      rintro e z11 ⟨rfl, bb⟩
      replace p1 := p1.below' bb
      replace p2 := p2.below' bb
      replace p3 := p3.below' bb
      replace PR := PR.below bb
      replace PR2 := PR2.below bb
      replace PV := PV.below bb
      replace B10 := Lib.hid (below_then B10.out bb)
      clear bb k1 k2 k3 k4
      go_wp2_with fail
      have D3 : ∀ V, Below z11.heap.size z11 V → Hid (Calls Tryd.prog 33 #[.agg #[.bool r1, .slice A1 n1 c1], .agg #[.bool r1, .slice B2 n1 d2]] V fun e w' => e = .returned (.bool true) ∧ Below z11.heap.size z11 w') := fun V hb => Lib.hid ((same_rows (PR.below hb) (PR2.below hb) (by omega)).mono fun e w' ⟨he, hw⟩ => ⟨he, below_then hb hw⟩)
      have D4 : ∀ V, Below z11.heap.size z11 V → Hid (Calls Tryd.prog 18 #[] V fun e w' => e = .returned (.bool true) ∧ Below z11.heap.size z11 w') := fun V hb => Lib.hid (((AW V (below_then B10.out hb)).out).mono fun e w' ⟨he, hw⟩ => ⟨he, below_then hb hw⟩)
      have KS : ∀ V, Below z11.heap.size z11 V → (Below z11.heap.size z11 V ∧ V.cell? ⟨w.heap.size, 0, none⟩ = some (.bool r1) ∧ V.cell? ⟨w.heap.size, 1, none⟩ = some (.slice A1 n1 c1) ∧ V.cell? ⟨y1.heap.size, 0, none⟩ = some (.bool r1) ∧ V.cell? ⟨y1.heap.size, 1, none⟩ = some (.slice B2 n1 d2)) := fun V hb => ⟨hb, (p1.below' hb).fst, (p1.below' hb).snd, (p2.below' hb).fst, (p2.below' hb).snd⟩
      have BZ : Below z11.heap.size z11 z11 := Below.refl _ _
      have k := KS z11 BZ
      have k1 := k.2.1
      have k2 := k.2.2.1
      clear p1 p2 p3 PR PR2 PV
      have k3 := k.2.2.2.1
      have k4 := k.2.2.2.2
      clear k
      first | (go_region_with (first
          | (go_at_call 33; refine ((D3 _ (by first | assumption | exact Below.drew (by assumption))).out).mono ?_; rintro e f3 ⟨rfl, fb3⟩)
          | (go_at_call 18; refine ((D4 _ (by first | assumption | exact Below.drew (by assumption))).out).mono ?_; rintro e f4 ⟨rfl, fb4⟩))) | fail
      all_goals go_wp2
      all_goals go_ret
      all_goals exact ⟨rfl, below_then B10.out (by assumption)⟩
set_option maxHeartbeats 1600000 in
set_option maxRecDepth 100000 in
theorem long_1 (na : Bool) (A1 : Option Addr) (n1 c1 : Nat) (w : World) (ht : Tab w) (l1 : 60 < n1) :
    Calls Tryd.prog 3 #[.agg #[.bool na, .slice A1 n1 c1]] w fun e w' => e = .returned (.bool true) ∧ Below w.heap.size w w' := by
  obtain ⟨W, hW⟩ : ∃ W, W = w.alloc (.cells #[.bool na, .slice A1 n1 c1] 24) := ⟨_, rfl⟩
  have hbW : Below w.heap.size w W := by rw [hW]; exact below_al (Below.refl _ _) _
  have t1 : Two W w.heap.size 24 (.bool na) (.slice A1 n1 c1) := by rw [hW]; exact Two.made w 24 _ _
  have L1 := fun W => Lib.hid (long_yes na A1 n1 c1 l1 W)
  have AW : ∀ V, Below w.heap.size w V → Hid (Calls Tryd.prog 18 #[] V fun e w' => e = .returned (.bool true) ∧ Below w.heap.size w w') :=
    fun V hb => Lib.hid ((awake_any V (ht.below hb)).mono fun e w' ⟨he, hw⟩ => ⟨he, below_then hb hw⟩)
  have k1 := t1.fst
  have k2 := t1.snd
  go_enter Tryd.func3, Tryd.ntmps3
  go_wp2_with fail
  rw [← hW]
  have HW := Lib.hid hW
  clear hW t1
  refine ((L1 _).out).mono ?_
  rintro e v1 ⟨rfl, b1⟩
  have B1 := below_then hbW b1
  go_wp2_with fail
  refine ((AW _ B1).out).mono ?_
  rintro e y8 ⟨rfl, bb8⟩
  go_wp2
  go_ret
  exact ⟨rfl, bb8⟩
theorem walk (r1 : Bool) (A1 : Option Addr) (n1 c1 : Nat) (z : Int) (w : World) (ht : Tab w) (h1 : NumAt w r1 A1 n1 c1 z) :
    Calls Tryd.prog 3 #[.agg #[.bool r1, .slice A1 n1 c1]] w fun e w' => e = .returned (.bool true) ∧ Below w.heap.size w w' := by
  by_cases l1 : n1 ≤ 60
  · obtain ⟨xs, hx, hz⟩ := h1.row
    exact main r1 A1 n1 c1 xs z w ht hx hz l1
  · exact long_1 r1 A1 n1 c1 w ht (by omega)
/-! The row's step. -/
set_option maxRecDepth 100000 in
theorem contract (H : Type) (enc : TypeId × Value → H) (W : World) (base : Nat) (args : Array Value) (ds gs : List (DataW H)) (before : List MemPlace)
    (hval : ∀ (j : Nat) t v, Tryd.f3.params[j]? = some t → args[j]? = some v → Value.okWide Tryd.prog W .any base t v)
    (hW : DataW.Whole enc Tryd.prog Tryd.f3.params.toList Rows.numMaySpec.vars false W args.toList ds gs before) (hL : laidMetH Tryd.prog Rows.numMayRow.laid W) :
    Calls Tryd.prog 3 args W fun e W' => ∃ v, e = .returned v ∧ Rows.numMaySpec.post enc Tryd.prog Tryd.f3 false true false false W args v W' := by
  have hW' := hW
  obtain ⟨p, q, hA0, hV, rfl, hfz, hnd⟩ := hW
  have hA : DataW.TrodAll enc Tryd.prog W 0 (fun _ => true) true Tryd.f3.params.toList args.toList ds p := hA0
  obtain ⟨rfl, rfl⟩ := trodVars_none hV
  simp only [List.append_nil] at hW'
  have hlt : ∀ x ∈ p, x.block < W.heap.size := fun x hx => by simpa using hW'.lt x hx
  have hAk := hA
  rw [Tryd.params3] at hA hval
  obtain ⟨v0, vs0, d0, ds0, p0, q0, hargs, rfl, rfl, h0, r0⟩ := trodAll_cons hA
  obtain ⟨rfl, rfl, rfl⟩ := trodAll_nil r0
  obtain rfl : args = #[v0] := by cases args; simp_all
  obtain ⟨g0, A0, n0, c0, N0, rfl, m0⟩ := open_num (hval 0 24 v0 rfl rfl) h0
  refine (walk g0 A0 n0 c0 _ W (tab_of hL) ⟨N0, m0, rfl⟩).mono fun e W' ⟨he, hg⟩ => ?_
  subst he
  exact ⟨_, rfl, _, _, _, [], _, [], hW', (trodAll_cons_mk (shut_bool Tryd.underlying4 _) trodAll_mk0), below_all hg (by kernel_rfl) hAk hlt, rfl, hg.frame _, fun h => by cases h⟩
theorem laid_met (os : Os) : laidMet Tryd.prog Rows.numMayRow.laid ((laidWorld os).forCall (fun _ _ => 0) ⟨#[], #[.agg #[.bool false, .slice none 0 0]], []⟩).memory :=
  laidMet_laidAll _ (by kernel_rfl) (by kernel_rfl)
theorem reads (os : Os) {H : Type} (enc : TypeId × Value → H) : ∃ places, DataW.whole enc Tryd.prog ((laidWorld os).forCall (fun _ _ => 0) ⟨#[], #[.agg #[.bool false, .slice none 0 0]], []⟩).memory Tryd.f3.params.toList Rows.numMaySpec.vars false (#[(Value.agg #[.bool false, .slice none 0 0])] : Array Value).toList 8 = some ([.agg [.lit (.bool false), .nil]], [], places) :=
  ⟨[], by kernel_rfl⟩
set_option maxRecDepth 100000 in
theorem lifted (os : Os) (started : os.Started) (H : Type) (enc : TypeId × Value → H) (F : Stop.Interp) :
    ReturnsInHanded {} Tryd.checked os 3 .any ((OpenSpec.ofChange Rows.numMaySpec).preRow enc Tryd.prog Tryd.f3 Rows.numMayRow.domain false Rows.numMayRow.laid) (((OpenSpec.ofChange Rows.numMaySpec).at F).post enc Tryd.prog Tryd.f3 false true false false) := by
  obtain ⟨places, hx⟩ := reads os enc
  refine returnsInHanded_of_row (C := Tryd.checked) (s := OpenSpec.ofChange Rows.numMaySpec) own started (by kernel_rfl) Tryd.func3
    (witness_row_at (enc := enc) (C := Tryd.checked) false (laidWorld os) #[.agg #[.bool false, .slice none 0 0]] (laidWorld_os os) (by kernel_rfl) (by kernel_rfl) (by kernel_rfl)
      (OpenSpec.preRow_of_cond 8 hx (by kernel_rfl) (fun k hk => by cases hk) (by kernel_rfl) (laid_met os))) ?_
  intro W base args ds gs before hval hW _ _ _ hL _ _
  exact contract H enc W base args ds gs before hval hW hL
theorem said : Rows.NumMaySaid :=
  OpenClaim.holds_of_cond 3 Tryd.f3 rfl rfl rfl rfl rfl rfl rfl ⟨rfl, rfl, rfl, rfl, rfl⟩ rfl rfl rfl rfl rfl (by kernel_rfl) Tryd.func3 (by kernel_rfl)
    (of_decide_eq_true (by kernel_rfl)) (by unfold Func.isWrapper; first | (rw [if_pos (by decide +kernel)]; kernel_rfl) | (rw [if_neg (by decide +kernel)]; exact ⟨rfl, rfl⟩))
    (fun os started H enc _ F => by rw [OpenClaim.pre_eq_preRow]; exact lifted os started H enc F)
theorem plain (f : FuncId) (fn : Func) (hf : Tryd.pinned.checked.prog.funcNamed "moraine/morainelaw02.NumMay" = some f) (hfn : Tryd.pinned.checked.prog.funcs[f]? = some fn) :
    false = Tryd.pinned.checked.prog.looks [] ∧ ∀ (j : Nat) t, fn.params[j]? = some t → Tryd.pinned.checked.prog.wantsStandIn t = false := by
  obtain rfl : f = 3 := Option.some.inj ((show Tryd.prog.funcNamed "moraine/morainelaw02.NumMay" = some 3 by kernel_rfl).symm.trans hf) |>.symm
  obtain rfl : fn = Tryd.f3 := (Option.some.inj (Tryd.func3.symm.trans hfn)).symm
  refine ⟨by kernel_rfl, fun j t ht => ?_⟩
  rw [Tryd.params3] at ht
  have hm := Array.mem_of_getElem? ht
  have hall : (#[24] : Array TypeId).toList.all (fun t => !Tryd.prog.wantsStandIn t) = true := by kernel_rfl
  have := List.all_eq_true.1 hall t (by simpa using hm)
  exact (show Tryd.prog.wantsStandIn t = false by simpa using this)
/-- THE STATEMENT -/
theorem card : Rows.NumMayCardSaid :=
  Claim7.holds_tied_plain_at .later [] _ _ _ _ said (fun _ h => by cases h) (by kernel_rfl) (fun _ h => by cases h) Go.Proofs.YtocoflojlliapaaDoor.numMay_row_tie rfl ⟨rfl, rfl⟩ (by kernel_rfl) rfl plain (by kernel_rfl)
#print axioms card
end Go.Proofs.YtocoflojlliapaaDoor.numMay
