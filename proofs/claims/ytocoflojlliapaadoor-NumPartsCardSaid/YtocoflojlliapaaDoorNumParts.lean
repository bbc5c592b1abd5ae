/- NumParts: THE LAW's WALK, AND THE STATEMENT. -/
import Derived.Test.YtocoflojlliapaaDoorG2
import Derived.Deep.RegionHeld3
set_option linter.unusedVariables false
set_option linter.unusedSimpArgs false
namespace Go.Proofs.YtocoflojlliapaaDoor.numParts
open Go.ChangeShapes Go.WideShapes Go.ChangeAt Go.RowKit Go.Proofs.YtocoflojlliapaaDoor
theorem NumAt.dl {w : World} {r : Bool} {A : Option Addr} {m c : Nat} {z : Int} (h : NumAt w r A m c z) : dl z.natAbs ≤ m := by
  obtain ⟨M, hm, hz⟩ := h
  rw [← sg_abs hz]
  exact hm.le
theorem NumAt.magA {w : World} {r : Bool} {A : Option Addr} {m c : Nat} {z : Int} (h : NumAt w r A m c z) : Mag w A m c z.natAbs := by
  obtain ⟨M, hm, hz⟩ := h
  rw [← sg_abs hz]
  exact hm
theorem row_pair {V : World} {r1 r2 : Bool} {A1 A2 : Option Addr} {n1 c1 n2 c2 a b : Nat} (h1 : Mag V A1 n1 c1 a) (h2 : Mag V A2 n2 c2 b) (l1 : n1 ≤ 1000) (l2 : n2 ≤ 1000) :
    Row24 (V.alloc (.cells #[.bool r1, .slice A1 n1 c1, .bool r2, .slice A2 n2 c2] 24)) (some ⟨V.heap.size, 0, none⟩) [a, b] := by
  have hb := below_al (Below.refl V.heap.size V) (.cells #[.bool r1, .slice A1 n1 c1, .bool r2, .slice A2 n2 c2] 24)
  have hh : (V.alloc (.cells #[.bool r1, .slice A1 n1 c1, .bool r2, .slice A2 n2 c2] 24)).heap[V.heap.size]? = some (.cells #[.bool r1, .slice A1 n1 c1, .bool r2, .slice A2 n2 c2] 24 (0, 0)) := heap_alloc_new V _
  intro i hi
  match i, hi with
  | 0, _ => exact ⟨⟨V.heap.size, 0, none⟩, _, _, r1, A1, n1, c1, rfl, rfl, rfl, by simp, cell_of_row _ _ 0 _ 24 (0, 0) hh, cell_of_row _ _ 1 _ 24 (0, 0) hh, l1, h1.below hb⟩
  | 1, _ => exact ⟨⟨V.heap.size, 0, none⟩, _, _, r2, A2, n2, c2, rfl, rfl, rfl, by simp, cell_of_row _ _ 2 _ 24 (0, 0) hh, cell_of_row _ _ 3 _ 24 (0, 0) hh, l2, h2.below hb⟩
theorem TellsF.fits {w w' : World} {e : Ending} {z : Int} (h : TellsF w w' e z) (hf : dl z.natAbs ≤ 48) : ∃ r A m c, e = .returned (.tuple #[.agg #[.bool r, .slice A m c], .int .i64 0]) ∧ NumAt w' r A m c z ∧ m = dl z.natAbs ∧ Below w.heap.size w w' := by
  obtain ⟨r, A, m, c, rfl, Q, _, _, hb⟩ := TellsF.opened h
  rw [resV_yes hf]
  rw [resZ_yes hf] at Q
  exact ⟨r, A, m, c, rfl, Q.at, Q.2.1, hb⟩
theorem gcd_two (a b : Nat) : gcdL [a, b] = Nat.gcd a b := by simp [gcdL]
theorem of_one (V : World) : Calls Tryd.prog 32 #[.int .i64 1] V fun e w' => ∃ r A m c, e = .returned (.agg #[.bool r, .slice A m c]) ∧ (NumAt w' r A m c 1 ∧ m ≤ 48) ∧ Below V.heap.size V w' := by
  have h := of_can 1 (by omega) (by omega) V
  refine h.mono fun e w' hq => ?_
  obtain ⟨r, A, m, c, he, hc, hw⟩ := hq
  exact ⟨r, A, m, c, he, ⟨hc.at, hc.le⟩, hw⟩
theorem abs_sg {x : Int} : x < 0 ∨ x = 0 ∨ 0 < x := Int.lt_trichotomy x 0
set_option maxHeartbeats 12800000 in
set_option maxRecDepth 100000 in
theorem mainZ (r1 r2 : Bool) (A1 A2 : Option Addr) (n1 c1 n2 c2 : Nat) (x y : Int) (w : World) (ht : Tab w) (h1 : NumAt w r1 A1 n1 c1 x) (h2 : NumAt w r2 A2 n2 c2 y) (l1 : n1 ≤ 24) (l2 : n2 ≤ 24) (hx : x = 0) (hy : y = 0) :
    Calls Tryd.prog 16 #[.agg #[.bool r1, .slice A1 n1 c1], .agg #[.bool r2, .slice A2 n2 c2]] w fun e w' => e = .returned (.bool true) ∧ Below w.heap.size w w' := by
  obtain ⟨W, hW⟩ : ∃ W, W = (w.alloc (.cells #[.bool r1, .slice A1 n1 c1] 24)).alloc (.cells #[.bool r2, .slice A2 n2 c2] 24) := ⟨_, rfl⟩
  obtain ⟨t1, t2, hbW, hWs⟩ := boxes24 w _ _ _ _ W hW
  have AW : ∀ V, Below w.heap.size w V → Hid (Calls Tryd.prog 18 #[] V fun e w' => e = .returned (.bool true) ∧ Below V.heap.size V w') :=
    fun V hb => Lib.hid (awake_any V (ht.below hb))
  have m1 := h1.below hbW
  have m2 := h2.below hbW
  have DX : dl x.natAbs ≤ 24 := by have := NumAt.dl h1; omega
  have DY : dl y.natAbs ≤ 24 := by have := NumAt.dl h2; omega
  have GC1 : ∀ V A, Row24 V A [x.natAbs, y.natAbs] → Hid (Calls Tryd.prog 44 #[.slice A 2 2] V fun e w' => ∃ r A m c, e = .returned (.tuple #[.agg #[.bool r, .slice A m c], .int .i64 0]) ∧ NumAt w' r A m c (((0 : Nat) : Int)) ∧ m ≤ 48 ∧ Below V.heap.size V w') := fun V A h => Lib.hid ((gcd_at A 2 2 _ V h rfl (by omega)).mono fun e w' hq => by
    have hg2 : gcdL [x.natAbs, y.natAbs] = 0 := (by rw [gcd_two, hx, hy]; rfl)
    rw [hg2] at hq
    obtain ⟨r, A, m, c, he, hn, hm, hb⟩ := TellsF.fits hq (by decide)
    exact ⟨r, A, m, c, he, hn, by rw [hm]; decide, hb⟩)
  have SG : ∀ V r A m c, NumAt V r A m c ((0 : Nat) : Int) → m ≤ 48 → Hid (Calls Tryd.prog 27 #[.agg #[.bool r, .slice A m c]] V fun e w' => e = .returned (.int .i64 0) ∧ Below V.heap.size V w') := fun V r A m c h hm => Lib.hid ((sign_at V h (by omega)).mono fun e w' ⟨he, hb⟩ => ⟨by rw [he, cmpI_eq (show (((0 : Nat) : Int)) = 0 from rfl)], hb⟩)
  have SA : ∀ V, NumAt V r1 A1 n1 c1 x → Hid (Calls Tryd.prog 27 #[.agg #[.bool r1, .slice A1 n1 c1]] V fun e w' => e = .returned (.int .i64 0) ∧ Below V.heap.size V w') := fun V h => Lib.hid ((sign_at V h (by omega)).mono fun e w' ⟨he, hb⟩ => ⟨by rw [he, cmpI_eq hx], hb⟩)
  have SB : ∀ V, NumAt V r2 A2 n2 c2 y → Hid (Calls Tryd.prog 27 #[.agg #[.bool r2, .slice A2 n2 c2]] V fun e w' => e = .returned (.int .i64 0) ∧ Below V.heap.size V w') := fun V h => Lib.hid ((sign_at V h (by omega)).mono fun e w' ⟨he, hb⟩ => ⟨by rw [he, cmpI_eq hy], hb⟩)
  have k1 := t1.fst
  have k2 := t1.snd
  have k3 := t2.fst
  have k4 := t2.snd
  clear hx ht h1 h2 hy DX DY
  go_enter Tryd.func16, Tryd.ntmps16
  go_wp2_with fail
  rw [← hW]
  have HW := Lib.hid hW
  have RP := row_pair (r1 := r1) (r2 := r2) (NumAt.magA m1) (NumAt.magA m2) (by omega) (by omega)
  have hWs2 : W.heap.size = w.heap.size + 1 + 1 := hWs
  rw [hWs2] at RP
  clear hWs2
  clear hW hWs
  have ba := below_al (Below.refl W.heap.size W) (.cells #[.bool r1, .slice A1 n1 c1, .bool r2, .slice A2 n2 c2] 24)
  refine ((GC1 _ _ RP).out).mono ?_
  clear RP
  rintro e y1 ⟨rg, Ag, mg, cg, rfl, ng, lg, b1⟩
  replace b1 := below_then ba b1
  clear ba
  have bc := below_al (Below.refl y1.heap.size y1) (.cells #[.bool rg, .slice Ag mg cg] 24)
  have bb := below_then b1 bc
  replace t1 := t1.below' bb
  replace t2 := t2.below' bb
  replace m1 := m1.below bb
  replace m2 := m2.below bb
  replace hbW := below_then hbW bb
  have tg := Two.made y1 24 (.bool rg) (.slice Ag mg cg)
  replace ng := ng.below bc
  clear k1 k2 k3 k4 b1 bb bc GC1
  obtain ⟨X, hX⟩ : ∃ X, X = y1.alloc (.cells #[.bool rg, .slice Ag mg cg] 24) := ⟨_, rfl⟩
  rw [← hX] at t1 t2 m1 m2 hbW tg ng
  have KS : ∀ V, Below X.heap.size X V → (Below X.heap.size X V ∧ V.cell? ⟨w.heap.size, 0, none⟩ = some (.bool r1) ∧ V.cell? ⟨w.heap.size, 1, none⟩ = some (.slice A1 n1 c1) ∧ V.cell? ⟨w.heap.size + 1, 0, none⟩ = some (.bool r2) ∧ V.cell? ⟨w.heap.size + 1, 1, none⟩ = some (.slice A2 n2 c2) ∧ V.cell? ⟨y1.heap.size, 0, none⟩ = some (.bool rg) ∧ V.cell? ⟨y1.heap.size, 1, none⟩ = some (.slice Ag mg cg)) := fun V hb => ⟨hb, (t1.below' hb).fst, (t1.below' hb).snd, (t2.below' hb).fst, (t2.below' hb).snd, (tg.below' hb).fst, (tg.below' hb).snd⟩
  have BX0 : Below X.heap.size X X := Below.refl _ _
  have CG : ∀ V, Below X.heap.size X V → Hid (Calls Tryd.prog 27 #[.agg #[.bool rg, .slice Ag mg cg]] V fun e w' => e = .returned (.int .i64 0) ∧ Below X.heap.size X w') := fun V hb => Lib.hid (((SG V _ _ _ _ (ng.below hb) lg).out).mono fun e w' ⟨he, hw⟩ => ⟨he, below_then hb hw⟩)
  have CA : ∀ V, Below X.heap.size X V → Hid (Calls Tryd.prog 27 #[.agg #[.bool r1, .slice A1 n1 c1]] V fun e w' => e = .returned (.int .i64 0) ∧ Below X.heap.size X w') := fun V hb => Lib.hid (((SA V (m1.below hb)).out).mono fun e w' ⟨he, hw⟩ => ⟨he, below_then hb hw⟩)
  have CB : ∀ V, Below X.heap.size X V → Hid (Calls Tryd.prog 27 #[.agg #[.bool r2, .slice A2 n2 c2]] V fun e w' => e = .returned (.int .i64 0) ∧ Below X.heap.size X w') := fun V hb => Lib.hid (((SB V (m2.below hb)).out).mono fun e w' ⟨he, hw⟩ => ⟨he, below_then hb hw⟩)
  go_wp2_with fail
  rw [← hX]
  have HX := Lib.hid hX
  clear hX
  have XB := hbW
  clear hbW
  go_region_held3 (fun V => Below X.heap.size X V ∧ V.cell? ⟨w.heap.size, 0, none⟩ = some (.bool r1) ∧ V.cell? ⟨w.heap.size, 1, none⟩ = some (.slice A1 n1 c1) ∧ V.cell? ⟨w.heap.size + 1, 0, none⟩ = some (.bool r2) ∧ V.cell? ⟨w.heap.size + 1, 1, none⟩ = some (.slice A2 n2 c2) ∧ V.cell? ⟨y1.heap.size, 0, none⟩ = some (.bool rg) ∧ V.cell? ⟨y1.heap.size, 1, none⟩ = some (.slice Ag mg cg)) (exact KS _ (by first | assumption | exact Below.drew (by assumption)))
    (first
      | (go_at_call 27; (with_reducible refine ((CG _ (by first | assumption | exact Below.drew (by assumption))).out).mono ?_); rintro e yf ⟨rfl, bb⟩)
      | (go_at_call 27; (with_reducible refine ((CA _ (by first | assumption | exact Below.drew (by assumption))).out).mono ?_); rintro e yf ⟨rfl, bb⟩)
      | (go_at_call 27; (with_reducible refine ((CB _ (by first | assumption | exact Below.drew (by assumption))).out).mono ?_); rintro e yf ⟨rfl, bb⟩))
  have fb := (show Below X.heap.size X _ from (by first | assumption | exact Below.drew (by assumption)))
  have hbW := below_then XB fb
  replace t1 := t1.below' fb
  replace t2 := t2.below' fb
  replace m1 := m1.below fb
  replace m2 := m2.below fb
  replace tg := tg.below' fb
  replace ng := ng.below fb
  clear KS BX0 CG CA fb CB XB SB SA
  have k1 := tg.fst
  have k2 := tg.snd
  go_wp2_with fail
  refine ((SG _ _ _ _ _ ng lg).out).mono ?_
  rintro e z0 ⟨rfl, bb⟩
  replace hbW := below_then hbW bb
  clear k1 k2 bb
  go_wp2_with fail
  refine ((AW _ hbW).out).mono ?_
  rintro e y8 ⟨rfl, bb8⟩
  go_wp2
  go_ret
  exact ⟨rfl, below_then hbW bb8⟩
set_option maxHeartbeats 12800000 in
set_option maxRecDepth 100000 in
theorem mainP (r1 r2 : Bool) (A1 A2 : Option Addr) (n1 c1 n2 c2 : Nat) (x y : Int) (w : World) (ht : Tab w) (h1 : NumAt w r1 A1 n1 c1 x) (h2 : NumAt w r2 A2 n2 c2 y) (l1 : n1 ≤ 24) (l2 : n2 ≤ 24) (hx : 0 < x) :
    Calls Tryd.prog 16 #[.agg #[.bool r1, .slice A1 n1 c1], .agg #[.bool r2, .slice A2 n2 c2]] w fun e w' => e = .returned (.bool true) ∧ Below w.heap.size w w' := by
  obtain ⟨W, hW⟩ : ∃ W, W = (w.alloc (.cells #[.bool r1, .slice A1 n1 c1] 24)).alloc (.cells #[.bool r2, .slice A2 n2 c2] 24) := ⟨_, rfl⟩
  obtain ⟨t1, t2, hbW, hWs⟩ := boxes24 w _ _ _ _ W hW
  have AW : ∀ V, Below w.heap.size w V → Hid (Calls Tryd.prog 18 #[] V fun e w' => e = .returned (.bool true) ∧ Below V.heap.size V w') :=
    fun V hb => Lib.hid (awake_any V (ht.below hb))
  have m1 := h1.below hbW
  have m2 := h2.below hbW
  have DX : dl x.natAbs ≤ 24 := by have := NumAt.dl h1; omega
  have DY : dl y.natAbs ≤ 24 := by have := NumAt.dl h2; omega
  obtain ⟨g, hg⟩ : ∃ g, Nat.gcd x.natAbs y.natAbs = g := ⟨_, rfl⟩
  have hg0 : 0 < g := by rw [← hg]; exact Nat.gcd_pos_iff.2 (by omega)
  have dx : g ∣ x.natAbs := by rw [← hg]; exact Nat.gcd_dvd_left _ _
  have dy : g ∣ y.natAbs := by rw [← hg]; exact Nat.gcd_dvd_right _ _
  have DG : dl g ≤ 24 := by rw [← hg]; exact dl_gcd DX DY
  obtain ⟨p, hp⟩ : ∃ p, Int.tdiv x (g : Nat) = p := ⟨_, rfl⟩
  obtain ⟨q, hq⟩ : ∃ q, Int.tdiv y (g : Nat) = q := ⟨_, rfl⟩
  have rx : Int.tmod x (g : Nat) = 0 := Int.tmod_eq_zero_of_dvd (Int.dvd_natAbs.1 (Int.natCast_dvd_natCast.2 dx))
  have ry : Int.tmod y (g : Nat) = 0 := Int.tmod_eq_zero_of_dvd (Int.dvd_natAbs.1 (Int.natCast_dvd_natCast.2 dy))
  have ap : p.natAbs = x.natAbs / g := by rw [← hp, Int.natAbs_tdiv]; rfl
  have aq : q.natAbs = y.natAbs / g := by rw [← hq, Int.natAbs_tdiv]; rfl
  have DP : dl p.natAbs ≤ 24 := by rw [ap]; exact Nat.le_trans (dl_mono (Nat.div_le_self _ _)) DX
  have DQ : dl q.natAbs ≤ 24 := by rw [aq]; exact Nat.le_trans (dl_mono (Nat.div_le_self _ _)) DY
  have g1 : Nat.gcd p.natAbs q.natAbs = 1 := by rw [ap, aq, ← hg]; rw [Nat.gcd_div (Nat.gcd_dvd_left _ _) (Nat.gcd_dvd_right _ _)]; exact Nat.div_self (by rw [hg]; exact hg0)
  have gi : ((g : Nat) : Int) ≠ 0 := by omega
  have GC1 : ∀ V A, Row24 V A [x.natAbs, y.natAbs] → Hid (Calls Tryd.prog 44 #[.slice A 2 2] V fun e w' => ∃ r A m c, e = .returned (.tuple #[.agg #[.bool r, .slice A m c], .int .i64 0]) ∧ NumAt w' r A m c (((g : Nat) : Int)) ∧ m ≤ 48 ∧ Below V.heap.size V w') := fun V A h => Lib.hid ((gcd_at A 2 2 _ V h rfl (by omega)).mono fun e w' hq => by
    have hg2 : gcdL [x.natAbs, y.natAbs] = g := (by rw [gcd_two, hg])
    rw [hg2] at hq
    obtain ⟨r, A, m, c, he, hn, hm, hb⟩ := TellsF.fits hq (show dl g ≤ 48 by omega)
    exact ⟨r, A, m, c, he, hn, by rw [hm]; exact (show dl g ≤ 48 by omega), hb⟩)
  have QX : ∀ V r A m c, NumAt V r A m c ((g : Nat) : Int) → m ≤ 48 → NumAt V r1 A1 n1 c1 x → Hid (Calls Tryd.prog 40 #[.agg #[.bool r1, .slice A1 n1 c1], .agg #[.bool r, .slice A m c]] V fun e w' => ∃ r A m c, e = .returned (.tuple #[.agg #[.bool r, .slice A m c], .int .i64 0]) ∧ NumAt w' r A m c (p) ∧ m ≤ 48 ∧ Below V.heap.size V w') := fun V r A m c h hm h1 => Lib.hid ((quo_at V h1 h (by omega) (by omega) gi).mono fun e w' hz => by
    have hz := hz.tellsF
    rw [hp] at hz
    obtain ⟨r, A, m, c, he, hn, hm, hb⟩ := TellsF.fits hz (show dl p.natAbs ≤ 48 by omega)
    exact ⟨r, A, m, c, he, hn, by rw [hm]; exact (show dl p.natAbs ≤ 48 by omega), hb⟩)
  have QY : ∀ V r A m c, NumAt V r A m c ((g : Nat) : Int) → m ≤ 48 → NumAt V r2 A2 n2 c2 y → Hid (Calls Tryd.prog 40 #[.agg #[.bool r2, .slice A2 n2 c2], .agg #[.bool r, .slice A m c]] V fun e w' => ∃ r A m c, e = .returned (.tuple #[.agg #[.bool r, .slice A m c], .int .i64 0]) ∧ NumAt w' r A m c (q) ∧ m ≤ 48 ∧ Below V.heap.size V w') := fun V r A m c h hm h1 => Lib.hid ((quo_at V h1 h (by omega) (by omega) gi).mono fun e w' hz => by
    have hz := hz.tellsF
    rw [hq] at hz
    obtain ⟨r, A, m, c, he, hn, hm, hb⟩ := TellsF.fits hz (show dl q.natAbs ≤ 48 by omega)
    exact ⟨r, A, m, c, he, hn, by rw [hm]; exact (show dl q.natAbs ≤ 48 by omega), hb⟩)
  have RX : ∀ V r A m c, NumAt V r A m c ((g : Nat) : Int) → m ≤ 48 → NumAt V r1 A1 n1 c1 x → Hid (Calls Tryd.prog 41 #[.agg #[.bool r1, .slice A1 n1 c1], .agg #[.bool r, .slice A m c]] V fun e w' => ∃ r A m c, e = .returned (.tuple #[.agg #[.bool r, .slice A m c], .int .i64 0]) ∧ NumAt w' r A m c (0) ∧ m ≤ 48 ∧ Below V.heap.size V w') := fun V r A m c h hm h1 => Lib.hid ((rem_at V h1 h (by omega) (by omega) gi).mono fun e w' hz => by
    have hz := hz.tellsF
    rw [rx] at hz
    obtain ⟨r, A, m, c, he, hn, hm, hb⟩ := TellsF.fits hz (show dl (0 : Int).natAbs ≤ 48 by decide)
    exact ⟨r, A, m, c, he, hn, by rw [hm]; exact (show dl (0 : Int).natAbs ≤ 48 by decide), hb⟩)
  have RY : ∀ V r A m c, NumAt V r A m c ((g : Nat) : Int) → m ≤ 48 → NumAt V r2 A2 n2 c2 y → Hid (Calls Tryd.prog 41 #[.agg #[.bool r2, .slice A2 n2 c2], .agg #[.bool r, .slice A m c]] V fun e w' => ∃ r A m c, e = .returned (.tuple #[.agg #[.bool r, .slice A m c], .int .i64 0]) ∧ NumAt w' r A m c (0) ∧ m ≤ 48 ∧ Below V.heap.size V w') := fun V r A m c h hm h1 => Lib.hid ((rem_at V h1 h (by omega) (by omega) gi).mono fun e w' hz => by
    have hz := hz.tellsF
    rw [ry] at hz
    obtain ⟨r, A, m, c, he, hn, hm, hb⟩ := TellsF.fits hz (show dl (0 : Int).natAbs ≤ 48 by decide)
    exact ⟨r, A, m, c, he, hn, by rw [hm]; exact (show dl (0 : Int).natAbs ≤ 48 by decide), hb⟩)
  have GC2 : ∀ V A, Row24 V A [p.natAbs, q.natAbs] → Hid (Calls Tryd.prog 44 #[.slice A 2 2] V fun e w' => ∃ r A m c, e = .returned (.tuple #[.agg #[.bool r, .slice A m c], .int .i64 0]) ∧ NumAt w' r A m c (1) ∧ m ≤ 48 ∧ Below V.heap.size V w') := fun V A h => Lib.hid ((gcd_at A 2 2 _ V h rfl (by omega)).mono fun e w' hz => by
    have hg2 : gcdL [p.natAbs, q.natAbs] = 1 := by rw [gcd_two, g1]
    rw [hg2] at hz
    obtain ⟨r, A, m, c, he, hn, hm, hb⟩ := TellsF.fits hz (show dl 1 ≤ 48 by decide)
    exact ⟨r, A, m, c, he, hn, by rw [hm]; exact (show dl 1 ≤ 48 by decide), hb⟩)
  have S0 : ∀ V r A m c, NumAt V r A m c 0 → m ≤ 48 → Hid (Calls Tryd.prog 27 #[.agg #[.bool r, .slice A m c]] V fun e w' => e = .returned (.int .i64 0) ∧ Below V.heap.size V w') := fun V r A m c h hm => Lib.hid ((sign_at V h (by omega)).mono fun e w' ⟨he, hb⟩ => ⟨by rw [he, cmpI_eq rfl], hb⟩)
  have SG : ∀ V r A m c, NumAt V r A m c ((g : Nat) : Int) → m ≤ 48 → Hid (Calls Tryd.prog 27 #[.agg #[.bool r, .slice A m c]] V fun e w' => e = .returned (.int .i64 1) ∧ Below V.heap.size V w') := fun V r A m c h hm => Lib.hid ((sign_at V h (by omega)).mono fun e w' ⟨he, hb⟩ => ⟨by rw [he, cmpI_gt (by omega)], hb⟩)
  have SA : ∀ V, NumAt V r1 A1 n1 c1 x → Hid (Calls Tryd.prog 27 #[.agg #[.bool r1, .slice A1 n1 c1]] V fun e w' => e = .returned (.int .i64 1) ∧ Below V.heap.size V w') := fun V h => Lib.hid ((sign_at V h (by omega)).mono fun e w' ⟨he, hb⟩ => ⟨by rw [he, cmpI_gt hx], hb⟩)
  have k1 := t1.fst
  have k2 := t1.snd
  have k3 := t2.fst
  have k4 := t2.snd
  clear hx ht h1 h2 hg hp hq rx ry ap aq g1 gi DP DQ dx dy hg0 DG DX DY
  have l1' := l1
  go_enter Tryd.func16, Tryd.ntmps16
  go_wp2_with fail
  rw [← hW]
  have HW := Lib.hid hW
  have RP := row_pair (r1 := r1) (r2 := r2) (NumAt.magA m1) (NumAt.magA m2) (by omega) (by omega)
  have hWs2 : W.heap.size = w.heap.size + 1 + 1 := hWs
  rw [hWs2] at RP
  clear hWs2
  clear hW hWs
  have ba := below_al (Below.refl W.heap.size W) (.cells #[.bool r1, .slice A1 n1 c1, .bool r2, .slice A2 n2 c2] 24)
  refine ((GC1 _ _ RP).out).mono ?_
  clear RP
  rintro e y1 ⟨rg, Ag, mg, cg, rfl, ng, lg, b1⟩
  replace b1 := below_then ba b1
  clear ba
  have bc := below_al (Below.refl y1.heap.size y1) (.cells #[.bool rg, .slice Ag mg cg] 24)
  have bb := below_then b1 bc
  replace t1 := t1.below' bb
  replace t2 := t2.below' bb
  replace m1 := m1.below bb
  replace m2 := m2.below bb
  replace hbW := below_then hbW bb
  have tg := Two.made y1 24 (.bool rg) (.slice Ag mg cg)
  replace ng := ng.below bc
  clear k1 k2 k3 k4 b1 bb bc GC1
  obtain ⟨X, hX⟩ : ∃ X, X = y1.alloc (.cells #[.bool rg, .slice Ag mg cg] 24) := ⟨_, rfl⟩
  rw [← hX] at t1 t2 m1 m2 hbW tg ng
  have KS : ∀ V, Below X.heap.size X V → (Below X.heap.size X V ∧ V.cell? ⟨w.heap.size, 0, none⟩ = some (.bool r1) ∧ V.cell? ⟨w.heap.size, 1, none⟩ = some (.slice A1 n1 c1) ∧ V.cell? ⟨w.heap.size + 1, 0, none⟩ = some (.bool r2) ∧ V.cell? ⟨w.heap.size + 1, 1, none⟩ = some (.slice A2 n2 c2) ∧ V.cell? ⟨y1.heap.size, 0, none⟩ = some (.bool rg) ∧ V.cell? ⟨y1.heap.size, 1, none⟩ = some (.slice Ag mg cg)) := fun V hb => ⟨hb, (t1.below' hb).fst, (t1.below' hb).snd, (t2.below' hb).fst, (t2.below' hb).snd, (tg.below' hb).fst, (tg.below' hb).snd⟩
  have BX0 : Below X.heap.size X X := Below.refl _ _
  have CG : ∀ V, Below X.heap.size X V → Hid (Calls Tryd.prog 27 #[.agg #[.bool rg, .slice Ag mg cg]] V fun e w' => e = .returned (.int .i64 1) ∧ Below X.heap.size X w') := fun V hb => Lib.hid (((SG V _ _ _ _ (ng.below hb) lg).out).mono fun e w' ⟨he, hw⟩ => ⟨he, below_then hb hw⟩)
  have CA : ∀ V, Below X.heap.size X V → Hid (Calls Tryd.prog 27 #[.agg #[.bool r1, .slice A1 n1 c1]] V fun e w' => e = .returned (.int .i64 1) ∧ Below X.heap.size X w') := fun V hb => Lib.hid (((SA V (m1.below hb)).out).mono fun e w' ⟨he, hw⟩ => ⟨he, below_then hb hw⟩)
  go_wp2_with fail
  rw [← hX]
  have HX := Lib.hid hX
  clear hX
  have XB := hbW
  clear hbW
  refine wp_region_held_drew (S := fun V => Below X.heap.size X V ∧ V.cell? ⟨w.heap.size, 0, none⟩ = some (.bool r1) ∧ V.cell? ⟨w.heap.size, 1, none⟩ = some (.slice A1 n1 c1) ∧ V.cell? ⟨w.heap.size + 1, 0, none⟩ = some (.bool r2) ∧ V.cell? ⟨w.heap.size + 1, 1, none⟩ = some (.slice A2 n2 c2) ∧ V.cell? ⟨y1.heap.size, 0, none⟩ = some (.bool rg) ∧ V.cell? ⟨y1.heap.size, 1, none⟩ = some (.slice Ag mg cg)) (by kernel_rfl) ?_ (fun hHeld => ?_)
  · (try dsimp only)
    exact KS _ (by first | assumption | exact Below.drew (by assumption))
  refine wpAnyH_take (i := 0) (v := ?_) rfl (by kernel_rfl) (by kernel_rfl) (by kernel_rfl) (fun _ _ _ h => h) (Or.inl ⟨by rfl, ?_⟩) (by assumption) ?_
  rotate_left
  · intro w hSw
    (try dsimp only at hSw)
    go_simp
    all_goals with_reducible rfl
  try simp only [Act.put, List.setIfInBounds_toArray, List.set_cons_zero, List.set_cons_succ]
  refine wpAnyH_take (i := 1) (v := ?_) rfl (by kernel_rfl) (by kernel_rfl) (by kernel_rfl) (fun _ _ _ h => h) (Or.inl ⟨by rfl, ?_⟩) (by assumption) ?_
  rotate_left
  · intro w hSw
    (try dsimp only at hSw)
    go_simp
    all_goals with_reducible rfl
  try simp only [Act.put, List.setIfInBounds_toArray, List.set_cons_zero, List.set_cons_succ]
  refine wpAnyH_take (i := 2) (v := ?_) rfl (by kernel_rfl) (by kernel_rfl) (by kernel_rfl) (fun _ _ _ h => h) (Or.inl ⟨by rfl, ?_⟩) (by assumption) ?_
  rotate_left
  · intro w hSw
    (try dsimp only at hSw)
    go_simp
    all_goals with_reducible rfl
  try simp only [Act.put, List.setIfInBounds_toArray, List.set_cons_zero, List.set_cons_succ]
  refine wpAnyH_take (i := 3) (v := ?_) rfl (by kernel_rfl) (by kernel_rfl) (by kernel_rfl) (fun _ _ _ h => h) (Or.inl ⟨by rfl, ?_⟩) (by assumption) ?_
  rotate_left
  · intro w hSw
    (try dsimp only at hSw)
    go_simp
    all_goals with_reducible rfl
  try simp only [Act.put, List.setIfInBounds_toArray, List.set_cons_zero, List.set_cons_succ]
  refine wpAnyH_ready (rs := [4]) (by kernel_rfl) (by simp) ?_
  refine AllReadyH.cons rfl (fun K hK => ?_) AllReadyH.nil
  go_simp
  go_at_call 27
  with_reducible refine ((CG _ (by first | assumption | exact Below.drew (by assumption)) ).out).mono ?_
  rintro e yf ⟨rfl, bb⟩
  go_wp2_with fail
  refine hK.out _ _ ?_ (fun hH2 => ?_)
  · (try dsimp only)
    exact KS _ (by first | assumption | exact Below.drew (by assumption))
  clear hK K hHeld
  have hHeld := hH2
  clear hH2
  try simp only [Act.put, List.setIfInBounds_toArray, List.set_cons_zero, List.set_cons_succ]
  refine wpAnyH_take (i := 5) (v := ?_) rfl (by kernel_rfl) (by kernel_rfl) (by kernel_rfl) (fun _ _ _ h => h) (Or.inl ⟨by rfl, ?_⟩) (by assumption) ?_
  rotate_left
  · intro w hSw
    (try dsimp only at hSw)
    go_simp
    all_goals with_reducible rfl
  try simp only [Act.put, List.setIfInBounds_toArray, List.set_cons_zero, List.set_cons_succ]
  refine wpAnyH_take (i := 6) (v := ?_) rfl (by kernel_rfl) (by kernel_rfl) (by kernel_rfl) (fun _ _ _ h => h) (Or.inl ⟨by rfl, ?_⟩) (by assumption) ?_
  rotate_left
  · intro w hSw
    (try dsimp only at hSw)
    go_simp
    all_goals with_reducible rfl
  try simp only [Act.put, List.setIfInBounds_toArray, List.set_cons_zero, List.set_cons_succ]
  refine wpAnyH_take (i := 7) (v := ?_) rfl (by kernel_rfl) (by kernel_rfl) (by kernel_rfl) (fun _ _ _ h => h) (Or.inl ⟨by rfl, ?_⟩) (by assumption) ?_
  rotate_left
  · intro w hSw
    (try dsimp only at hSw)
    go_simp
    all_goals with_reducible rfl
  try simp only [Act.put, List.setIfInBounds_toArray, List.set_cons_zero, List.set_cons_succ]
  refine wpAnyH_take (i := 8) (v := ?_) rfl (by kernel_rfl) (by kernel_rfl) (by kernel_rfl) (fun _ _ _ h => h) (Or.inl ⟨by rfl, ?_⟩) (by assumption) ?_
  rotate_left
  · intro w hSw
    (try dsimp only at hSw)
    go_simp
    all_goals with_reducible rfl
  try simp only [Act.put, List.setIfInBounds_toArray, List.set_cons_zero, List.set_cons_succ]
  refine wpAnyH_take (i := 11) (v := ?_) rfl (by kernel_rfl) (by kernel_rfl) (by kernel_rfl) (fun _ _ _ h => h) (Or.inl ⟨by rfl, ?_⟩) (by assumption) ?_
  rotate_left
  · intro w hSw
    (try dsimp only at hSw)
    go_simp
    all_goals with_reducible rfl
  try simp only [Act.put, List.setIfInBounds_toArray, List.set_cons_zero, List.set_cons_succ]
  refine wpAnyH_ready (rs := [9]) (by kernel_rfl) (by simp) ?_
  refine AllReadyH.cons rfl (fun K hK => ?_) AllReadyH.nil
  go_simp
  go_at_call 27
  with_reducible refine ((CG _ (by first | assumption | exact Below.drew (by assumption)) ).out).mono ?_
  rintro e yf ⟨rfl, bb⟩
  go_wp2_with fail
  refine hK.out _ _ ?_ (fun hH2 => ?_)
  · (try dsimp only)
    exact KS _ (by first | assumption | exact Below.drew (by assumption))
  clear hK K hHeld
  have hHeld := hH2
  clear hH2
  try simp only [Act.put, List.setIfInBounds_toArray, List.set_cons_zero, List.set_cons_succ]
  refine wpAnyH_take (i := 10) (v := ?_) rfl (by kernel_rfl) (by kernel_rfl) (by kernel_rfl) (fun _ _ _ h => h) (Or.inl ⟨by rfl, ?_⟩) (by assumption) ?_
  rotate_left
  · intro w hSw
    (try dsimp only at hSw)
    go_simp
    all_goals with_reducible rfl
  try simp only [Act.put, List.setIfInBounds_toArray, List.set_cons_zero, List.set_cons_succ]
  refine wpAnyH_ready (rs := [12]) (by kernel_rfl) (by simp) ?_
  refine AllReadyH.cons rfl (fun K hK => ?_) AllReadyH.nil
  go_simp
  go_at_call 27
  with_reducible refine ((CA _ (by first | assumption | exact Below.drew (by assumption)) ).out).mono ?_
  rintro e yf ⟨rfl, bb⟩
  go_wp2_with fail
  refine hK.out _ _ ?_ (fun hH2 => ?_)
  · (try dsimp only)
    exact KS _ (by first | assumption | exact Below.drew (by assumption))
  clear hK K hHeld
  have hHeld := hH2
  clear hH2
  try simp only [Act.put, List.setIfInBounds_toArray, List.set_cons_zero, List.set_cons_succ]
  refine wpAnyH_take (i := 13) (v := ?_) rfl (by kernel_rfl) (by kernel_rfl) (by kernel_rfl) (fun _ _ _ h => h) (Or.inl ⟨by rfl, ?_⟩) (by assumption) ?_
  rotate_left
  · intro w hSw
    (try dsimp only at hSw)
    go_simp
    all_goals with_reducible rfl
  try simp only [Act.put, List.setIfInBounds_toArray, List.set_cons_zero, List.set_cons_succ]
  refine wpAnyH_take (i := 14) (v := ?_) rfl (by kernel_rfl) (by kernel_rfl) (by kernel_rfl) (fun _ _ _ h => h) (Or.inl ⟨by rfl, ?_⟩) (by assumption) ?_
  rotate_left
  · intro w hSw
    (try dsimp only at hSw)
    go_simp
    all_goals with_reducible rfl
  try simp only [Act.put, List.setIfInBounds_toArray, List.set_cons_zero, List.set_cons_succ]
  refine wpAnyH_take (i := 15) (v := undef) rfl (by kernel_rfl) (by kernel_rfl) (by kernel_rfl) (fun _ _ _ h => h) (Or.inr ⟨by rfl, rfl⟩) (by assumption) ?_
  try simp only [Act.put, List.setIfInBounds_toArray, List.set_cons_zero, List.set_cons_succ]
  refine wpAnyH_ready (rs := [16]) (by kernel_rfl) (by simp) ?_
  refine AllReadyH.cons rfl (fun K hK => ?_) AllReadyH.nil
  go_simp
  refine hK.out _ _ ?_ (fun hH2 => ?_)
  · (try dsimp only)
    exact KS _ (by first | assumption | exact Below.drew (by assumption))
  clear hK K hHeld
  have hHeld := hH2
  clear hH2
  try simp only [Act.put, List.setIfInBounds_toArray, List.set_cons_zero, List.set_cons_succ]
  refine wpAnyH_take (i := 17) (v := undef) rfl (by kernel_rfl) (by kernel_rfl) (by kernel_rfl) (fun _ _ _ h => h) (Or.inr ⟨by rfl, rfl⟩) (by assumption) ?_
  try simp only [Act.put, List.setIfInBounds_toArray, List.set_cons_zero, List.set_cons_succ]
  refine wpAnyH_take (i := 18) (v := ?_) rfl (by kernel_rfl) (by kernel_rfl) (by kernel_rfl) (fun _ _ _ h => h) (Or.inl ⟨by rfl, ?_⟩) (by assumption) ?_
  rotate_left
  · intro w hSw
    (try dsimp only at hSw)
    go_simp
    all_goals with_reducible rfl
  try simp only [Act.put, List.setIfInBounds_toArray, List.set_cons_zero, List.set_cons_succ]
  refine wpAnyH_take (i := 19) (v := ?_) rfl (by kernel_rfl) (by kernel_rfl) (by kernel_rfl) (fun _ _ _ h => h) (Or.inl ⟨by rfl, ?_⟩) (by assumption) ?_
  rotate_left
  · intro w hSw
    (try dsimp only at hSw)
    go_simp
    all_goals with_reducible rfl
  try simp only [Act.put, List.setIfInBounds_toArray, List.set_cons_zero, List.set_cons_succ]
  refine wpAnyH_take (i := 20) (v := ?_) rfl (by kernel_rfl) (by kernel_rfl) (by kernel_rfl) (fun _ _ _ h => h) (Or.inl ⟨by rfl, ?_⟩) (by assumption) ?_
  rotate_left
  · intro w hSw
    (try dsimp only at hSw)
    go_simp
    all_goals with_reducible rfl
  try simp only [Act.put, List.setIfInBounds_toArray, List.set_cons_zero, List.set_cons_succ]
  refine wpAnyH_done (by kernel_rfl) ?_ _
  have fb := (show Below X.heap.size X _ from (by first | assumption | exact Below.drew (by assumption)))
  have hbW := below_then XB fb
  replace t1 := t1.below' fb
  replace t2 := t2.below' fb
  replace m1 := m1.below fb
  replace m2 := m2.below fb
  replace tg := tg.below' fb
  replace ng := ng.below fb
  clear KS BX0 CG CA fb XB SA
  have k1 := tg.fst
  have k2 := tg.snd
  go_wp2_with fail
  refine ((SG _ _ _ _ _ ng lg).out).mono ?_
  rintro e z0 ⟨rfl, bb⟩
  replace t1 := t1.below' bb
  replace t2 := t2.below' bb
  replace m1 := m1.below bb
  replace m2 := m2.below bb
  replace tg := tg.below' bb
  replace ng := ng.below bb
  replace hbW := below_then hbW bb
  clear k1 k2 bb SG
  have k1 := t1.fst
  have k2 := t1.snd
  have k3 := tg.fst
  have k4 := tg.snd
  go_wp2_with fail
  refine ((QX _ _ _ _ _ ng lg m1).out).mono ?_
  rintro e y2 ⟨rp, Ap, mp, cp, rfl, np, lp, b1⟩
  have bc := below_al (Below.refl y2.heap.size y2) (.cells #[.bool rp, .slice Ap mp cp] 24)
  have bb := below_then b1 bc
  replace t1 := t1.below' bb
  replace t2 := t2.below' bb
  replace m1 := m1.below bb
  replace m2 := m2.below bb
  replace tg := tg.below' bb
  replace ng := ng.below bb
  replace hbW := below_then hbW bb
  have tp := Two.made y2 24 (.bool rp) (.slice Ap mp cp)
  replace np := np.below bc
  clear k1 k2 k3 k4 b1 bb bc QX
  have k1 := t2.fst
  have k2 := t2.snd
  have k3 := tg.fst
  have k4 := tg.snd
  go_wp2_with fail
  refine ((QY _ _ _ _ _ ng lg m2).out).mono ?_
  rintro e y3 ⟨rq, Aq, mq, cq, rfl, nq, lq, b1⟩
  have bc := below_al (Below.refl y3.heap.size y3) (.cells #[.bool rq, .slice Aq mq cq] 24)
  have bb := below_then b1 bc
  replace t1 := t1.below' bb
  replace t2 := t2.below' bb
  replace m1 := m1.below bb
  replace m2 := m2.below bb
  replace tg := tg.below' bb
  replace ng := ng.below bb
  replace tp := tp.below' bb
  replace np := np.below bb
  replace hbW := below_then hbW bb
  have tq := Two.made y3 24 (.bool rq) (.slice Aq mq cq)
  replace nq := nq.below bc
  clear k1 k2 k3 k4 b1 bb bc QY
  have k1 := t1.fst
  have k2 := t1.snd
  have k3 := tg.fst
  have k4 := tg.snd
  go_wp2_with fail
  refine ((RX _ _ _ _ _ ng lg m1).out).mono ?_
  rintro e y4 ⟨rx, Ax, mx, cx, rfl, nx, lx, b1⟩
  have bc := below_al (Below.refl y4.heap.size y4) (.cells #[.bool rx, .slice Ax mx cx] 24)
  have bb := below_then b1 bc
  replace t1 := t1.below' bb
  replace t2 := t2.below' bb
  replace m1 := m1.below bb
  replace m2 := m2.below bb
  replace tg := tg.below' bb
  replace ng := ng.below bb
  replace tp := tp.below' bb
  replace np := np.below bb
  replace tq := tq.below' bb
  replace nq := nq.below bb
  replace hbW := below_then hbW bb
  have tx := Two.made y4 24 (.bool rx) (.slice Ax mx cx)
  replace nx := nx.below bc
  clear k1 k2 k3 k4 b1 bb bc RX
  have k1 := t2.fst
  have k2 := t2.snd
  have k3 := tg.fst
  have k4 := tg.snd
  go_wp2_with fail
  refine ((RY _ _ _ _ _ ng lg m2).out).mono ?_
  rintro e y5 ⟨ry, Ay, my, cy, rfl, ny, ly, b1⟩
  have bc := below_al (Below.refl y5.heap.size y5) (.cells #[.bool ry, .slice Ay my cy] 24)
  have bb := below_then b1 bc
  replace t1 := t1.below' bb
  replace t2 := t2.below' bb
  replace m1 := m1.below bb
  replace m2 := m2.below bb
  replace tg := tg.below' bb
  replace ng := ng.below bb
  replace tp := tp.below' bb
  replace np := np.below bb
  replace tq := tq.below' bb
  replace nq := nq.below bb
  replace tx := tx.below' bb
  replace nx := nx.below bb
  replace hbW := below_then hbW bb
  have ty := Two.made y5 24 (.bool ry) (.slice Ay my cy)
  replace ny := ny.below bc
  clear k1 k2 k3 k4 b1 bb bc RY
  have k1 := tp.fst
  have k2 := tp.snd
  have k3 := tq.fst
  have k4 := tq.snd
  go_wp2_with fail
  obtain ⟨V5, hV5⟩ : ∃ V, V = y5.alloc (.cells #[.bool ry, .slice Ay my cy] 24) := ⟨_, rfl⟩
  have RP := row_pair (r1 := rp) (r2 := rq) (NumAt.magA np) (NumAt.magA nq) (by omega) (by omega)
  have hs5 : (y5.alloc (.cells #[.bool ry, .slice Ay my cy] 24)).heap.size = y5.heap.size + 1 := by simp
  rw [hs5] at RP
  clear hs5
  refine ((GC2 _ _ RP).out).mono ?_
  clear RP
  rintro e y6 ⟨r1', Aone, m1', c1', rfl, none1, lone, b1⟩
  have bd := below_al (Below.refl _ (y5.alloc (.cells #[.bool ry, .slice Ay my cy] 24))) (.cells #[.bool rp, .slice Ap mp cp, .bool rq, .slice Aq mq cq] 24)
  have bc := below_al (Below.refl y6.heap.size y6) (.cells #[.bool r1', .slice Aone m1' c1'] 24)
  have bb := below_then (below_then bd b1) bc
  replace tx := tx.below' bb
  replace ty := ty.below' bb
  replace nx := nx.below bb
  replace ny := ny.below bb
  replace hbW := below_then hbW bb
  have tone := Two.made y6 24 (.bool r1') (.slice Aone m1' c1')
  replace none1 := none1.below bc
  clear k1 k2 k3 k4 b1 bb bc bd GC2 t1 t2 m1 m2 tg ng tp tq np nq hV5 V5 lg lp lq
  obtain ⟨Z, hZ⟩ : ∃ Z, Z = y6.alloc (.cells #[.bool r1', .slice Aone m1' c1'] 24) := ⟨_, rfl⟩
  rw [← hZ] at tx ty nx ny hbW tone none1
  have KS : ∀ V, Below Z.heap.size Z V → (Below Z.heap.size Z V ∧ V.cell? ⟨y4.heap.size, 0, none⟩ = some (.bool rx) ∧ V.cell? ⟨y4.heap.size, 1, none⟩ = some (.slice Ax mx cx) ∧ V.cell? ⟨y5.heap.size, 0, none⟩ = some (.bool ry) ∧ V.cell? ⟨y5.heap.size, 1, none⟩ = some (.slice Ay my cy) ∧ V.cell? ⟨y6.heap.size, 0, none⟩ = some (.bool r1') ∧ V.cell? ⟨y6.heap.size, 1, none⟩ = some (.slice Aone m1' c1')) := fun V hb => ⟨hb, (tx.below' hb).fst, (tx.below' hb).snd, (ty.below' hb).fst, (ty.below' hb).snd, (tone.below' hb).fst, (tone.below' hb).snd⟩
  have BX0 : Below Z.heap.size Z Z := Below.refl _ _
  have CX : ∀ V, Below Z.heap.size Z V → Hid (Calls Tryd.prog 27 #[.agg #[.bool rx, .slice Ax mx cx]] V fun e w' => e = .returned (.int .i64 0) ∧ Below Z.heap.size Z w') := fun V hb => Lib.hid (((S0 V _ _ _ _ (nx.below hb) lx).out).mono fun e w' ⟨he, hw⟩ => ⟨he, below_then hb hw⟩)
  have CY : ∀ V, Below Z.heap.size Z V → Hid (Calls Tryd.prog 27 #[.agg #[.bool ry, .slice Ay my cy]] V fun e w' => e = .returned (.int .i64 0) ∧ Below Z.heap.size Z w') := fun V hb => Lib.hid (((S0 V _ _ _ _ (ny.below hb) ly).out).mono fun e w' ⟨he, hw⟩ => ⟨he, below_then hb hw⟩)
  have CO : ∀ V, Below Z.heap.size Z V → Hid (Calls Tryd.prog 32 #[.int .i64 1] V fun e w' => ∃ r A m c, e = .returned (.agg #[.bool r, .slice A m c]) ∧ (NumAt w' r A m c 1 ∧ m ≤ 48) ∧ Below Z.heap.size Z w') := fun V hb => Lib.hid ((of_one V).mono fun e w' hq => by
    obtain ⟨r, A, m, c, he, hc, hw⟩ := hq
    exact ⟨r, A, m, c, he, hc, below_then hb hw⟩)
  have CC : ∀ V r A m c, Below Z.heap.size Z V → NumAt V r A m c 1 ∧ m ≤ 48 → Hid (Calls Tryd.prog 31 #[.agg #[.bool r1', .slice Aone m1' c1'], .agg #[.bool r, .slice A m c]] V fun e w' => e = .returned (.int .i64 0) ∧ Below Z.heap.size Z w') := fun V r A m c hb h => Lib.hid ((cmp_at V (none1.below hb) h.1 (by omega) (by omega)).mono fun e w' ⟨he, hw⟩ => ⟨by rw [he, cmpI_eq rfl], below_then hb hw⟩)
  have CW : ∀ V, Below Z.heap.size Z V → Hid (Calls Tryd.prog 18 #[] V fun e w' => e = .returned (.bool true) ∧ Below Z.heap.size Z w') := fun V hb => Lib.hid ((AW V (below_then hbW hb)).out.mono fun e w' ⟨he, hw⟩ => ⟨he, below_then hb hw⟩)
  go_wp2_with fail
  rw [← hZ]
  have HZ := Lib.hid hZ
  clear hZ
  go_region_held3 (fun V => Below Z.heap.size Z V ∧ V.cell? ⟨y4.heap.size, 0, none⟩ = some (.bool rx) ∧ V.cell? ⟨y4.heap.size, 1, none⟩ = some (.slice Ax mx cx) ∧ V.cell? ⟨y5.heap.size, 0, none⟩ = some (.bool ry) ∧ V.cell? ⟨y5.heap.size, 1, none⟩ = some (.slice Ay my cy) ∧ V.cell? ⟨y6.heap.size, 0, none⟩ = some (.bool r1') ∧ V.cell? ⟨y6.heap.size, 1, none⟩ = some (.slice Aone m1' c1')) (exact KS _ (by first | assumption | exact Below.drew (by assumption)))
    (first
      | (go_at_call 27; (with_reducible refine ((CX _ (by first | assumption | exact Below.drew (by assumption))).out).mono ?_); rintro e yf ⟨rfl, bb⟩)
      | (go_at_call 27; (with_reducible refine ((CY _ (by first | assumption | exact Below.drew (by assumption))).out).mono ?_); rintro e yf ⟨rfl, bb⟩)
      | (go_at_call 32; (with_reducible refine ((CO _ (by first | assumption | exact Below.drew (by assumption))).out).mono ?_); rintro e yf ⟨ro, Ao, mo, co, rfl, HO, bb⟩)
      | (go_at_call 31; (with_reducible refine ((CC _ ro Ao mo co (by first | assumption | exact Below.drew (by assumption)) (by exact HO)).out).mono ?_); rintro e yf ⟨rfl, bb⟩)
      | (go_at_call 18; (with_reducible refine ((CW _ (by first | assumption | exact Below.drew (by assumption))).out).mono ?_); rintro e yf ⟨rfl, bb⟩))
  have fb := (show Below Z.heap.size Z _ from (by first | assumption | exact Below.drew (by assumption)))
  go_wp2
  go_ret
  exact ⟨rfl, below_then hbW fb⟩
set_option maxHeartbeats 12800000 in
set_option maxRecDepth 100000 in
theorem mainN (r1 r2 : Bool) (A1 A2 : Option Addr) (n1 c1 n2 c2 : Nat) (x y : Int) (w : World) (ht : Tab w) (h1 : NumAt w r1 A1 n1 c1 x) (h2 : NumAt w r2 A2 n2 c2 y) (l1 : n1 ≤ 24) (l2 : n2 ≤ 24) (hx : x < 0) :
    Calls Tryd.prog 16 #[.agg #[.bool r1, .slice A1 n1 c1], .agg #[.bool r2, .slice A2 n2 c2]] w fun e w' => e = .returned (.bool true) ∧ Below w.heap.size w w' := by
  obtain ⟨W, hW⟩ : ∃ W, W = (w.alloc (.cells #[.bool r1, .slice A1 n1 c1] 24)).alloc (.cells #[.bool r2, .slice A2 n2 c2] 24) := ⟨_, rfl⟩
  obtain ⟨t1, t2, hbW, hWs⟩ := boxes24 w _ _ _ _ W hW
  have AW : ∀ V, Below w.heap.size w V → Hid (Calls Tryd.prog 18 #[] V fun e w' => e = .returned (.bool true) ∧ Below V.heap.size V w') :=
    fun V hb => Lib.hid (awake_any V (ht.below hb))
  have m1 := h1.below hbW
  have m2 := h2.below hbW
  have DX : dl x.natAbs ≤ 24 := by have := NumAt.dl h1; omega
  have DY : dl y.natAbs ≤ 24 := by have := NumAt.dl h2; omega
  obtain ⟨g, hg⟩ : ∃ g, Nat.gcd x.natAbs y.natAbs = g := ⟨_, rfl⟩
  have hg0 : 0 < g := by rw [← hg]; exact Nat.gcd_pos_iff.2 (by omega)
  have dx : g ∣ x.natAbs := by rw [← hg]; exact Nat.gcd_dvd_left _ _
  have dy : g ∣ y.natAbs := by rw [← hg]; exact Nat.gcd_dvd_right _ _
  have DG : dl g ≤ 24 := by rw [← hg]; exact dl_gcd DX DY
  obtain ⟨p, hp⟩ : ∃ p, Int.tdiv x (g : Nat) = p := ⟨_, rfl⟩
  obtain ⟨q, hq⟩ : ∃ q, Int.tdiv y (g : Nat) = q := ⟨_, rfl⟩
  have rx : Int.tmod x (g : Nat) = 0 := Int.tmod_eq_zero_of_dvd (Int.dvd_natAbs.1 (Int.natCast_dvd_natCast.2 dx))
  have ry : Int.tmod y (g : Nat) = 0 := Int.tmod_eq_zero_of_dvd (Int.dvd_natAbs.1 (Int.natCast_dvd_natCast.2 dy))
  have ap : p.natAbs = x.natAbs / g := by rw [← hp, Int.natAbs_tdiv]; rfl
  have aq : q.natAbs = y.natAbs / g := by rw [← hq, Int.natAbs_tdiv]; rfl
  have DP : dl p.natAbs ≤ 24 := by rw [ap]; exact Nat.le_trans (dl_mono (Nat.div_le_self _ _)) DX
  have DQ : dl q.natAbs ≤ 24 := by rw [aq]; exact Nat.le_trans (dl_mono (Nat.div_le_self _ _)) DY
  have g1 : Nat.gcd p.natAbs q.natAbs = 1 := by rw [ap, aq, ← hg]; rw [Nat.gcd_div (Nat.gcd_dvd_left _ _) (Nat.gcd_dvd_right _ _)]; exact Nat.div_self (by rw [hg]; exact hg0)
  have gi : ((g : Nat) : Int) ≠ 0 := by omega
  have GC1 : ∀ V A, Row24 V A [x.natAbs, y.natAbs] → Hid (Calls Tryd.prog 44 #[.slice A 2 2] V fun e w' => ∃ r A m c, e = .returned (.tuple #[.agg #[.bool r, .slice A m c], .int .i64 0]) ∧ NumAt w' r A m c (((g : Nat) : Int)) ∧ m ≤ 48 ∧ Below V.heap.size V w') := fun V A h => Lib.hid ((gcd_at A 2 2 _ V h rfl (by omega)).mono fun e w' hq => by
    have hg2 : gcdL [x.natAbs, y.natAbs] = g := (by rw [gcd_two, hg])
    rw [hg2] at hq
    obtain ⟨r, A, m, c, he, hn, hm, hb⟩ := TellsF.fits hq (show dl g ≤ 48 by omega)
    exact ⟨r, A, m, c, he, hn, by rw [hm]; exact (show dl g ≤ 48 by omega), hb⟩)
  have QX : ∀ V r A m c, NumAt V r A m c ((g : Nat) : Int) → m ≤ 48 → NumAt V r1 A1 n1 c1 x → Hid (Calls Tryd.prog 40 #[.agg #[.bool r1, .slice A1 n1 c1], .agg #[.bool r, .slice A m c]] V fun e w' => ∃ r A m c, e = .returned (.tuple #[.agg #[.bool r, .slice A m c], .int .i64 0]) ∧ NumAt w' r A m c (p) ∧ m ≤ 48 ∧ Below V.heap.size V w') := fun V r A m c h hm h1 => Lib.hid ((quo_at V h1 h (by omega) (by omega) gi).mono fun e w' hz => by
    have hz := hz.tellsF
    rw [hp] at hz
    obtain ⟨r, A, m, c, he, hn, hm, hb⟩ := TellsF.fits hz (show dl p.natAbs ≤ 48 by omega)
    exact ⟨r, A, m, c, he, hn, by rw [hm]; exact (show dl p.natAbs ≤ 48 by omega), hb⟩)
  have QY : ∀ V r A m c, NumAt V r A m c ((g : Nat) : Int) → m ≤ 48 → NumAt V r2 A2 n2 c2 y → Hid (Calls Tryd.prog 40 #[.agg #[.bool r2, .slice A2 n2 c2], .agg #[.bool r, .slice A m c]] V fun e w' => ∃ r A m c, e = .returned (.tuple #[.agg #[.bool r, .slice A m c], .int .i64 0]) ∧ NumAt w' r A m c (q) ∧ m ≤ 48 ∧ Below V.heap.size V w') := fun V r A m c h hm h1 => Lib.hid ((quo_at V h1 h (by omega) (by omega) gi).mono fun e w' hz => by
    have hz := hz.tellsF
    rw [hq] at hz
    obtain ⟨r, A, m, c, he, hn, hm, hb⟩ := TellsF.fits hz (show dl q.natAbs ≤ 48 by omega)
    exact ⟨r, A, m, c, he, hn, by rw [hm]; exact (show dl q.natAbs ≤ 48 by omega), hb⟩)
  have RX : ∀ V r A m c, NumAt V r A m c ((g : Nat) : Int) → m ≤ 48 → NumAt V r1 A1 n1 c1 x → Hid (Calls Tryd.prog 41 #[.agg #[.bool r1, .slice A1 n1 c1], .agg #[.bool r, .slice A m c]] V fun e w' => ∃ r A m c, e = .returned (.tuple #[.agg #[.bool r, .slice A m c], .int .i64 0]) ∧ NumAt w' r A m c (0) ∧ m ≤ 48 ∧ Below V.heap.size V w') := fun V r A m c h hm h1 => Lib.hid ((rem_at V h1 h (by omega) (by omega) gi).mono fun e w' hz => by
    have hz := hz.tellsF
    rw [rx] at hz
    obtain ⟨r, A, m, c, he, hn, hm, hb⟩ := TellsF.fits hz (show dl (0 : Int).natAbs ≤ 48 by decide)
    exact ⟨r, A, m, c, he, hn, by rw [hm]; exact (show dl (0 : Int).natAbs ≤ 48 by decide), hb⟩)
  have RY : ∀ V r A m c, NumAt V r A m c ((g : Nat) : Int) → m ≤ 48 → NumAt V r2 A2 n2 c2 y → Hid (Calls Tryd.prog 41 #[.agg #[.bool r2, .slice A2 n2 c2], .agg #[.bool r, .slice A m c]] V fun e w' => ∃ r A m c, e = .returned (.tuple #[.agg #[.bool r, .slice A m c], .int .i64 0]) ∧ NumAt w' r A m c (0) ∧ m ≤ 48 ∧ Below V.heap.size V w') := fun V r A m c h hm h1 => Lib.hid ((rem_at V h1 h (by omega) (by omega) gi).mono fun e w' hz => by
    have hz := hz.tellsF
    rw [ry] at hz
    obtain ⟨r, A, m, c, he, hn, hm, hb⟩ := TellsF.fits hz (show dl (0 : Int).natAbs ≤ 48 by decide)
    exact ⟨r, A, m, c, he, hn, by rw [hm]; exact (show dl (0 : Int).natAbs ≤ 48 by decide), hb⟩)
  have GC2 : ∀ V A, Row24 V A [p.natAbs, q.natAbs] → Hid (Calls Tryd.prog 44 #[.slice A 2 2] V fun e w' => ∃ r A m c, e = .returned (.tuple #[.agg #[.bool r, .slice A m c], .int .i64 0]) ∧ NumAt w' r A m c (1) ∧ m ≤ 48 ∧ Below V.heap.size V w') := fun V A h => Lib.hid ((gcd_at A 2 2 _ V h rfl (by omega)).mono fun e w' hz => by
    have hg2 : gcdL [p.natAbs, q.natAbs] = 1 := by rw [gcd_two, g1]
    rw [hg2] at hz
    obtain ⟨r, A, m, c, he, hn, hm, hb⟩ := TellsF.fits hz (show dl 1 ≤ 48 by decide)
    exact ⟨r, A, m, c, he, hn, by rw [hm]; exact (show dl 1 ≤ 48 by decide), hb⟩)
  have S0 : ∀ V r A m c, NumAt V r A m c 0 → m ≤ 48 → Hid (Calls Tryd.prog 27 #[.agg #[.bool r, .slice A m c]] V fun e w' => e = .returned (.int .i64 0) ∧ Below V.heap.size V w') := fun V r A m c h hm => Lib.hid ((sign_at V h (by omega)).mono fun e w' ⟨he, hb⟩ => ⟨by rw [he, cmpI_eq rfl], hb⟩)
  have SG : ∀ V r A m c, NumAt V r A m c ((g : Nat) : Int) → m ≤ 48 → Hid (Calls Tryd.prog 27 #[.agg #[.bool r, .slice A m c]] V fun e w' => e = .returned (.int .i64 1) ∧ Below V.heap.size V w') := fun V r A m c h hm => Lib.hid ((sign_at V h (by omega)).mono fun e w' ⟨he, hb⟩ => ⟨by rw [he, cmpI_gt (by omega)], hb⟩)
  have SA : ∀ V, NumAt V r1 A1 n1 c1 x → Hid (Calls Tryd.prog 27 #[.agg #[.bool r1, .slice A1 n1 c1]] V fun e w' => e = .returned (.int .i64 (-1)) ∧ Below V.heap.size V w') := fun V h => Lib.hid ((sign_at V h (by omega)).mono fun e w' ⟨he, hb⟩ => ⟨by rw [he, cmpI_lt hx], hb⟩)
  have k1 := t1.fst
  have k2 := t1.snd
  have k3 := t2.fst
  have k4 := t2.snd
  clear hx ht h1 h2 hg hp hq rx ry ap aq g1 gi DP DQ dx dy hg0 DG DX DY
  have l1' := l1
  go_enter Tryd.func16, Tryd.ntmps16
  go_wp2_with fail
  rw [← hW]
  have HW := Lib.hid hW
  have RP := row_pair (r1 := r1) (r2 := r2) (NumAt.magA m1) (NumAt.magA m2) (by omega) (by omega)
  have hWs2 : W.heap.size = w.heap.size + 1 + 1 := hWs
  rw [hWs2] at RP
  clear hWs2
  clear hW hWs
  have ba := below_al (Below.refl W.heap.size W) (.cells #[.bool r1, .slice A1 n1 c1, .bool r2, .slice A2 n2 c2] 24)
  refine ((GC1 _ _ RP).out).mono ?_
  clear RP
  rintro e y1 ⟨rg, Ag, mg, cg, rfl, ng, lg, b1⟩
  replace b1 := below_then ba b1
  clear ba
  have bc := below_al (Below.refl y1.heap.size y1) (.cells #[.bool rg, .slice Ag mg cg] 24)
  have bb := below_then b1 bc
  replace t1 := t1.below' bb
  replace t2 := t2.below' bb
  replace m1 := m1.below bb
  replace m2 := m2.below bb
  replace hbW := below_then hbW bb
  have tg := Two.made y1 24 (.bool rg) (.slice Ag mg cg)
  replace ng := ng.below bc
  clear k1 k2 k3 k4 b1 bb bc GC1
  obtain ⟨X, hX⟩ : ∃ X, X = y1.alloc (.cells #[.bool rg, .slice Ag mg cg] 24) := ⟨_, rfl⟩
  rw [← hX] at t1 t2 m1 m2 hbW tg ng
  have KS : ∀ V, Below X.heap.size X V → (Below X.heap.size X V ∧ V.cell? ⟨w.heap.size, 0, none⟩ = some (.bool r1) ∧ V.cell? ⟨w.heap.size, 1, none⟩ = some (.slice A1 n1 c1) ∧ V.cell? ⟨w.heap.size + 1, 0, none⟩ = some (.bool r2) ∧ V.cell? ⟨w.heap.size + 1, 1, none⟩ = some (.slice A2 n2 c2) ∧ V.cell? ⟨y1.heap.size, 0, none⟩ = some (.bool rg) ∧ V.cell? ⟨y1.heap.size, 1, none⟩ = some (.slice Ag mg cg)) := fun V hb => ⟨hb, (t1.below' hb).fst, (t1.below' hb).snd, (t2.below' hb).fst, (t2.below' hb).snd, (tg.below' hb).fst, (tg.below' hb).snd⟩
  have BX0 : Below X.heap.size X X := Below.refl _ _
  have CG : ∀ V, Below X.heap.size X V → Hid (Calls Tryd.prog 27 #[.agg #[.bool rg, .slice Ag mg cg]] V fun e w' => e = .returned (.int .i64 1) ∧ Below X.heap.size X w') := fun V hb => Lib.hid (((SG V _ _ _ _ (ng.below hb) lg).out).mono fun e w' ⟨he, hw⟩ => ⟨he, below_then hb hw⟩)
  have CA : ∀ V, Below X.heap.size X V → Hid (Calls Tryd.prog 27 #[.agg #[.bool r1, .slice A1 n1 c1]] V fun e w' => e = .returned (.int .i64 (-1)) ∧ Below X.heap.size X w') := fun V hb => Lib.hid (((SA V (m1.below hb)).out).mono fun e w' ⟨he, hw⟩ => ⟨he, below_then hb hw⟩)
  go_wp2_with fail
  rw [← hX]
  have HX := Lib.hid hX
  clear hX
  have XB := hbW
  clear hbW
  refine wp_region_held_drew (S := fun V => Below X.heap.size X V ∧ V.cell? ⟨w.heap.size, 0, none⟩ = some (.bool r1) ∧ V.cell? ⟨w.heap.size, 1, none⟩ = some (.slice A1 n1 c1) ∧ V.cell? ⟨w.heap.size + 1, 0, none⟩ = some (.bool r2) ∧ V.cell? ⟨w.heap.size + 1, 1, none⟩ = some (.slice A2 n2 c2) ∧ V.cell? ⟨y1.heap.size, 0, none⟩ = some (.bool rg) ∧ V.cell? ⟨y1.heap.size, 1, none⟩ = some (.slice Ag mg cg)) (by kernel_rfl) ?_ (fun hHeld => ?_)
  · (try dsimp only)
    exact KS _ (by first | assumption | exact Below.drew (by assumption))
  refine wpAnyH_take (i := 0) (v := ?_) rfl (by kernel_rfl) (by kernel_rfl) (by kernel_rfl) (fun _ _ _ h => h) (Or.inl ⟨by rfl, ?_⟩) (by assumption) ?_
  rotate_left
  · intro w hSw
    (try dsimp only at hSw)
    go_simp
    all_goals with_reducible rfl
  try simp only [Act.put, List.setIfInBounds_toArray, List.set_cons_zero, List.set_cons_succ]
  refine wpAnyH_take (i := 1) (v := ?_) rfl (by kernel_rfl) (by kernel_rfl) (by kernel_rfl) (fun _ _ _ h => h) (Or.inl ⟨by rfl, ?_⟩) (by assumption) ?_
  rotate_left
  · intro w hSw
    (try dsimp only at hSw)
    go_simp
    all_goals with_reducible rfl
  try simp only [Act.put, List.setIfInBounds_toArray, List.set_cons_zero, List.set_cons_succ]
  refine wpAnyH_take (i := 2) (v := ?_) rfl (by kernel_rfl) (by kernel_rfl) (by kernel_rfl) (fun _ _ _ h => h) (Or.inl ⟨by rfl, ?_⟩) (by assumption) ?_
  rotate_left
  · intro w hSw
    (try dsimp only at hSw)
    go_simp
    all_goals with_reducible rfl
  try simp only [Act.put, List.setIfInBounds_toArray, List.set_cons_zero, List.set_cons_succ]
  refine wpAnyH_take (i := 3) (v := ?_) rfl (by kernel_rfl) (by kernel_rfl) (by kernel_rfl) (fun _ _ _ h => h) (Or.inl ⟨by rfl, ?_⟩) (by assumption) ?_
  rotate_left
  · intro w hSw
    (try dsimp only at hSw)
    go_simp
    all_goals with_reducible rfl
  try simp only [Act.put, List.setIfInBounds_toArray, List.set_cons_zero, List.set_cons_succ]
  refine wpAnyH_ready (rs := [4]) (by kernel_rfl) (by simp) ?_
  refine AllReadyH.cons rfl (fun K hK => ?_) AllReadyH.nil
  go_simp
  go_at_call 27
  with_reducible refine ((CG _ (by first | assumption | exact Below.drew (by assumption)) ).out).mono ?_
  rintro e yf ⟨rfl, bb⟩
  go_wp2_with fail
  refine hK.out _ _ ?_ (fun hH2 => ?_)
  · (try dsimp only)
    exact KS _ (by first | assumption | exact Below.drew (by assumption))
  clear hK K hHeld
  have hHeld := hH2
  clear hH2
  try simp only [Act.put, List.setIfInBounds_toArray, List.set_cons_zero, List.set_cons_succ]
  refine wpAnyH_take (i := 5) (v := ?_) rfl (by kernel_rfl) (by kernel_rfl) (by kernel_rfl) (fun _ _ _ h => h) (Or.inl ⟨by rfl, ?_⟩) (by assumption) ?_
  rotate_left
  · intro w hSw
    (try dsimp only at hSw)
    go_simp
    all_goals with_reducible rfl
  try simp only [Act.put, List.setIfInBounds_toArray, List.set_cons_zero, List.set_cons_succ]
  refine wpAnyH_take (i := 6) (v := ?_) rfl (by kernel_rfl) (by kernel_rfl) (by kernel_rfl) (fun _ _ _ h => h) (Or.inl ⟨by rfl, ?_⟩) (by assumption) ?_
  rotate_left
  · intro w hSw
    (try dsimp only at hSw)
    go_simp
    all_goals with_reducible rfl
  try simp only [Act.put, List.setIfInBounds_toArray, List.set_cons_zero, List.set_cons_succ]
  refine wpAnyH_take (i := 7) (v := ?_) rfl (by kernel_rfl) (by kernel_rfl) (by kernel_rfl) (fun _ _ _ h => h) (Or.inl ⟨by rfl, ?_⟩) (by assumption) ?_
  rotate_left
  · intro w hSw
    (try dsimp only at hSw)
    go_simp
    all_goals with_reducible rfl
  try simp only [Act.put, List.setIfInBounds_toArray, List.set_cons_zero, List.set_cons_succ]
  refine wpAnyH_take (i := 8) (v := ?_) rfl (by kernel_rfl) (by kernel_rfl) (by kernel_rfl) (fun _ _ _ h => h) (Or.inl ⟨by rfl, ?_⟩) (by assumption) ?_
  rotate_left
  · intro w hSw
    (try dsimp only at hSw)
    go_simp
    all_goals with_reducible rfl
  try simp only [Act.put, List.setIfInBounds_toArray, List.set_cons_zero, List.set_cons_succ]
  refine wpAnyH_take (i := 11) (v := ?_) rfl (by kernel_rfl) (by kernel_rfl) (by kernel_rfl) (fun _ _ _ h => h) (Or.inl ⟨by rfl, ?_⟩) (by assumption) ?_
  rotate_left
  · intro w hSw
    (try dsimp only at hSw)
    go_simp
    all_goals with_reducible rfl
  try simp only [Act.put, List.setIfInBounds_toArray, List.set_cons_zero, List.set_cons_succ]
  refine wpAnyH_ready (rs := [9]) (by kernel_rfl) (by simp) ?_
  refine AllReadyH.cons rfl (fun K hK => ?_) AllReadyH.nil
  go_simp
  go_at_call 27
  with_reducible refine ((CG _ (by first | assumption | exact Below.drew (by assumption)) ).out).mono ?_
  rintro e yf ⟨rfl, bb⟩
  go_wp2_with fail
  refine hK.out _ _ ?_ (fun hH2 => ?_)
  · (try dsimp only)
    exact KS _ (by first | assumption | exact Below.drew (by assumption))
  clear hK K hHeld
  have hHeld := hH2
  clear hH2
  try simp only [Act.put, List.setIfInBounds_toArray, List.set_cons_zero, List.set_cons_succ]
  refine wpAnyH_take (i := 10) (v := ?_) rfl (by kernel_rfl) (by kernel_rfl) (by kernel_rfl) (fun _ _ _ h => h) (Or.inl ⟨by rfl, ?_⟩) (by assumption) ?_
  rotate_left
  · intro w hSw
    (try dsimp only at hSw)
    go_simp
    all_goals with_reducible rfl
  try simp only [Act.put, List.setIfInBounds_toArray, List.set_cons_zero, List.set_cons_succ]
  refine wpAnyH_ready (rs := [12]) (by kernel_rfl) (by simp) ?_
  refine AllReadyH.cons rfl (fun K hK => ?_) AllReadyH.nil
  go_simp
  go_at_call 27
  with_reducible refine ((CA _ (by first | assumption | exact Below.drew (by assumption)) ).out).mono ?_
  rintro e yf ⟨rfl, bb⟩
  go_wp2_with fail
  refine hK.out _ _ ?_ (fun hH2 => ?_)
  · (try dsimp only)
    exact KS _ (by first | assumption | exact Below.drew (by assumption))
  clear hK K hHeld
  have hHeld := hH2
  clear hH2
  try simp only [Act.put, List.setIfInBounds_toArray, List.set_cons_zero, List.set_cons_succ]
  refine wpAnyH_take (i := 13) (v := ?_) rfl (by kernel_rfl) (by kernel_rfl) (by kernel_rfl) (fun _ _ _ h => h) (Or.inl ⟨by rfl, ?_⟩) (by assumption) ?_
  rotate_left
  · intro w hSw
    (try dsimp only at hSw)
    go_simp
    all_goals with_reducible rfl
  try simp only [Act.put, List.setIfInBounds_toArray, List.set_cons_zero, List.set_cons_succ]
  refine wpAnyH_take (i := 14) (v := ?_) rfl (by kernel_rfl) (by kernel_rfl) (by kernel_rfl) (fun _ _ _ h => h) (Or.inl ⟨by rfl, ?_⟩) (by assumption) ?_
  rotate_left
  · intro w hSw
    (try dsimp only at hSw)
    go_simp
    all_goals with_reducible rfl
  try simp only [Act.put, List.setIfInBounds_toArray, List.set_cons_zero, List.set_cons_succ]
  refine wpAnyH_take (i := 15) (v := undef) rfl (by kernel_rfl) (by kernel_rfl) (by kernel_rfl) (fun _ _ _ h => h) (Or.inr ⟨by rfl, rfl⟩) (by assumption) ?_
  try simp only [Act.put, List.setIfInBounds_toArray, List.set_cons_zero, List.set_cons_succ]
  refine wpAnyH_ready (rs := [16]) (by kernel_rfl) (by simp) ?_
  refine AllReadyH.cons rfl (fun K hK => ?_) AllReadyH.nil
  go_simp
  refine hK.out _ _ ?_ (fun hH2 => ?_)
  · (try dsimp only)
    exact KS _ (by first | assumption | exact Below.drew (by assumption))
  clear hK K hHeld
  have hHeld := hH2
  clear hH2
  try simp only [Act.put, List.setIfInBounds_toArray, List.set_cons_zero, List.set_cons_succ]
  refine wpAnyH_take (i := 17) (v := undef) rfl (by kernel_rfl) (by kernel_rfl) (by kernel_rfl) (fun _ _ _ h => h) (Or.inr ⟨by rfl, rfl⟩) (by assumption) ?_
  try simp only [Act.put, List.setIfInBounds_toArray, List.set_cons_zero, List.set_cons_succ]
  refine wpAnyH_take (i := 18) (v := ?_) rfl (by kernel_rfl) (by kernel_rfl) (by kernel_rfl) (fun _ _ _ h => h) (Or.inl ⟨by rfl, ?_⟩) (by assumption) ?_
  rotate_left
  · intro w hSw
    (try dsimp only at hSw)
    go_simp
    all_goals with_reducible rfl
  try simp only [Act.put, List.setIfInBounds_toArray, List.set_cons_zero, List.set_cons_succ]
  refine wpAnyH_take (i := 19) (v := ?_) rfl (by kernel_rfl) (by kernel_rfl) (by kernel_rfl) (fun _ _ _ h => h) (Or.inl ⟨by rfl, ?_⟩) (by assumption) ?_
  rotate_left
  · intro w hSw
    (try dsimp only at hSw)
    go_simp
    all_goals with_reducible rfl
  try simp only [Act.put, List.setIfInBounds_toArray, List.set_cons_zero, List.set_cons_succ]
  refine wpAnyH_take (i := 20) (v := ?_) rfl (by kernel_rfl) (by kernel_rfl) (by kernel_rfl) (fun _ _ _ h => h) (Or.inl ⟨by rfl, ?_⟩) (by assumption) ?_
  rotate_left
  · intro w hSw
    (try dsimp only at hSw)
    go_simp
    all_goals with_reducible rfl
  try simp only [Act.put, List.setIfInBounds_toArray, List.set_cons_zero, List.set_cons_succ]
  refine wpAnyH_done (by kernel_rfl) ?_ _
  have fb := (show Below X.heap.size X _ from (by first | assumption | exact Below.drew (by assumption)))
  have hbW := below_then XB fb
  replace t1 := t1.below' fb
  replace t2 := t2.below' fb
  replace m1 := m1.below fb
  replace m2 := m2.below fb
  replace tg := tg.below' fb
  replace ng := ng.below fb
  clear KS BX0 CG CA fb XB SA
  have k1 := tg.fst
  have k2 := tg.snd
  go_wp2_with fail
  refine ((SG _ _ _ _ _ ng lg).out).mono ?_
  rintro e z0 ⟨rfl, bb⟩
  replace t1 := t1.below' bb
  replace t2 := t2.below' bb
  replace m1 := m1.below bb
  replace m2 := m2.below bb
  replace tg := tg.below' bb
  replace ng := ng.below bb
  replace hbW := below_then hbW bb
  clear k1 k2 bb SG
  have k1 := t1.fst
  have k2 := t1.snd
  have k3 := tg.fst
  have k4 := tg.snd
  go_wp2_with fail
  refine ((QX _ _ _ _ _ ng lg m1).out).mono ?_
  rintro e y2 ⟨rp, Ap, mp, cp, rfl, np, lp, b1⟩
  have bc := below_al (Below.refl y2.heap.size y2) (.cells #[.bool rp, .slice Ap mp cp] 24)
  have bb := below_then b1 bc
  replace t1 := t1.below' bb
  replace t2 := t2.below' bb
  replace m1 := m1.below bb
  replace m2 := m2.below bb
  replace tg := tg.below' bb
  replace ng := ng.below bb
  replace hbW := below_then hbW bb
  have tp := Two.made y2 24 (.bool rp) (.slice Ap mp cp)
  replace np := np.below bc
  clear k1 k2 k3 k4 b1 bb bc QX
  have k1 := t2.fst
  have k2 := t2.snd
  have k3 := tg.fst
  have k4 := tg.snd
  go_wp2_with fail
  refine ((QY _ _ _ _ _ ng lg m2).out).mono ?_
  rintro e y3 ⟨rq, Aq, mq, cq, rfl, nq, lq, b1⟩
  have bc := below_al (Below.refl y3.heap.size y3) (.cells #[.bool rq, .slice Aq mq cq] 24)
  have bb := below_then b1 bc
  replace t1 := t1.below' bb
  replace t2 := t2.below' bb
  replace m1 := m1.below bb
  replace m2 := m2.below bb
  replace tg := tg.below' bb
  replace ng := ng.below bb
  replace tp := tp.below' bb
  replace np := np.below bb
  replace hbW := below_then hbW bb
  have tq := Two.made y3 24 (.bool rq) (.slice Aq mq cq)
  replace nq := nq.below bc
  clear k1 k2 k3 k4 b1 bb bc QY
  have k1 := t1.fst
  have k2 := t1.snd
  have k3 := tg.fst
  have k4 := tg.snd
  go_wp2_with fail
  refine ((RX _ _ _ _ _ ng lg m1).out).mono ?_
  rintro e y4 ⟨rx, Ax, mx, cx, rfl, nx, lx, b1⟩
  have bc := below_al (Below.refl y4.heap.size y4) (.cells #[.bool rx, .slice Ax mx cx] 24)
  have bb := below_then b1 bc
  replace t1 := t1.below' bb
  replace t2 := t2.below' bb
  replace m1 := m1.below bb
  replace m2 := m2.below bb
  replace tg := tg.below' bb
  replace ng := ng.below bb
  replace tp := tp.below' bb
  replace np := np.below bb
  replace tq := tq.below' bb
  replace nq := nq.below bb
  replace hbW := below_then hbW bb
  have tx := Two.made y4 24 (.bool rx) (.slice Ax mx cx)
  replace nx := nx.below bc
  clear k1 k2 k3 k4 b1 bb bc RX
  have k1 := t2.fst
  have k2 := t2.snd
  have k3 := tg.fst
  have k4 := tg.snd
  go_wp2_with fail
  refine ((RY _ _ _ _ _ ng lg m2).out).mono ?_
  rintro e y5 ⟨ry, Ay, my, cy, rfl, ny, ly, b1⟩
  have bc := below_al (Below.refl y5.heap.size y5) (.cells #[.bool ry, .slice Ay my cy] 24)
  have bb := below_then b1 bc
  replace t1 := t1.below' bb
  replace t2 := t2.below' bb
  replace m1 := m1.below bb
  replace m2 := m2.below bb
  replace tg := tg.below' bb
  replace ng := ng.below bb
  replace tp := tp.below' bb
  replace np := np.below bb
  replace tq := tq.below' bb
  replace nq := nq.below bb
  replace tx := tx.below' bb
  replace nx := nx.below bb
  replace hbW := below_then hbW bb
  have ty := Two.made y5 24 (.bool ry) (.slice Ay my cy)
  replace ny := ny.below bc
  clear k1 k2 k3 k4 b1 bb bc RY
  have k1 := tp.fst
  have k2 := tp.snd
  have k3 := tq.fst
  have k4 := tq.snd
  go_wp2_with fail
  obtain ⟨V5, hV5⟩ : ∃ V, V = y5.alloc (.cells #[.bool ry, .slice Ay my cy] 24) := ⟨_, rfl⟩
  have RP := row_pair (r1 := rp) (r2 := rq) (NumAt.magA np) (NumAt.magA nq) (by omega) (by omega)
  have hs5 : (y5.alloc (.cells #[.bool ry, .slice Ay my cy] 24)).heap.size = y5.heap.size + 1 := by simp
  rw [hs5] at RP
  clear hs5
  refine ((GC2 _ _ RP).out).mono ?_
  clear RP
  rintro e y6 ⟨r1', Aone, m1', c1', rfl, none1, lone, b1⟩
  have bd := below_al (Below.refl _ (y5.alloc (.cells #[.bool ry, .slice Ay my cy] 24))) (.cells #[.bool rp, .slice Ap mp cp, .bool rq, .slice Aq mq cq] 24)
  have bc := below_al (Below.refl y6.heap.size y6) (.cells #[.bool r1', .slice Aone m1' c1'] 24)
  have bb := below_then (below_then bd b1) bc
  replace tx := tx.below' bb
  replace ty := ty.below' bb
  replace nx := nx.below bb
  replace ny := ny.below bb
  replace hbW := below_then hbW bb
  have tone := Two.made y6 24 (.bool r1') (.slice Aone m1' c1')
  replace none1 := none1.below bc
  clear k1 k2 k3 k4 b1 bb bc bd GC2 t1 t2 m1 m2 tg ng tp tq np nq hV5 V5 lg lp lq
  obtain ⟨Z, hZ⟩ : ∃ Z, Z = y6.alloc (.cells #[.bool r1', .slice Aone m1' c1'] 24) := ⟨_, rfl⟩
  rw [← hZ] at tx ty nx ny hbW tone none1
  have KS : ∀ V, Below Z.heap.size Z V → (Below Z.heap.size Z V ∧ V.cell? ⟨y4.heap.size, 0, none⟩ = some (.bool rx) ∧ V.cell? ⟨y4.heap.size, 1, none⟩ = some (.slice Ax mx cx) ∧ V.cell? ⟨y5.heap.size, 0, none⟩ = some (.bool ry) ∧ V.cell? ⟨y5.heap.size, 1, none⟩ = some (.slice Ay my cy) ∧ V.cell? ⟨y6.heap.size, 0, none⟩ = some (.bool r1') ∧ V.cell? ⟨y6.heap.size, 1, none⟩ = some (.slice Aone m1' c1')) := fun V hb => ⟨hb, (tx.below' hb).fst, (tx.below' hb).snd, (ty.below' hb).fst, (ty.below' hb).snd, (tone.below' hb).fst, (tone.below' hb).snd⟩
  have BX0 : Below Z.heap.size Z Z := Below.refl _ _
  have CX : ∀ V, Below Z.heap.size Z V → Hid (Calls Tryd.prog 27 #[.agg #[.bool rx, .slice Ax mx cx]] V fun e w' => e = .returned (.int .i64 0) ∧ Below Z.heap.size Z w') := fun V hb => Lib.hid (((S0 V _ _ _ _ (nx.below hb) lx).out).mono fun e w' ⟨he, hw⟩ => ⟨he, below_then hb hw⟩)
  have CY : ∀ V, Below Z.heap.size Z V → Hid (Calls Tryd.prog 27 #[.agg #[.bool ry, .slice Ay my cy]] V fun e w' => e = .returned (.int .i64 0) ∧ Below Z.heap.size Z w') := fun V hb => Lib.hid (((S0 V _ _ _ _ (ny.below hb) ly).out).mono fun e w' ⟨he, hw⟩ => ⟨he, below_then hb hw⟩)
  have CO : ∀ V, Below Z.heap.size Z V → Hid (Calls Tryd.prog 32 #[.int .i64 1] V fun e w' => ∃ r A m c, e = .returned (.agg #[.bool r, .slice A m c]) ∧ (NumAt w' r A m c 1 ∧ m ≤ 48) ∧ Below Z.heap.size Z w') := fun V hb => Lib.hid ((of_one V).mono fun e w' hq => by
    obtain ⟨r, A, m, c, he, hc, hw⟩ := hq
    exact ⟨r, A, m, c, he, hc, below_then hb hw⟩)
  have CC : ∀ V r A m c, Below Z.heap.size Z V → NumAt V r A m c 1 ∧ m ≤ 48 → Hid (Calls Tryd.prog 31 #[.agg #[.bool r1', .slice Aone m1' c1'], .agg #[.bool r, .slice A m c]] V fun e w' => e = .returned (.int .i64 0) ∧ Below Z.heap.size Z w') := fun V r A m c hb h => Lib.hid ((cmp_at V (none1.below hb) h.1 (by omega) (by omega)).mono fun e w' ⟨he, hw⟩ => ⟨by rw [he, cmpI_eq rfl], below_then hb hw⟩)
  have CW : ∀ V, Below Z.heap.size Z V → Hid (Calls Tryd.prog 18 #[] V fun e w' => e = .returned (.bool true) ∧ Below Z.heap.size Z w') := fun V hb => Lib.hid ((AW V (below_then hbW hb)).out.mono fun e w' ⟨he, hw⟩ => ⟨he, below_then hb hw⟩)
  go_wp2_with fail
  rw [← hZ]
  have HZ := Lib.hid hZ
  clear hZ
  go_region_held3 (fun V => Below Z.heap.size Z V ∧ V.cell? ⟨y4.heap.size, 0, none⟩ = some (.bool rx) ∧ V.cell? ⟨y4.heap.size, 1, none⟩ = some (.slice Ax mx cx) ∧ V.cell? ⟨y5.heap.size, 0, none⟩ = some (.bool ry) ∧ V.cell? ⟨y5.heap.size, 1, none⟩ = some (.slice Ay my cy) ∧ V.cell? ⟨y6.heap.size, 0, none⟩ = some (.bool r1') ∧ V.cell? ⟨y6.heap.size, 1, none⟩ = some (.slice Aone m1' c1')) (exact KS _ (by first | assumption | exact Below.drew (by assumption)))
    (first
      | (go_at_call 27; (with_reducible refine ((CX _ (by first | assumption | exact Below.drew (by assumption))).out).mono ?_); rintro e yf ⟨rfl, bb⟩)
      | (go_at_call 27; (with_reducible refine ((CY _ (by first | assumption | exact Below.drew (by assumption))).out).mono ?_); rintro e yf ⟨rfl, bb⟩)
      | (go_at_call 32; (with_reducible refine ((CO _ (by first | assumption | exact Below.drew (by assumption))).out).mono ?_); rintro e yf ⟨ro, Ao, mo, co, rfl, HO, bb⟩)
      | (go_at_call 31; (with_reducible refine ((CC _ ro Ao mo co (by first | assumption | exact Below.drew (by assumption)) (by exact HO)).out).mono ?_); rintro e yf ⟨rfl, bb⟩)
      | (go_at_call 18; (with_reducible refine ((CW _ (by first | assumption | exact Below.drew (by assumption))).out).mono ?_); rintro e yf ⟨rfl, bb⟩))
  have fb := (show Below Z.heap.size Z _ from (by first | assumption | exact Below.drew (by assumption)))
  go_wp2
  go_ret
  exact ⟨rfl, below_then hbW fb⟩
set_option maxHeartbeats 12800000 in
set_option maxRecDepth 100000 in
theorem main0 (r1 r2 : Bool) (A1 A2 : Option Addr) (n1 c1 n2 c2 : Nat) (x y : Int) (w : World) (ht : Tab w) (h1 : NumAt w r1 A1 n1 c1 x) (h2 : NumAt w r2 A2 n2 c2 y) (l1 : n1 ≤ 24) (l2 : n2 ≤ 24) (hx : x = 0) (hy : y ≠ 0) :
    Calls Tryd.prog 16 #[.agg #[.bool r1, .slice A1 n1 c1], .agg #[.bool r2, .slice A2 n2 c2]] w fun e w' => e = .returned (.bool true) ∧ Below w.heap.size w w' := by
  obtain ⟨W, hW⟩ : ∃ W, W = (w.alloc (.cells #[.bool r1, .slice A1 n1 c1] 24)).alloc (.cells #[.bool r2, .slice A2 n2 c2] 24) := ⟨_, rfl⟩
  obtain ⟨t1, t2, hbW, hWs⟩ := boxes24 w _ _ _ _ W hW
  have AW : ∀ V, Below w.heap.size w V → Hid (Calls Tryd.prog 18 #[] V fun e w' => e = .returned (.bool true) ∧ Below V.heap.size V w') :=
    fun V hb => Lib.hid (awake_any V (ht.below hb))
  have m1 := h1.below hbW
  have m2 := h2.below hbW
  have DX : dl x.natAbs ≤ 24 := by have := NumAt.dl h1; omega
  have DY : dl y.natAbs ≤ 24 := by have := NumAt.dl h2; omega
  obtain ⟨g, hg⟩ : ∃ g, Nat.gcd x.natAbs y.natAbs = g := ⟨_, rfl⟩
  have hg0 : 0 < g := by rw [← hg]; exact Nat.gcd_pos_iff.2 (by omega)
  have dx : g ∣ x.natAbs := by rw [← hg]; exact Nat.gcd_dvd_left _ _
  have dy : g ∣ y.natAbs := by rw [← hg]; exact Nat.gcd_dvd_right _ _
  have DG : dl g ≤ 24 := by rw [← hg]; exact dl_gcd DX DY
  obtain ⟨p, hp⟩ : ∃ p, Int.tdiv x (g : Nat) = p := ⟨_, rfl⟩
  obtain ⟨q, hq⟩ : ∃ q, Int.tdiv y (g : Nat) = q := ⟨_, rfl⟩
  have rx : Int.tmod x (g : Nat) = 0 := Int.tmod_eq_zero_of_dvd (Int.dvd_natAbs.1 (Int.natCast_dvd_natCast.2 dx))
  have ry : Int.tmod y (g : Nat) = 0 := Int.tmod_eq_zero_of_dvd (Int.dvd_natAbs.1 (Int.natCast_dvd_natCast.2 dy))
  have ap : p.natAbs = x.natAbs / g := by rw [← hp, Int.natAbs_tdiv]; rfl
  have aq : q.natAbs = y.natAbs / g := by rw [← hq, Int.natAbs_tdiv]; rfl
  have DP : dl p.natAbs ≤ 24 := by rw [ap]; exact Nat.le_trans (dl_mono (Nat.div_le_self _ _)) DX
  have DQ : dl q.natAbs ≤ 24 := by rw [aq]; exact Nat.le_trans (dl_mono (Nat.div_le_self _ _)) DY
  have g1 : Nat.gcd p.natAbs q.natAbs = 1 := by rw [ap, aq, ← hg]; rw [Nat.gcd_div (Nat.gcd_dvd_left _ _) (Nat.gcd_dvd_right _ _)]; exact Nat.div_self (by rw [hg]; exact hg0)
  have gi : ((g : Nat) : Int) ≠ 0 := by omega
  have GC1 : ∀ V A, Row24 V A [x.natAbs, y.natAbs] → Hid (Calls Tryd.prog 44 #[.slice A 2 2] V fun e w' => ∃ r A m c, e = .returned (.tuple #[.agg #[.bool r, .slice A m c], .int .i64 0]) ∧ NumAt w' r A m c (((g : Nat) : Int)) ∧ m ≤ 48 ∧ Below V.heap.size V w') := fun V A h => Lib.hid ((gcd_at A 2 2 _ V h rfl (by omega)).mono fun e w' hq => by
    have hg2 : gcdL [x.natAbs, y.natAbs] = g := (by rw [gcd_two, hg])
    rw [hg2] at hq
    obtain ⟨r, A, m, c, he, hn, hm, hb⟩ := TellsF.fits hq (show dl g ≤ 48 by omega)
    exact ⟨r, A, m, c, he, hn, by rw [hm]; exact (show dl g ≤ 48 by omega), hb⟩)
  have QX : ∀ V r A m c, NumAt V r A m c ((g : Nat) : Int) → m ≤ 48 → NumAt V r1 A1 n1 c1 x → Hid (Calls Tryd.prog 40 #[.agg #[.bool r1, .slice A1 n1 c1], .agg #[.bool r, .slice A m c]] V fun e w' => ∃ r A m c, e = .returned (.tuple #[.agg #[.bool r, .slice A m c], .int .i64 0]) ∧ NumAt w' r A m c (p) ∧ m ≤ 48 ∧ Below V.heap.size V w') := fun V r A m c h hm h1 => Lib.hid ((quo_at V h1 h (by omega) (by omega) gi).mono fun e w' hz => by
    have hz := hz.tellsF
    rw [hp] at hz
    obtain ⟨r, A, m, c, he, hn, hm, hb⟩ := TellsF.fits hz (show dl p.natAbs ≤ 48 by omega)
    exact ⟨r, A, m, c, he, hn, by rw [hm]; exact (show dl p.natAbs ≤ 48 by omega), hb⟩)
  have QY : ∀ V r A m c, NumAt V r A m c ((g : Nat) : Int) → m ≤ 48 → NumAt V r2 A2 n2 c2 y → Hid (Calls Tryd.prog 40 #[.agg #[.bool r2, .slice A2 n2 c2], .agg #[.bool r, .slice A m c]] V fun e w' => ∃ r A m c, e = .returned (.tuple #[.agg #[.bool r, .slice A m c], .int .i64 0]) ∧ NumAt w' r A m c (q) ∧ m ≤ 48 ∧ Below V.heap.size V w') := fun V r A m c h hm h1 => Lib.hid ((quo_at V h1 h (by omega) (by omega) gi).mono fun e w' hz => by
    have hz := hz.tellsF
    rw [hq] at hz
    obtain ⟨r, A, m, c, he, hn, hm, hb⟩ := TellsF.fits hz (show dl q.natAbs ≤ 48 by omega)
    exact ⟨r, A, m, c, he, hn, by rw [hm]; exact (show dl q.natAbs ≤ 48 by omega), hb⟩)
  have RX : ∀ V r A m c, NumAt V r A m c ((g : Nat) : Int) → m ≤ 48 → NumAt V r1 A1 n1 c1 x → Hid (Calls Tryd.prog 41 #[.agg #[.bool r1, .slice A1 n1 c1], .agg #[.bool r, .slice A m c]] V fun e w' => ∃ r A m c, e = .returned (.tuple #[.agg #[.bool r, .slice A m c], .int .i64 0]) ∧ NumAt w' r A m c (0) ∧ m ≤ 48 ∧ Below V.heap.size V w') := fun V r A m c h hm h1 => Lib.hid ((rem_at V h1 h (by omega) (by omega) gi).mono fun e w' hz => by
    have hz := hz.tellsF
    rw [rx] at hz
    obtain ⟨r, A, m, c, he, hn, hm, hb⟩ := TellsF.fits hz (show dl (0 : Int).natAbs ≤ 48 by decide)
    exact ⟨r, A, m, c, he, hn, by rw [hm]; exact (show dl (0 : Int).natAbs ≤ 48 by decide), hb⟩)
  have RY : ∀ V r A m c, NumAt V r A m c ((g : Nat) : Int) → m ≤ 48 → NumAt V r2 A2 n2 c2 y → Hid (Calls Tryd.prog 41 #[.agg #[.bool r2, .slice A2 n2 c2], .agg #[.bool r, .slice A m c]] V fun e w' => ∃ r A m c, e = .returned (.tuple #[.agg #[.bool r, .slice A m c], .int .i64 0]) ∧ NumAt w' r A m c (0) ∧ m ≤ 48 ∧ Below V.heap.size V w') := fun V r A m c h hm h1 => Lib.hid ((rem_at V h1 h (by omega) (by omega) gi).mono fun e w' hz => by
    have hz := hz.tellsF
    rw [ry] at hz
    obtain ⟨r, A, m, c, he, hn, hm, hb⟩ := TellsF.fits hz (show dl (0 : Int).natAbs ≤ 48 by decide)
    exact ⟨r, A, m, c, he, hn, by rw [hm]; exact (show dl (0 : Int).natAbs ≤ 48 by decide), hb⟩)
  have GC2 : ∀ V A, Row24 V A [p.natAbs, q.natAbs] → Hid (Calls Tryd.prog 44 #[.slice A 2 2] V fun e w' => ∃ r A m c, e = .returned (.tuple #[.agg #[.bool r, .slice A m c], .int .i64 0]) ∧ NumAt w' r A m c (1) ∧ m ≤ 48 ∧ Below V.heap.size V w') := fun V A h => Lib.hid ((gcd_at A 2 2 _ V h rfl (by omega)).mono fun e w' hz => by
    have hg2 : gcdL [p.natAbs, q.natAbs] = 1 := by rw [gcd_two, g1]
    rw [hg2] at hz
    obtain ⟨r, A, m, c, he, hn, hm, hb⟩ := TellsF.fits hz (show dl 1 ≤ 48 by decide)
    exact ⟨r, A, m, c, he, hn, by rw [hm]; exact (show dl 1 ≤ 48 by decide), hb⟩)
  have S0 : ∀ V r A m c, NumAt V r A m c 0 → m ≤ 48 → Hid (Calls Tryd.prog 27 #[.agg #[.bool r, .slice A m c]] V fun e w' => e = .returned (.int .i64 0) ∧ Below V.heap.size V w') := fun V r A m c h hm => Lib.hid ((sign_at V h (by omega)).mono fun e w' ⟨he, hb⟩ => ⟨by rw [he, cmpI_eq rfl], hb⟩)
  have SG : ∀ V r A m c, NumAt V r A m c ((g : Nat) : Int) → m ≤ 48 → Hid (Calls Tryd.prog 27 #[.agg #[.bool r, .slice A m c]] V fun e w' => e = .returned (.int .i64 1) ∧ Below V.heap.size V w') := fun V r A m c h hm => Lib.hid ((sign_at V h (by omega)).mono fun e w' ⟨he, hb⟩ => ⟨by rw [he, cmpI_gt (by omega)], hb⟩)
  have SA : ∀ V, NumAt V r1 A1 n1 c1 x → Hid (Calls Tryd.prog 27 #[.agg #[.bool r1, .slice A1 n1 c1]] V fun e w' => e = .returned (.int .i64 0) ∧ Below V.heap.size V w') := fun V h => Lib.hid ((sign_at V h (by omega)).mono fun e w' ⟨he, hb⟩ => ⟨by rw [he, cmpI_eq hx], hb⟩)
  obtain ⟨sy, hsy⟩ : ∃ sy, cmpI y 0 = sy := ⟨_, rfl⟩
  have hsy0 : (sy == 0) = false := by
    rw [← hsy]
    rcases Int.lt_trichotomy y 0 with k | k | k
    · rw [cmpI_lt k]; rfl
    · exact absurd k hy
    · rw [cmpI_gt k]; rfl
  have SB : ∀ V, NumAt V r2 A2 n2 c2 y → Hid (Calls Tryd.prog 27 #[.agg #[.bool r2, .slice A2 n2 c2]] V fun e w' => e = .returned (.int .i64 sy) ∧ Below V.heap.size V w') := fun V h => Lib.hid ((sign_at V h (by omega)).mono fun e w' ⟨he, hb⟩ => ⟨by rw [he, hsy], hb⟩)
  have k1 := t1.fst
  have k2 := t1.snd
  have k3 := t2.fst
  have k4 := t2.snd
  clear hx ht h1 h2 hy hsy hg hp hq rx ry ap aq g1 gi DP DQ dx dy hg0 DG DX DY
  have l1' := l1
  go_enter Tryd.func16, Tryd.ntmps16
  go_wp2_with fail
  rw [← hW]
  have HW := Lib.hid hW
  have RP := row_pair (r1 := r1) (r2 := r2) (NumAt.magA m1) (NumAt.magA m2) (by omega) (by omega)
  have hWs2 : W.heap.size = w.heap.size + 1 + 1 := hWs
  rw [hWs2] at RP
  clear hWs2
  clear hW hWs
  have ba := below_al (Below.refl W.heap.size W) (.cells #[.bool r1, .slice A1 n1 c1, .bool r2, .slice A2 n2 c2] 24)
  refine ((GC1 _ _ RP).out).mono ?_
  clear RP
  rintro e y1 ⟨rg, Ag, mg, cg, rfl, ng, lg, b1⟩
  replace b1 := below_then ba b1
  clear ba
  have bc := below_al (Below.refl y1.heap.size y1) (.cells #[.bool rg, .slice Ag mg cg] 24)
  have bb := below_then b1 bc
  replace t1 := t1.below' bb
  replace t2 := t2.below' bb
  replace m1 := m1.below bb
  replace m2 := m2.below bb
  replace hbW := below_then hbW bb
  have tg := Two.made y1 24 (.bool rg) (.slice Ag mg cg)
  replace ng := ng.below bc
  clear k1 k2 k3 k4 b1 bb bc GC1
  obtain ⟨X, hX⟩ : ∃ X, X = y1.alloc (.cells #[.bool rg, .slice Ag mg cg] 24) := ⟨_, rfl⟩
  rw [← hX] at t1 t2 m1 m2 hbW tg ng
  have KS : ∀ V, Below X.heap.size X V → (Below X.heap.size X V ∧ V.cell? ⟨w.heap.size, 0, none⟩ = some (.bool r1) ∧ V.cell? ⟨w.heap.size, 1, none⟩ = some (.slice A1 n1 c1) ∧ V.cell? ⟨w.heap.size + 1, 0, none⟩ = some (.bool r2) ∧ V.cell? ⟨w.heap.size + 1, 1, none⟩ = some (.slice A2 n2 c2) ∧ V.cell? ⟨y1.heap.size, 0, none⟩ = some (.bool rg) ∧ V.cell? ⟨y1.heap.size, 1, none⟩ = some (.slice Ag mg cg)) := fun V hb => ⟨hb, (t1.below' hb).fst, (t1.below' hb).snd, (t2.below' hb).fst, (t2.below' hb).snd, (tg.below' hb).fst, (tg.below' hb).snd⟩
  have BX0 : Below X.heap.size X X := Below.refl _ _
  have CG : ∀ V, Below X.heap.size X V → Hid (Calls Tryd.prog 27 #[.agg #[.bool rg, .slice Ag mg cg]] V fun e w' => e = .returned (.int .i64 1) ∧ Below X.heap.size X w') := fun V hb => Lib.hid (((SG V _ _ _ _ (ng.below hb) lg).out).mono fun e w' ⟨he, hw⟩ => ⟨he, below_then hb hw⟩)
  have CA : ∀ V, Below X.heap.size X V → Hid (Calls Tryd.prog 27 #[.agg #[.bool r1, .slice A1 n1 c1]] V fun e w' => e = .returned (.int .i64 0) ∧ Below X.heap.size X w') := fun V hb => Lib.hid (((SA V (m1.below hb)).out).mono fun e w' ⟨he, hw⟩ => ⟨he, below_then hb hw⟩)
  have CB : ∀ V, Below X.heap.size X V → Hid (Calls Tryd.prog 27 #[.agg #[.bool r2, .slice A2 n2 c2]] V fun e w' => e = .returned (.int .i64 sy) ∧ Below X.heap.size X w') := fun V hb => Lib.hid (((SB V (m2.below hb)).out).mono fun e w' ⟨he, hw⟩ => ⟨he, below_then hb hw⟩)
  go_wp2_with fail
  rw [← hX]
  have HX := Lib.hid hX
  clear hX
  have XB := hbW
  clear hbW
  go_region_held3 (fun V => Below X.heap.size X V ∧ V.cell? ⟨w.heap.size, 0, none⟩ = some (.bool r1) ∧ V.cell? ⟨w.heap.size, 1, none⟩ = some (.slice A1 n1 c1) ∧ V.cell? ⟨w.heap.size + 1, 0, none⟩ = some (.bool r2) ∧ V.cell? ⟨w.heap.size + 1, 1, none⟩ = some (.slice A2 n2 c2) ∧ V.cell? ⟨y1.heap.size, 0, none⟩ = some (.bool rg) ∧ V.cell? ⟨y1.heap.size, 1, none⟩ = some (.slice Ag mg cg)) (exact KS _ (by first | assumption | exact Below.drew (by assumption)))
    (first
      | (go_at_call 27; (with_reducible refine ((CG _ (by first | assumption | exact Below.drew (by assumption))).out).mono ?_); rintro e yf ⟨rfl, bb⟩)
      | (go_at_call 27; (with_reducible refine ((CA _ (by first | assumption | exact Below.drew (by assumption))).out).mono ?_); rintro e yf ⟨rfl, bb⟩)
      | (go_at_call 27; (with_reducible refine ((CB _ (by first | assumption | exact Below.drew (by assumption))).out).mono ?_); rintro e yf ⟨rfl, bb⟩))
  have fb := (show Below X.heap.size X _ from (by first | assumption | exact Below.drew (by assumption)))
  have hbW := below_then XB fb
  replace t1 := t1.below' fb
  replace t2 := t2.below' fb
  replace m1 := m1.below fb
  replace m2 := m2.below fb
  replace tg := tg.below' fb
  replace ng := ng.below fb
  clear KS BX0 CG CA fb CB XB SB SA
  have k1 := tg.fst
  have k2 := tg.snd
  go_wp2_with fail
  refine ((SG _ _ _ _ _ ng lg).out).mono ?_
  rintro e z0 ⟨rfl, bb⟩
  replace t1 := t1.below' bb
  replace t2 := t2.below' bb
  replace m1 := m1.below bb
  replace m2 := m2.below bb
  replace tg := tg.below' bb
  replace ng := ng.below bb
  replace hbW := below_then hbW bb
  clear k1 k2 bb SG
  have k1 := t1.fst
  have k2 := t1.snd
  have k3 := tg.fst
  have k4 := tg.snd
  go_wp2_with fail
  refine ((QX _ _ _ _ _ ng lg m1).out).mono ?_
  rintro e y2 ⟨rp, Ap, mp, cp, rfl, np, lp, b1⟩
  have bc := below_al (Below.refl y2.heap.size y2) (.cells #[.bool rp, .slice Ap mp cp] 24)
  have bb := below_then b1 bc
  replace t1 := t1.below' bb
  replace t2 := t2.below' bb
  replace m1 := m1.below bb
  replace m2 := m2.below bb
  replace tg := tg.below' bb
  replace ng := ng.below bb
  replace hbW := below_then hbW bb
  have tp := Two.made y2 24 (.bool rp) (.slice Ap mp cp)
  replace np := np.below bc
  clear k1 k2 k3 k4 b1 bb bc QX
  have k1 := t2.fst
  have k2 := t2.snd
  have k3 := tg.fst
  have k4 := tg.snd
  go_wp2_with fail
  refine ((QY _ _ _ _ _ ng lg m2).out).mono ?_
  rintro e y3 ⟨rq, Aq, mq, cq, rfl, nq, lq, b1⟩
  have bc := below_al (Below.refl y3.heap.size y3) (.cells #[.bool rq, .slice Aq mq cq] 24)
  have bb := below_then b1 bc
  replace t1 := t1.below' bb
  replace t2 := t2.below' bb
  replace m1 := m1.below bb
  replace m2 := m2.below bb
  replace tg := tg.below' bb
  replace ng := ng.below bb
  replace tp := tp.below' bb
  replace np := np.below bb
  replace hbW := below_then hbW bb
  have tq := Two.made y3 24 (.bool rq) (.slice Aq mq cq)
  replace nq := nq.below bc
  clear k1 k2 k3 k4 b1 bb bc QY
  have k1 := t1.fst
  have k2 := t1.snd
  have k3 := tg.fst
  have k4 := tg.snd
  go_wp2_with fail
  refine ((RX _ _ _ _ _ ng lg m1).out).mono ?_
  rintro e y4 ⟨rx, Ax, mx, cx, rfl, nx, lx, b1⟩
  have bc := below_al (Below.refl y4.heap.size y4) (.cells #[.bool rx, .slice Ax mx cx] 24)
  have bb := below_then b1 bc
  replace t1 := t1.below' bb
  replace t2 := t2.below' bb
  replace m1 := m1.below bb
  replace m2 := m2.below bb
  replace tg := tg.below' bb
  replace ng := ng.below bb
  replace tp := tp.below' bb
  replace np := np.below bb
  replace tq := tq.below' bb
  replace nq := nq.below bb
  replace hbW := below_then hbW bb
  have tx := Two.made y4 24 (.bool rx) (.slice Ax mx cx)
  replace nx := nx.below bc
  clear k1 k2 k3 k4 b1 bb bc RX
  have k1 := t2.fst
  have k2 := t2.snd
  have k3 := tg.fst
  have k4 := tg.snd
  go_wp2_with fail
  refine ((RY _ _ _ _ _ ng lg m2).out).mono ?_
  rintro e y5 ⟨ry, Ay, my, cy, rfl, ny, ly, b1⟩
  have bc := below_al (Below.refl y5.heap.size y5) (.cells #[.bool ry, .slice Ay my cy] 24)
  have bb := below_then b1 bc
  replace t1 := t1.below' bb
  replace t2 := t2.below' bb
  replace m1 := m1.below bb
  replace m2 := m2.below bb
  replace tg := tg.below' bb
  replace ng := ng.below bb
  replace tp := tp.below' bb
  replace np := np.below bb
  replace tq := tq.below' bb
  replace nq := nq.below bb
  replace tx := tx.below' bb
  replace nx := nx.below bb
  replace hbW := below_then hbW bb
  have ty := Two.made y5 24 (.bool ry) (.slice Ay my cy)
  replace ny := ny.below bc
  clear k1 k2 k3 k4 b1 bb bc RY
  have k1 := tp.fst
  have k2 := tp.snd
  have k3 := tq.fst
  have k4 := tq.snd
  go_wp2_with fail
  obtain ⟨V5, hV5⟩ : ∃ V, V = y5.alloc (.cells #[.bool ry, .slice Ay my cy] 24) := ⟨_, rfl⟩
  have RP := row_pair (r1 := rp) (r2 := rq) (NumAt.magA np) (NumAt.magA nq) (by omega) (by omega)
  have hs5 : (y5.alloc (.cells #[.bool ry, .slice Ay my cy] 24)).heap.size = y5.heap.size + 1 := by simp
  rw [hs5] at RP
  clear hs5
  refine ((GC2 _ _ RP).out).mono ?_
  clear RP
  rintro e y6 ⟨r1', Aone, m1', c1', rfl, none1, lone, b1⟩
  have bd := below_al (Below.refl _ (y5.alloc (.cells #[.bool ry, .slice Ay my cy] 24))) (.cells #[.bool rp, .slice Ap mp cp, .bool rq, .slice Aq mq cq] 24)
  have bc := below_al (Below.refl y6.heap.size y6) (.cells #[.bool r1', .slice Aone m1' c1'] 24)
  have bb := below_then (below_then bd b1) bc
  replace tx := tx.below' bb
  replace ty := ty.below' bb
  replace nx := nx.below bb
  replace ny := ny.below bb
  replace hbW := below_then hbW bb
  have tone := Two.made y6 24 (.bool r1') (.slice Aone m1' c1')
  replace none1 := none1.below bc
  clear k1 k2 k3 k4 b1 bb bc bd GC2 t1 t2 m1 m2 tg ng tp tq np nq hV5 V5 lg lp lq
  obtain ⟨Z, hZ⟩ : ∃ Z, Z = y6.alloc (.cells #[.bool r1', .slice Aone m1' c1'] 24) := ⟨_, rfl⟩
  rw [← hZ] at tx ty nx ny hbW tone none1
  have KS : ∀ V, Below Z.heap.size Z V → (Below Z.heap.size Z V ∧ V.cell? ⟨y4.heap.size, 0, none⟩ = some (.bool rx) ∧ V.cell? ⟨y4.heap.size, 1, none⟩ = some (.slice Ax mx cx) ∧ V.cell? ⟨y5.heap.size, 0, none⟩ = some (.bool ry) ∧ V.cell? ⟨y5.heap.size, 1, none⟩ = some (.slice Ay my cy) ∧ V.cell? ⟨y6.heap.size, 0, none⟩ = some (.bool r1') ∧ V.cell? ⟨y6.heap.size, 1, none⟩ = some (.slice Aone m1' c1')) := fun V hb => ⟨hb, (tx.below' hb).fst, (tx.below' hb).snd, (ty.below' hb).fst, (ty.below' hb).snd, (tone.below' hb).fst, (tone.below' hb).snd⟩
  have BX0 : Below Z.heap.size Z Z := Below.refl _ _
  have CX : ∀ V, Below Z.heap.size Z V → Hid (Calls Tryd.prog 27 #[.agg #[.bool rx, .slice Ax mx cx]] V fun e w' => e = .returned (.int .i64 0) ∧ Below Z.heap.size Z w') := fun V hb => Lib.hid (((S0 V _ _ _ _ (nx.below hb) lx).out).mono fun e w' ⟨he, hw⟩ => ⟨he, below_then hb hw⟩)
  have CY : ∀ V, Below Z.heap.size Z V → Hid (Calls Tryd.prog 27 #[.agg #[.bool ry, .slice Ay my cy]] V fun e w' => e = .returned (.int .i64 0) ∧ Below Z.heap.size Z w') := fun V hb => Lib.hid (((S0 V _ _ _ _ (ny.below hb) ly).out).mono fun e w' ⟨he, hw⟩ => ⟨he, below_then hb hw⟩)
  have CO : ∀ V, Below Z.heap.size Z V → Hid (Calls Tryd.prog 32 #[.int .i64 1] V fun e w' => ∃ r A m c, e = .returned (.agg #[.bool r, .slice A m c]) ∧ (NumAt w' r A m c 1 ∧ m ≤ 48) ∧ Below Z.heap.size Z w') := fun V hb => Lib.hid ((of_one V).mono fun e w' hq => by
    obtain ⟨r, A, m, c, he, hc, hw⟩ := hq
    exact ⟨r, A, m, c, he, hc, below_then hb hw⟩)
  have CC : ∀ V r A m c, Below Z.heap.size Z V → NumAt V r A m c 1 ∧ m ≤ 48 → Hid (Calls Tryd.prog 31 #[.agg #[.bool r1', .slice Aone m1' c1'], .agg #[.bool r, .slice A m c]] V fun e w' => e = .returned (.int .i64 0) ∧ Below Z.heap.size Z w') := fun V r A m c hb h => Lib.hid ((cmp_at V (none1.below hb) h.1 (by omega) (by omega)).mono fun e w' ⟨he, hw⟩ => ⟨by rw [he, cmpI_eq rfl], below_then hb hw⟩)
  have CW : ∀ V, Below Z.heap.size Z V → Hid (Calls Tryd.prog 18 #[] V fun e w' => e = .returned (.bool true) ∧ Below Z.heap.size Z w') := fun V hb => Lib.hid ((AW V (below_then hbW hb)).out.mono fun e w' ⟨he, hw⟩ => ⟨he, below_then hb hw⟩)
  go_wp2_with fail
  rw [← hZ]
  have HZ := Lib.hid hZ
  clear hZ
  go_region_held3 (fun V => Below Z.heap.size Z V ∧ V.cell? ⟨y4.heap.size, 0, none⟩ = some (.bool rx) ∧ V.cell? ⟨y4.heap.size, 1, none⟩ = some (.slice Ax mx cx) ∧ V.cell? ⟨y5.heap.size, 0, none⟩ = some (.bool ry) ∧ V.cell? ⟨y5.heap.size, 1, none⟩ = some (.slice Ay my cy) ∧ V.cell? ⟨y6.heap.size, 0, none⟩ = some (.bool r1') ∧ V.cell? ⟨y6.heap.size, 1, none⟩ = some (.slice Aone m1' c1')) (exact KS _ (by first | assumption | exact Below.drew (by assumption)))
    (first
      | (go_at_call 27; (with_reducible refine ((CX _ (by first | assumption | exact Below.drew (by assumption))).out).mono ?_); rintro e yf ⟨rfl, bb⟩)
      | (go_at_call 27; (with_reducible refine ((CY _ (by first | assumption | exact Below.drew (by assumption))).out).mono ?_); rintro e yf ⟨rfl, bb⟩)
      | (go_at_call 32; (with_reducible refine ((CO _ (by first | assumption | exact Below.drew (by assumption))).out).mono ?_); rintro e yf ⟨ro, Ao, mo, co, rfl, HO, bb⟩)
      | (go_at_call 31; (with_reducible refine ((CC _ ro Ao mo co (by first | assumption | exact Below.drew (by assumption)) (by exact HO)).out).mono ?_); rintro e yf ⟨rfl, bb⟩)
      | (go_at_call 18; (with_reducible refine ((CW _ (by first | assumption | exact Below.drew (by assumption))).out).mono ?_); rintro e yf ⟨rfl, bb⟩))
  have fb := (show Below Z.heap.size Z _ from (by first | assumption | exact Below.drew (by assumption)))
  go_wp2
  go_ret
  exact ⟨rfl, below_then hbW fb⟩
set_option maxHeartbeats 3200000 in
set_option maxRecDepth 100000 in
theorem long_1 (r1 r2 : Bool) (A1 A2 : Option Addr) (n1 c1 n2 c2 : Nat) (w : World) (ht : Tab w) (l1 : 24 < n1) :
    Calls Tryd.prog 16 #[.agg #[.bool r1, .slice A1 n1 c1], .agg #[.bool r2, .slice A2 n2 c2]] w fun e w' => e = .returned (.bool true) ∧ Below w.heap.size w w' := by
  obtain ⟨W, hW⟩ : ∃ W, W = (w.alloc (.cells #[.bool r1, .slice A1 n1 c1] 24)).alloc (.cells #[.bool r2, .slice A2 n2 c2] 24) := ⟨_, rfl⟩
  obtain ⟨t1, t2, hbW, hWs⟩ := boxes24 w _ _ _ _ W hW
  have AW : ∀ V, Below w.heap.size w V → Hid (Calls Tryd.prog 18 #[] V fun e w' => e = .returned (.bool true) ∧ Below w.heap.size w w') :=
    fun V hb => Lib.hid ((awake_any V (ht.below hb)).mono fun e w' ⟨he, hw⟩ => ⟨he, below_then hb hw⟩)
  have k1 := t1.fst
  have k2 := t1.snd
  have k3 := t2.fst
  have k4 := t2.snd
  clear ht
  go_enter Tryd.func16, Tryd.ntmps16
  go_wp2_with fail
  rw [← hW]
  have HW := Lib.hid hW
  have HWS := Lib.hid hWs
  clear hW hWs
  refine ((AW _ hbW).out).mono ?_
  rintro e y8 ⟨rfl, bb8⟩
  go_wp2
  go_ret
  exact ⟨rfl, bb8⟩
set_option maxHeartbeats 3200000 in
set_option maxRecDepth 100000 in
theorem long_2 (r1 r2 : Bool) (A1 A2 : Option Addr) (n1 c1 n2 c2 : Nat) (w : World) (ht : Tab w) (l1 : n1 ≤ 24) (l2 : 24 < n2) :
    Calls Tryd.prog 16 #[.agg #[.bool r1, .slice A1 n1 c1], .agg #[.bool r2, .slice A2 n2 c2]] w fun e w' => e = .returned (.bool true) ∧ Below w.heap.size w w' := by
  obtain ⟨W, hW⟩ : ∃ W, W = (w.alloc (.cells #[.bool r1, .slice A1 n1 c1] 24)).alloc (.cells #[.bool r2, .slice A2 n2 c2] 24) := ⟨_, rfl⟩
  obtain ⟨t1, t2, hbW, hWs⟩ := boxes24 w _ _ _ _ W hW
  have AW : ∀ V, Below w.heap.size w V → Hid (Calls Tryd.prog 18 #[] V fun e w' => e = .returned (.bool true) ∧ Below w.heap.size w w') :=
    fun V hb => Lib.hid ((awake_any V (ht.below hb)).mono fun e w' ⟨he, hw⟩ => ⟨he, below_then hb hw⟩)
  have k1 := t1.fst
  have k2 := t1.snd
  have k3 := t2.fst
  have k4 := t2.snd
  clear ht
  go_enter Tryd.func16, Tryd.ntmps16
  go_wp2_with fail
  rw [← hW]
  have HW := Lib.hid hW
  have HWS := Lib.hid hWs
  clear hW hWs
  refine ((AW _ hbW).out).mono ?_
  rintro e y8 ⟨rfl, bb8⟩
  go_wp2
  go_ret
  exact ⟨rfl, bb8⟩
theorem walk (r1 r2 : Bool) (A1 A2 : Option Addr) (n1 c1 n2 c2 : Nat) (x y : Int) (w : World) (ht : Tab w) (h1 : NumAt w r1 A1 n1 c1 x) (h2 : NumAt w r2 A2 n2 c2 y) :
    Calls Tryd.prog 16 #[.agg #[.bool r1, .slice A1 n1 c1], .agg #[.bool r2, .slice A2 n2 c2]] w fun e w' => e = .returned (.bool true) ∧ Below w.heap.size w w' := by
  by_cases l1 : n1 ≤ 24
  · by_cases l2 : n2 ≤ 24
    · rcases Int.lt_trichotomy x 0 with hx | hx | hx
      · exact mainN r1 r2 A1 A2 n1 c1 n2 c2 x y w ht h1 h2 l1 l2 hx
      · by_cases hy : y = 0
        · exact mainZ r1 r2 A1 A2 n1 c1 n2 c2 x y w ht h1 h2 l1 l2 hx hy
        · exact main0 r1 r2 A1 A2 n1 c1 n2 c2 x y w ht h1 h2 l1 l2 hx hy
      · exact mainP r1 r2 A1 A2 n1 c1 n2 c2 x y w ht h1 h2 l1 l2 hx
    · exact long_2 r1 r2 A1 A2 n1 c1 n2 c2 w ht l1 (by omega)
  · exact long_1 r1 r2 A1 A2 n1 c1 n2 c2 w ht (by omega)
/-! The row's step. -/
set_option maxRecDepth 100000 in
theorem contract (H : Type) (enc : TypeId × Value → H) (W : World) (base : Nat) (args : Array Value) (ds gs : List (DataW H)) (before : List MemPlace)
    (hval : ∀ (j : Nat) t v, Tryd.f16.params[j]? = some t → args[j]? = some v → Value.okWide Tryd.prog W .any base t v)
    (hW : DataW.Whole enc Tryd.prog Tryd.f16.params.toList Rows.numPartsSpec.vars false W args.toList ds gs before) (hL : laidMetH Tryd.prog Rows.numPartsRow.laid W) :
    Calls Tryd.prog 16 args W fun e W' => ∃ v, e = .returned v ∧ Rows.numPartsSpec.post enc Tryd.prog Tryd.f16 false true false false W args v W' := by
  have hW' := hW
  obtain ⟨p, q, hA0, hV, rfl, hfz, hnd⟩ := hW
  have hA : DataW.TrodAll enc Tryd.prog W 0 (fun _ => true) true Tryd.f16.params.toList args.toList ds p := hA0
  obtain ⟨rfl, rfl⟩ := trodVars_none hV
  simp only [List.append_nil] at hW'
  have hlt : ∀ x ∈ p, x.block < W.heap.size := fun x hx => by simpa using hW'.lt x hx
  have hAk := hA
  rw [Tryd.params16] at hA hval
  obtain ⟨v0, vs0, d0, ds0, p0, q0, hargs, rfl, rfl, h0, r0⟩ := trodAll_cons hA
  obtain ⟨v1, vs1, d1, ds1, p1, q1, rfl, rfl, rfl, h1, r1⟩ := trodAll_cons r0
  obtain ⟨rfl, rfl, rfl⟩ := trodAll_nil r1
  obtain rfl : args = #[v0, v1] := by cases args; simp_all
  obtain ⟨g0, A0, n0, c0, N0, rfl, m0⟩ := open_num (hval 0 24 v0 rfl rfl) h0
  obtain ⟨g1, A1, n1, c1, N1, rfl, m1⟩ := open_num (hval 1 24 v1 rfl rfl) h1
  refine (walk g0 g1 A0 A1 n0 c0 n1 c1 _ _ W (tab_of hL) ⟨N0, m0, rfl⟩ ⟨N1, m1, rfl⟩).mono fun e W' ⟨he, hg⟩ => ?_
  subst he
  exact ⟨_, rfl, _, _, _, [], _, [], hW', (trodAll_cons_mk (shut_bool Tryd.underlying4 _) trodAll_mk0), below_all hg (by kernel_rfl) hAk hlt, rfl, hg.frame _, fun h => by cases h⟩
theorem laid_met (os : Os) : laidMet Tryd.prog Rows.numPartsRow.laid ((laidWorld os).forCall (fun _ _ => 0) ⟨#[], #[.agg #[.bool false, .slice none 0 0], .agg #[.bool false, .slice none 0 0]], []⟩).memory :=
  laidMet_laidAll _ (by kernel_rfl) (by kernel_rfl)
theorem reads (os : Os) {H : Type} (enc : TypeId × Value → H) : ∃ places, DataW.whole enc Tryd.prog ((laidWorld os).forCall (fun _ _ => 0) ⟨#[], #[.agg #[.bool false, .slice none 0 0], .agg #[.bool false, .slice none 0 0]], []⟩).memory Tryd.f16.params.toList Rows.numPartsSpec.vars false (#[(Value.agg #[.bool false, .slice none 0 0]), (Value.agg #[.bool false, .slice none 0 0])] : Array Value).toList 8 = some ([.agg [.lit (.bool false), .nil], .agg [.lit (.bool false), .nil]], [], places) :=
  ⟨[], by kernel_rfl⟩
set_option maxRecDepth 100000 in
theorem lifted (os : Os) (started : os.Started) (H : Type) (enc : TypeId × Value → H) (F : Stop.Interp) :
    ReturnsInHanded {} Tryd.checked os 16 .any ((OpenSpec.ofChange Rows.numPartsSpec).preRow enc Tryd.prog Tryd.f16 Rows.numPartsRow.domain false Rows.numPartsRow.laid) (((OpenSpec.ofChange Rows.numPartsSpec).at F).post enc Tryd.prog Tryd.f16 false true false false) := by
  obtain ⟨places, hx⟩ := reads os enc
  refine returnsInHanded_of_row (C := Tryd.checked) (s := OpenSpec.ofChange Rows.numPartsSpec) own started (by kernel_rfl) Tryd.func16
    (witness_row_at (enc := enc) (C := Tryd.checked) false (laidWorld os) #[.agg #[.bool false, .slice none 0 0], .agg #[.bool false, .slice none 0 0]] (laidWorld_os os) (by kernel_rfl) (by kernel_rfl) (by kernel_rfl)
      (OpenSpec.preRow_of_cond 8 hx (by kernel_rfl) (fun k hk => by cases hk) (by kernel_rfl) (laid_met os))) ?_
  intro W base args ds gs before hval hW _ _ _ hL _ _
  exact contract H enc W base args ds gs before hval hW hL
theorem said : Rows.NumPartsSaid :=
  OpenClaim.holds_of_cond 16 Tryd.f16 rfl rfl rfl rfl rfl rfl rfl ⟨rfl, rfl, rfl, rfl, rfl⟩ rfl rfl rfl rfl rfl (by kernel_rfl) Tryd.func16 (by kernel_rfl)
    (of_decide_eq_true (by kernel_rfl)) (by unfold Func.isWrapper; first | (rw [if_pos (by decide +kernel)]; kernel_rfl) | (rw [if_neg (by decide +kernel)]; exact ⟨rfl, rfl⟩))
    (fun os started H enc _ F => by rw [OpenClaim.pre_eq_preRow]; exact lifted os started H enc F)
theorem plain (f : FuncId) (fn : Func) (hf : Tryd.pinned.checked.prog.funcNamed "moraine/morainelaw02.NumParts" = some f) (hfn : Tryd.pinned.checked.prog.funcs[f]? = some fn) :
    false = Tryd.pinned.checked.prog.looks [] ∧ ∀ (j : Nat) t, fn.params[j]? = some t → Tryd.pinned.checked.prog.wantsStandIn t = false := by
  obtain rfl : f = 16 := Option.some.inj ((show Tryd.prog.funcNamed "moraine/morainelaw02.NumParts" = some 16 by kernel_rfl).symm.trans hf) |>.symm
  obtain rfl : fn = Tryd.f16 := (Option.some.inj (Tryd.func16.symm.trans hfn)).symm
  refine ⟨by kernel_rfl, fun j t ht => ?_⟩
  rw [Tryd.params16] at ht
  have hm := Array.mem_of_getElem? ht
  have hall : (#[24, 24] : Array TypeId).toList.all (fun t => !Tryd.prog.wantsStandIn t) = true := by kernel_rfl
  have := List.all_eq_true.1 hall t (by simpa using hm)
  exact (show Tryd.prog.wantsStandIn t = false by simpa using this)
/-- THE STATEMENT -/
theorem card : Rows.NumPartsCardSaid :=
  Claim7.holds_tied_plain_at .later [] _ _ _ _ said (fun _ h => by cases h) (by kernel_rfl) (fun _ h => by cases h) Go.Proofs.YtocoflojlliapaaDoor.numParts_row_tie rfl ⟨rfl, rfl⟩ (by kernel_rfl) rfl plain (by kernel_rfl)
#print axioms card
end Go.Proofs.YtocoflojlliapaaDoor.numParts
