/- NumDivides: THE LAW's WALK, AND THE STATEMENT. -/
import Derived.Test.YtocoflojlliapaaDoorD2
import Derived.Deep.RegionWith
import Derived.Deep.DeepCutAuto
set_option linter.unusedVariables false
namespace Go.Proofs.YtocoflojlliapaaDoor.numDivides
open Go.ChangeShapes Go.WideShapes Go.ChangeAt Go.RowKit Go.Proofs.YtocoflojlliapaaDoor
set_option maxHeartbeats 12800000 in
set_option maxRecDepth 100000 in
theorem main (r1 r2 : Bool) (A1 A2 : Option Addr) (n1 c1 n2 c2 : Nat) (xs ys : List Nat) (x y : Int) (w : World) (ht : Tab w) (h1 : Limbs w A1 n1 c1 xs) (h2 : Limbs w A2 n2 c2 ys) (hx : sg r1 (val 4294967296 xs) = x) (hy : sg r2 (val 4294967296 ys) = y) (l1 : n1 ≤ 60) (l2 : n2 ≤ 60) :
    Calls Tryd.prog 7 #[.agg #[.bool r1, .slice A1 n1 c1], .agg #[.bool r2, .slice A2 n2 c2]] w fun e w' => e = .returned (.bool true) ∧ Below w.heap.size w w' := by
  obtain ⟨W, hW⟩ : ∃ W, W = (w.alloc (.cells #[.bool r1, .slice A1 n1 c1] 24)).alloc (.cells #[.bool r2, .slice A2 n2 c2] 24) := ⟨_, rfl⟩
  obtain ⟨t1, t2, hbW, hWs⟩ := boxes24 w _ _ _ _ W hW
  have LA := fun W => Lib.hid (long_no r1 A1 n1 c1 l1 W)
  have LB := fun W => Lib.hid (long_no r2 A2 n2 c2 l2 W)
  have HXY := Lib.hid (And.intro hx hy)
  have R1 := h1.below hbW
  have R2 := h2.below hbW
  have NA : ∀ V, Limbs V A1 n1 c1 xs → NumAt V r1 A1 n1 c1 x := fun V h => ⟨_, h.mag, HXY.out.1⟩
  have NB : ∀ V, Limbs V A2 n2 c2 ys → NumAt V r2 A2 n2 c2 y := fun V h => ⟨_, h.mag, HXY.out.2⟩
  have AW : ∀ V, Below w.heap.size w V → Hid (Calls Tryd.prog 18 #[] V fun e w' => e = .returned (.bool true) ∧ Below V.heap.size V w') :=
    fun V hb => Lib.hid (awake_any V (ht.below hb))
  have k1 := t1.fst
  have k2 := t1.snd
  clear hx hy h1 h2 ht
  go_enter Tryd.func7, Tryd.ntmps7
  go_wp2_with fail
  rw [← hW]
  have HW := Lib.hid hW
  clear hW hWs
  refine ((LA _).out).mono ?_
  rintro e v1 ⟨rfl, b1⟩
  replace t1 := t1.below' b1
  replace t2 := t2.below' b1
  replace R1 := R1.below b1
  replace R2 := R2.below b1
  replace hbW := below_then hbW b1
  clear k1 k2 b1 LA
  have k1 := t2.fst
  have k2 := t2.snd
  go_wp2_with fail
  refine ((LB _).out).mono ?_
  rintro e v2 ⟨rfl, b1⟩
  replace t1 := t1.below' b1
  replace t2 := t2.below' b1
  replace R1 := R1.below b1
  replace R2 := R2.below b1
  replace hbW := below_then hbW b1
  clear k1 k2 b1 LB
  have C1 : ∀ V, Below v2.heap.size v2 V → Hid (Calls Tryd.prog 19 #[.agg #[.bool r1, .slice A1 n1 c1]] V fun e w' => ∃ B d, e = .returned (.agg #[.bool r1, .slice B n1 d]) ∧ Limbs w' B n1 d xs ∧ Fro V.heap.size B n1 ∧ Below V.heap.size V w') := fun V hb => Lib.hid (copy_rowF r1 A1 n1 c1 xs V (R1.below hb) (by omega))
  have C2 : ∀ V, Below v2.heap.size v2 V → Hid (Calls Tryd.prog 19 #[.agg #[.bool r2, .slice A2 n2 c2]] V fun e w' => ∃ B d, e = .returned (.agg #[.bool r2, .slice B n2 d]) ∧ Limbs w' B n2 d ys ∧ Fro V.heap.size B n2 ∧ Below V.heap.size V w') := fun V hb => Lib.hid (copy_rowF r2 A2 n2 c2 ys V (R2.below hb) (by omega))
  have BZ : Below v2.heap.size v2 v2 := Below.refl _ _
  have k1 := t1.fst
  have k2 := t1.snd
  have k3 := t2.fst
  have k4 := t2.snd
  have hlt1 := t1.lt
  have hlt2 := t2.lt
  go_upto_region 3 with fail
  go_cut [5, 6] (fun s5 s6 wx => Pair2 (fun w' B n d => Limbs w' B n d xs) (fun w' B n d => Limbs w' B n d ys) v2 wx s5 s6 r1 r2 n1 n2)
  case first =>
    have KS : ∀ V, Below v2.heap.size v2 V → (Below v2.heap.size v2 V ∧ V.cell? ⟨w.heap.size, 0, none⟩ = some (.bool r1) ∧ V.cell? ⟨w.heap.size, 1, none⟩ = some (.slice A1 n1 c1) ∧ V.cell? ⟨w.heap.size + 1, 0, none⟩ = some (.bool r2) ∧ V.cell? ⟨w.heap.size + 1, 1, none⟩ = some (.slice A2 n2 c2)) := fun V hb => ⟨hb, (t1.below' hb).fst, (t1.below' hb).snd, (t2.below' hb).fst, (t2.below' hb).snd⟩
    go_region_held3 (fun V => Below v2.heap.size v2 V ∧ V.cell? ⟨w.heap.size, 0, none⟩ = some (.bool r1) ∧ V.cell? ⟨w.heap.size, 1, none⟩ = some (.slice A1 n1 c1) ∧ V.cell? ⟨w.heap.size + 1, 0, none⟩ = some (.bool r2) ∧ V.cell? ⟨w.heap.size + 1, 1, none⟩ = some (.slice A2 n2 c2)) (first | exact KS _ (by repeat (first | with_reducible exact BZ | assumption | with_reducible apply Below.drew | with_reducible apply below_al | with_reducible refine below_then ?_ yb1 | with_reducible refine below_then ?_ yb2 | with_reducible refine Below.setCell ?_ (by first | exact Nat.le_refl _ | (simp <;> omega)) _)) | go_keep)
      (first
        | (go_at_call 19; (with_reducible refine ((C1 _ (by repeat (first | with_reducible exact BZ | assumption | with_reducible apply Below.drew | with_reducible apply below_al | with_reducible refine below_then ?_ yb1 | with_reducible refine below_then ?_ yb2 | with_reducible refine Below.setCell ?_ (by first | exact Nat.le_refl _ | (simp <;> omega)) _))).out).mono ?_); rintro e y1 ⟨B1, d1, rfl, P1, F1, yb1⟩; have yc1 : Below v2.heap.size v2 y1 := (by repeat (first | with_reducible exact BZ | assumption | with_reducible apply Below.drew | with_reducible apply below_al | with_reducible refine below_then ?_ yb1 | with_reducible refine below_then ?_ yb2 | with_reducible refine Below.setCell ?_ (by first | exact Nat.le_refl _ | (simp <;> omega)) _)); have sz1 := yb1.size; (try have p5 := (Two.made _ 24 (.bool false) (.slice none 0 0)).below' yb1); (try have p5 := (Two.drew1 (Two.made _ 24 (.bool false) (.slice none 0 0))).below' yb1); (try have p6 := ((Two.made _ 24 (.bool false) (.slice none 0 0)).alloc _).below' yb1); (try have p6 := (Two.drew1 ((Two.made _ 24 (.bool false) (.slice none 0 0)).alloc _)).below' yb1); (try simp at p5); (try have p5a := p5.fst); (try have p5b := p5.snd); (try have p5c := p5.free 0); (try have p5d := p5.free 1); (try simp at p6); (try have p6a := p6.fst); (try have p6b := p6.snd); (try have p6c := p6.free 0); (try have p6d := p6.free 1); (try simp at sz1); (try have fa1 : v2.heap.size < y1.heap.size := by omega); (try have fa2 : v2.heap.size + 1 < y1.heap.size := by omega))
        | (go_at_call 19; (with_reducible refine ((C2 _ (by repeat (first | with_reducible exact BZ | assumption | with_reducible apply Below.drew | with_reducible apply below_al | with_reducible refine below_then ?_ yb1 | with_reducible refine below_then ?_ yb2 | with_reducible refine Below.setCell ?_ (by first | exact Nat.le_refl _ | (simp <;> omega)) _))).out).mono ?_); rintro e y2 ⟨B2, d2, rfl, P2, F2, yb2⟩; have yc2 : Below v2.heap.size v2 y2 := (by repeat (first | with_reducible exact BZ | assumption | with_reducible apply Below.drew | with_reducible apply below_al | with_reducible refine below_then ?_ yb1 | with_reducible refine below_then ?_ yb2 | with_reducible refine Below.setCell ?_ (by first | exact Nat.le_refl _ | (simp <;> omega)) _)); have sz2 := yb2.size; (try have q5 := (Two.made _ 24 (.bool false) (.slice none 0 0)).below' yb2); (try have q6 := ((Two.made _ 24 (.bool false) (.slice none 0 0)).alloc _).below' yb2); (try have r5 := p5.below' yb2); (try have r5 := (p5.alloc _).below' yb2); (try have r6 := p6.below' yb2); (try simp at q5); (try have q5a := q5.fst); (try have q5b := q5.snd); (try have q5c := q5.free 0); (try have q5d := q5.free 1); (try simp at q6); (try have q6a := q6.fst); (try have q6b := q6.snd); (try have q6c := q6.free 0); (try have q6d := q6.free 1); (try simp at r5); (try have r5a := r5.fst); (try have r5b := r5.snd); (try have r5c := r5.free 0); (try have r5d := r5.free 1); (try simp at r6); (try have r6a := r6.fst); (try have r6b := r6.snd); (try have r6c := r6.free 0); (try have r6d := r6.free 1); (try simp at sz2); (try have fa3 : y1.heap.size < y2.heap.size := by omega); (try have fa4 : y1.heap.size + 1 < y2.heap.size := by omega); (try have fa5 : v2.heap.size < y2.heap.size := by omega); (try have fa6 : v2.heap.size + 1 < y2.heap.size := by omega); (try have fa7 : y1.heap.size ≠ y2.heap.size := by omega); (try have fa8 : y1.heap.size + 1 ≠ y2.heap.size := by omega); (try have fa9 : v2.heap.size ≠ y2.heap.size := by omega); (try have faa : v2.heap.size + 1 ≠ y2.heap.size := by omega); (try have fab : v2.heap.size ≠ y1.heap.size := by omega)))
    all_goals
      go_wp2_with fail
      go_meet
      case rel => exact fin2 (t := 24) (by repeat (first | with_reducible exact BZ | assumption | with_reducible apply Below.drew | with_reducible apply below_al | with_reducible refine below_then ?_ yb1 | with_reducible refine below_then ?_ yb2 | with_reducible refine Below.setCell ?_ (by first | exact Nat.le_refl _ | (simp <;> omega)) _)) yb1 (by repeat (first | with_reducible exact Below.refl _ _ | with_reducible apply Below.drew | with_reducible apply below_al)) yb2 P1.1 P1.2.2.1 F1 P2.1 P2.2.2.1 F2 (by first | with_reducible exact Two.made' (by simp) | with_reducible exact (Two.made' (by simp)).alloc _ | with_reducible exact Two.set2 (by assumption) | with_reducible exact (Two.set2 (by assumption)).alloc _ | with_reducible exact Two.far2 (Two.set2 (by assumption)) (by omega) | with_reducible exact Two.set2 (Two.far2 (by assumption) (by omega))) (by first | with_reducible exact Two.made' (by simp) | with_reducible exact (Two.made' (by simp)).alloc _ | with_reducible exact Two.set2 (by assumption) | with_reducible exact (Two.set2 (by assumption)).alloc _ | with_reducible exact Two.far2 (Two.set2 (by assumption)) (by omega) | with_reducible exact Two.set2 (Two.far2 (by assumption) (by omega))) (by repeat (first | with_reducible exact Near.refl _ _ _ | with_reducible apply Near.drew | with_reducible apply Near.alloc | with_reducible apply Near.one | with_reducible apply Near.two)) (by omega) (by omega) (by simp <;> omega) (by simp <;> omega) (fun w' h => ⟨h, P1.2⟩) (fun w' h => ⟨h, P2.2⟩)
  case rest =>
  obtain ⟨g5, g6, B1, d1, B2, d2, rfl, rfl, t3, t4, P1, P2, bc⟩ := hcut
  replace t1 := t1.below' bc
  replace t2 := t2.below' bc
  replace R1 := R1.below bc
  replace R2 := R2.below bc
  replace hbW := below_then hbW bc
  clear bc C1 C2 BZ k1 k2 k3 k4 hlt1 hlt2
  obtain ⟨v3, hv3⟩ : ∃ v3 : World, v3 = wc := ⟨_, rfl⟩
  subst hv3
  obtain ⟨rp, hrp⟩ : ∃ rp, decide (x < 0) = rp := ⟨_, rfl⟩
  obtain ⟨rq, hrq⟩ : ∃ rq, decide (y < 0) = rq := ⟨_, rfl⟩
  obtain ⟨mp, hmp⟩ : ∃ mp, bl x.natAbs = mp := ⟨_, rfl⟩
  obtain ⟨mq, hmq⟩ : ∃ mq, bl y.natAbs = mq := ⟨_, rfl⟩
  have DX : mp ≤ 1920 := by rw [← hmp]; exact bl_of_dl (Nat.le_trans (R1.dl HXY.out.1) l1) rfl
  have DY : mq ≤ 1920 := by rw [← hmq]; exact bl_of_dl (Nat.le_trans (R2.dl HXY.out.2) l2) rfl
  have HPQ : Hid ((digs 2 x.natAbs).length = mp ∧ (digs 2 y.natAbs).length = mq ∧ (∀ w' B d, Lim .u8 w'.heap.size w' B (digs 2 x.natAbs) → mp ≤ d → BV 1920 w' rp B mp d x) ∧ (∀ w' B d, Lim .u8 w'.heap.size w' B (digs 2 y.natAbs) → mq ≤ d → BV 1920 w' rq B mq d y)) := Lib.hid (by
    subst hrp hrq hmp hmq
    exact ⟨rfl, rfl, fun w' B d h hd => ⟨bval_lim h hd, DX⟩, fun w' B d h hd => ⟨bval_lim h hd, DY⟩⟩)
  have C1 : ∀ V, Below v3.heap.size v3 V → Hid (Calls Tryd.prog 20 #[.agg #[.bool r1, .slice B1 n1 d1]] V fun e w' => ∃ B d, e = .returned (.agg #[.bool rp, .slice B mp d]) ∧ (Lim .u8 w'.heap.size w' B (digs 2 x.natAbs) ∧ mp ≤ d) ∧ Fro V.heap.size B mp ∧ Below V.heap.size V w') := fun V hb => Lib.hid (by
    subst hrp hmp
    exact refvalF V (P1.below hb) HXY.out.1 (by omega))
  have C2 : ∀ V, Below v3.heap.size v3 V → Hid (Calls Tryd.prog 20 #[.agg #[.bool r2, .slice B2 n2 d2]] V fun e w' => ∃ B d, e = .returned (.agg #[.bool rq, .slice B mq d]) ∧ (Lim .u8 w'.heap.size w' B (digs 2 y.natAbs) ∧ mq ≤ d) ∧ Fro V.heap.size B mq ∧ Below V.heap.size V w') := fun V hb => Lib.hid (by
    subst hrq hmq
    exact refvalF V (P2.below hb) HXY.out.2 (by omega))
  have BZ : Below v3.heap.size v3 v3 := Below.refl _ _
  have k1 := t3.fst
  have k2 := t3.snd
  have k3 := t4.fst
  have k4 := t4.snd
  have hlt1 := t3.lt
  have hlt2 := t4.lt
  clear hrp hrq hmp hmq
  go_upto_region 4 with fail
  go_cut [7, 8] (fun s5 s6 wx => Pair2 (fun w' B n d => BV 1920 w' rp B n d x) (fun w' B n d => BV 1920 w' rq B n d y) v3 wx s5 s6 rp rq mp mq)
  case first =>
    have KS : ∀ V, Below v3.heap.size v3 V → (Below v3.heap.size v3 V ∧ V.cell? ⟨g5, 0, none⟩ = some (.bool r1) ∧ V.cell? ⟨g5, 1, none⟩ = some (.slice B1 n1 d1) ∧ V.cell? ⟨g6, 0, none⟩ = some (.bool r2) ∧ V.cell? ⟨g6, 1, none⟩ = some (.slice B2 n2 d2)) := fun V hb => ⟨hb, (t3.below' hb).fst, (t3.below' hb).snd, (t4.below' hb).fst, (t4.below' hb).snd⟩
    go_region_held3 (fun V => Below v3.heap.size v3 V ∧ V.cell? ⟨g5, 0, none⟩ = some (.bool r1) ∧ V.cell? ⟨g5, 1, none⟩ = some (.slice B1 n1 d1) ∧ V.cell? ⟨g6, 0, none⟩ = some (.bool r2) ∧ V.cell? ⟨g6, 1, none⟩ = some (.slice B2 n2 d2)) (first | exact KS _ (by repeat (first | with_reducible exact BZ | assumption | with_reducible apply Below.drew | with_reducible apply below_al | with_reducible refine below_then ?_ yb1 | with_reducible refine below_then ?_ yb2 | with_reducible refine Below.setCell ?_ (by first | exact Nat.le_refl _ | (simp <;> omega)) _)) | go_keep)
      (first
        | (go_at_call 20; (with_reducible refine ((C1 _ (by repeat (first | with_reducible exact BZ | assumption | with_reducible apply Below.drew | with_reducible apply below_al | with_reducible refine below_then ?_ yb1 | with_reducible refine below_then ?_ yb2 | with_reducible refine Below.setCell ?_ (by first | exact Nat.le_refl _ | (simp <;> omega)) _))).out).mono ?_); rintro e y1 ⟨B3, d3, rfl, P3, F1, yb1⟩; have yc1 : Below v3.heap.size v3 y1 := (by repeat (first | with_reducible exact BZ | assumption | with_reducible apply Below.drew | with_reducible apply below_al | with_reducible refine below_then ?_ yb1 | with_reducible refine below_then ?_ yb2 | with_reducible refine Below.setCell ?_ (by first | exact Nat.le_refl _ | (simp <;> omega)) _)); have sz1 := yb1.size; (try have p5 := (Two.made _ 30 (.bool false) (.slice none 0 0)).below' yb1); (try have p5 := (Two.drew1 (Two.made _ 30 (.bool false) (.slice none 0 0))).below' yb1); (try have p6 := ((Two.made _ 30 (.bool false) (.slice none 0 0)).alloc _).below' yb1); (try have p6 := (Two.drew1 ((Two.made _ 30 (.bool false) (.slice none 0 0)).alloc _)).below' yb1); (try simp at p5); (try have p5a := p5.fst); (try have p5b := p5.snd); (try have p5c := p5.free 0); (try have p5d := p5.free 1); (try simp at p6); (try have p6a := p6.fst); (try have p6b := p6.snd); (try have p6c := p6.free 0); (try have p6d := p6.free 1); (try simp at sz1); (try have fa1 : v3.heap.size < y1.heap.size := by omega); (try have fa2 : v3.heap.size + 1 < y1.heap.size := by omega))
        | (go_at_call 20; (with_reducible refine ((C2 _ (by repeat (first | with_reducible exact BZ | assumption | with_reducible apply Below.drew | with_reducible apply below_al | with_reducible refine below_then ?_ yb1 | with_reducible refine below_then ?_ yb2 | with_reducible refine Below.setCell ?_ (by first | exact Nat.le_refl _ | (simp <;> omega)) _))).out).mono ?_); rintro e y2 ⟨B4, d4, rfl, P4, F2, yb2⟩; have yc2 : Below v3.heap.size v3 y2 := (by repeat (first | with_reducible exact BZ | assumption | with_reducible apply Below.drew | with_reducible apply below_al | with_reducible refine below_then ?_ yb1 | with_reducible refine below_then ?_ yb2 | with_reducible refine Below.setCell ?_ (by first | exact Nat.le_refl _ | (simp <;> omega)) _)); have sz2 := yb2.size; (try have q5 := (Two.made _ 30 (.bool false) (.slice none 0 0)).below' yb2); (try have q6 := ((Two.made _ 30 (.bool false) (.slice none 0 0)).alloc _).below' yb2); (try have r5 := p5.below' yb2); (try have r5 := (p5.alloc _).below' yb2); (try have r6 := p6.below' yb2); (try simp at q5); (try have q5a := q5.fst); (try have q5b := q5.snd); (try have q5c := q5.free 0); (try have q5d := q5.free 1); (try simp at q6); (try have q6a := q6.fst); (try have q6b := q6.snd); (try have q6c := q6.free 0); (try have q6d := q6.free 1); (try simp at r5); (try have r5a := r5.fst); (try have r5b := r5.snd); (try have r5c := r5.free 0); (try have r5d := r5.free 1); (try simp at r6); (try have r6a := r6.fst); (try have r6b := r6.snd); (try have r6c := r6.free 0); (try have r6d := r6.free 1); (try simp at sz2); (try have fa3 : y1.heap.size < y2.heap.size := by omega); (try have fa4 : y1.heap.size + 1 < y2.heap.size := by omega); (try have fa5 : v3.heap.size < y2.heap.size := by omega); (try have fa6 : v3.heap.size + 1 < y2.heap.size := by omega); (try have fa7 : y1.heap.size ≠ y2.heap.size := by omega); (try have fa8 : y1.heap.size + 1 ≠ y2.heap.size := by omega); (try have fa9 : v3.heap.size ≠ y2.heap.size := by omega); (try have faa : v3.heap.size + 1 ≠ y2.heap.size := by omega); (try have fab : v3.heap.size ≠ y1.heap.size := by omega)))
    all_goals
      go_wp2_with fail
      go_meet
      case rel => exact fin2 (t := 30) (by repeat (first | with_reducible exact BZ | assumption | with_reducible apply Below.drew | with_reducible apply below_al | with_reducible refine below_then ?_ yb1 | with_reducible refine below_then ?_ yb2 | with_reducible refine Below.setCell ?_ (by first | exact Nat.le_refl _ | (simp <;> omega)) _)) yb1 (by repeat (first | with_reducible exact Below.refl _ _ | with_reducible apply Below.drew | with_reducible apply below_al)) yb2 P3.1 (HPQ.out.1) F1 P4.1 (HPQ.out.2.1) F2 (by first | with_reducible exact Two.made' (by simp) | with_reducible exact (Two.made' (by simp)).alloc _ | with_reducible exact Two.set2 (by assumption) | with_reducible exact (Two.set2 (by assumption)).alloc _ | with_reducible exact Two.far2 (Two.set2 (by assumption)) (by omega) | with_reducible exact Two.set2 (Two.far2 (by assumption) (by omega))) (by first | with_reducible exact Two.made' (by simp) | with_reducible exact (Two.made' (by simp)).alloc _ | with_reducible exact Two.set2 (by assumption) | with_reducible exact (Two.set2 (by assumption)).alloc _ | with_reducible exact Two.far2 (Two.set2 (by assumption)) (by omega) | with_reducible exact Two.set2 (Two.far2 (by assumption) (by omega))) (by repeat (first | with_reducible exact Near.refl _ _ _ | with_reducible apply Near.drew | with_reducible apply Near.alloc | with_reducible apply Near.one | with_reducible apply Near.two)) (by omega) (by omega) (by simp <;> omega) (by simp <;> omega) (fun w' h => HPQ.out.2.2.1 w' _ _ h P3.2) (fun w' h => HPQ.out.2.2.2 w' _ _ h P4.2)
  case rest =>
  obtain ⟨g7, g8, B3, d3, B4, d4, rfl, rfl, t5, t6, P3, P4, bc⟩ := hcut
  replace t1 := t1.below' bc
  replace t2 := t2.below' bc
  replace t3 := t3.below' bc
  replace t4 := t4.below' bc
  replace R1 := R1.below bc
  replace R2 := R2.below bc
  replace P1 := P1.below bc
  replace P2 := P2.below bc
  replace hbW := below_then hbW bc
  clear bc C1 C2 BZ k1 k2 k3 k4 hlt1 hlt2
  obtain ⟨v4, hv4⟩ : ∃ v4 : World, v4 = wc := ⟨_, rfl⟩
  subst hv4
  by_cases hy0 : y = 0
  · have HY0 := Lib.hid hy0
    clear hy0
    have hmq : mq = 0 := by rw [P4.1.2.1, HY0.out]; exact bl_zero
    subst hmq
    have k1 := t1.fst
    have k2 := t1.snd
    have k3 := t2.fst
    have k4 := t2.snd
    go_wp2_with fail
    have CT := Lib.hid (zero_at quo_zero v4 r1 A1 n1 c1 (NB v4 R2) HY0.out (by omega))
    refine (CT.out).mono ?_
    clear CT k1 k2 k3 k4
    rintro e y9 ⟨rfl, bb⟩
    obtain ⟨v5, hv5⟩ : ∃ v, v = y9.alloc (.cells #[.bool false, .slice none 0 0] 24) := ⟨_, rfl⟩
    have ba : Below y9.heap.size y9 v5 := by rw [hv5]; exact below_al (Below.refl _ _) _
    have t9 : Two v5 y9.heap.size 24 (.bool false) (.slice none 0 0) := by rw [hv5]; exact Two.made y9 24 _ _
    have bc := below_then bb ba
    replace t1 := t1.below' bc
    replace t2 := t2.below' bc
    replace t6 := t6.below' bc
    replace R2 := R2.below bc
    replace hbW := below_then hbW bc
    clear bb ba bc
    have k1 := t1.fst
    have k2 := t1.snd
    have k3 := t2.fst
    have k4 := t2.snd
    rw [hv5] at k1 k2 k3 k4
    go_wp2_with fail
    rw [← hv5]
    have Hv5 := Lib.hid hv5
    clear hv5
    have CT := Lib.hid (zero_at rem_zero v5 r1 A1 n1 c1 (NB v5 R2) HY0.out (by omega))
    refine (CT.out).mono ?_
    clear CT k1 k2 k3 k4
    rintro e y11 ⟨rfl, bb⟩
    obtain ⟨v6, hv6⟩ : ∃ v, v = y11.alloc (.cells #[.bool false, .slice none 0 0] 24) := ⟨_, rfl⟩
    have ba : Below y11.heap.size y11 v6 := by rw [hv6]; exact below_al (Below.refl _ _) _
    have t11 : Two v6 y11.heap.size 24 (.bool false) (.slice none 0 0) := by rw [hv6]; exact Two.made y11 24 _ _
    have bc := below_then bb ba
    replace t1 := t1.below' bc
    replace t2 := t2.below' bc
    replace t6 := t6.below' bc
    replace t9 := t9.below' bc
    replace R2 := R2.below bc
    replace hbW := below_then hbW bc
    clear bb ba bc
    have k1 := t1.fst
    have k2 := t1.snd
    have k3 := t2.fst
    have k4 := t2.snd
    rw [hv6] at k1 k2 k3 k4
    go_wp2_with fail
    rw [← hv6]
    have Hv6 := Lib.hid hv6
    clear hv6
    have CT := Lib.hid (zero_at mod_zero v6 r1 A1 n1 c1 (NB v6 R2) HY0.out (by omega))
    refine (CT.out).mono ?_
    clear CT k1 k2 k3 k4
    rintro e y13 ⟨rfl, bb⟩
    obtain ⟨v7, hv7⟩ : ∃ v, v = y13.alloc (.cells #[.bool false, .slice none 0 0] 24) := ⟨_, rfl⟩
    have ba : Below y13.heap.size y13 v7 := by rw [hv7]; exact below_al (Below.refl _ _) _
    have t13 : Two v7 y13.heap.size 24 (.bool false) (.slice none 0 0) := by rw [hv7]; exact Two.made y13 24 _ _
    have bc := below_then bb ba
    replace t1 := t1.below' bc
    replace t2 := t2.below' bc
    replace t6 := t6.below' bc
    replace t9 := t9.below' bc
    replace t11 := t11.below' bc
    replace hbW := below_then hbW bc
    clear bb ba bc
    have k1 := t6.snd
    have k2 := t9.snd
    have k3 := t11.snd
    have k4 := t13.snd
    rw [hv7] at k1 k2 k3 k4
    go_wp2_with fail
    rw [← hv7]
    have Hv7 := Lib.hid hv7
    clear hv7
    refine ((AW _ hbW).out).mono ?_
    rintro e zb ⟨rfl, bb⟩
    go_wp2
    go_ret
    exact ⟨rfl, below_then hbW bb⟩
  · have HY0 : Hid (y ≠ 0) := Lib.hid hy0
    clear hy0
    have k1 := t1.fst
    have k2 := t1.snd
    have k3 := t2.fst
    have k4 := t2.snd
    go_wp2_with fail
    have CT := Lib.hid (quo_f v4 (NA v4 R1) (NB v4 R2) (by omega) (by omega) HY0.out)
    refine (CT.out).mono ?_
    clear CT
    intro e y9 hq
    obtain ⟨r9, A9, m9, c9, rfl, Q9, M9, l9, b1⟩ := TellsF.opened hq
    clear hq
    have ba := below_al (Below.refl y9.heap.size y9) (.cells #[.bool r9, .slice A9 m9 c9] 24)
    have BU9 := below_then b1 ba
    have hs9 : v4.heap.size ≤ y9.heap.size := b1.size
    have t9 := Two.made y9 24 (.bool r9) (.slice A9 m9 c9)
    replace Q9 := Q9.below ba
    replace M9 := M9.below ba
    clear b1 ba k1 k2 k3 k4
    have p1 := t1.below' BU9
    have p2 := t2.below' BU9
    have RR1 := R1.below BU9
    have RR2 := R2.below BU9
    have k1 := p1.fst
    have k2 := p1.snd
    have k3 := p2.fst
    have k4 := p2.snd
    go_wp2_with fail
    obtain ⟨v5, hv5⟩ : ∃ v5, v5 = y9.alloc (.cells #[.bool r9, .slice A9 m9 c9] 24) := ⟨_, rfl⟩
    rw [← hv5]
    replace t9 := hv5 ▸ t9
    replace Q9 := hv5 ▸ Q9
    replace M9 := hv5 ▸ M9
    replace BU9 := hv5 ▸ BU9
    replace RR1 := hv5 ▸ RR1
    replace RR2 := hv5 ▸ RR2
    have hz9 : y9.heap.size < v5.heap.size := t9.lt
    have Hv5 := Lib.hid hv5
    clear hv5
    have CT := Lib.hid (rem_f v5 (NA v5 RR1) (NB v5 RR2) (by omega) (by omega) HY0.out)
    refine (CT.out).mono ?_
    clear CT
    intro e y11 hq
    obtain ⟨r11, A11, m11, c11, rfl, Q11, M11, l11, b1⟩ := TellsF.opened hq
    clear hq
    have ba := below_al (Below.refl y11.heap.size y11) (.cells #[.bool r11, .slice A11 m11 c11] 24)
    have BU11 := below_then b1 ba
    have hs11 : v5.heap.size ≤ y11.heap.size := b1.size
    have t11 := Two.made y11 24 (.bool r11) (.slice A11 m11 c11)
    replace Q11 := Q11.below ba
    replace M11 := M11.below ba
    replace t9 := t9.below' BU11
    replace Q9 := Q9.below BU11
    replace M9 := M9.below BU11
    clear b1 ba k1 k2 k3 k4
    clear RR1 RR2 p1 p2
    have XB := below_then BU9 BU11
    have p1 := t1.below' XB
    have p2 := t2.below' XB
    have RR1 := R1.below XB
    have RR2 := R2.below XB
    clear XB
    have k1 := p1.fst
    have k2 := p1.snd
    have k3 := p2.fst
    have k4 := p2.snd
    go_wp2_with fail
    obtain ⟨v6, hv6⟩ : ∃ v6, v6 = y11.alloc (.cells #[.bool r11, .slice A11 m11 c11] 24) := ⟨_, rfl⟩
    rw [← hv6]
    replace t11 := hv6 ▸ t11
    replace Q11 := hv6 ▸ Q11
    replace M11 := hv6 ▸ M11
    replace BU11 := hv6 ▸ BU11
    replace t9 := hv6 ▸ t9
    replace Q9 := hv6 ▸ Q9
    replace M9 := hv6 ▸ M9
    replace RR1 := hv6 ▸ RR1
    replace RR2 := hv6 ▸ RR2
    have hz11 : y11.heap.size < v6.heap.size := t11.lt
    have Hv6 := Lib.hid hv6
    clear hv6
    have CT := Lib.hid (mod_f v6 (NA v6 RR1) (NB v6 RR2) (by omega) (by omega) HY0.out)
    refine (CT.out).mono ?_
    clear CT
    intro e y13 hq
    obtain ⟨r13, A13, m13, c13, rfl, Q13, M13, l13, b1⟩ := TellsF.opened hq
    clear hq
    have ba := below_al (Below.refl y13.heap.size y13) (.cells #[.bool r13, .slice A13 m13 c13] 24)
    have BU13 := below_then b1 ba
    have hs13 : v6.heap.size ≤ y13.heap.size := b1.size
    have t13 := Two.made y13 24 (.bool r13) (.slice A13 m13 c13)
    replace Q13 := Q13.below ba
    replace M13 := M13.below ba
    replace t9 := t9.below' BU13
    replace Q9 := Q9.below BU13
    replace M9 := M9.below BU13
    replace t11 := t11.below' BU13
    replace Q11 := Q11.below BU13
    replace M11 := M11.below BU13
    clear b1 ba k1 k2 k3 k4
    obtain ⟨X, hX⟩ : ∃ X, X = y13.alloc (.cells #[.bool r13, .slice A13 m13 c13] 24) := ⟨_, rfl⟩
    replace t13 := hX ▸ t13
    replace Q13 := hX ▸ Q13
    replace M13 := hX ▸ M13
    replace BU13 := hX ▸ BU13
    replace t9 := hX ▸ t9
    replace Q9 := hX ▸ Q9
    replace M9 := hX ▸ M9
    replace t11 := hX ▸ t11
    replace Q11 := hX ▸ Q11
    replace M11 := hX ▸ M11
    have hz13 : y13.heap.size < X.heap.size := t13.lt
    have HX := Lib.hid hX
    clear hX
    have XB := below_then (below_then BU9 BU11) BU13
    clear BU9 BU11 BU13 RR1 RR2 p1 p2
    have X3 := P3.below XB
    have X4 := P4.below XB
    have q5 := t5.below' XB
    have q6 := t6.below' XB
    have hmq : 0 < mq := by rw [P4.1.2.1]; exact bl_pos (by have := HY0.out; omega)
    have ez : ((mq : Int) == 0) = false := beq_eq_false_iff_ne.2 (by omega)
    have LX : bl x.natAbs ≤ 1920 := by rw [← P3.1.2.1]; exact P3.2
    have LY : bl y.natAbs ≤ 1920 := by rw [← P4.1.2.1]; exact P4.2
    have HL : Hid (bl (Int.tdiv x y).natAbs ≤ 1920 ∧ bl (Int.tmod x y).natAbs ≤ 1920 ∧ bl (Int.fmod x y).natAbs ≤ 1920) := Lib.hid ⟨div_bl LX, rem_bl LY HY0.out, mod_bl LY HY0.out⟩
    clear LX LY hmq P3 P4 t5 t6
    have k1 := q5.fst
    have k2 := q5.snd
    have k3 := q6.fst
    have k4 := q6.snd
    rw [HX.out] at k1 k2 k3 k4
    go_wp2_with fail
    rw [← HX.out]
    have CT := Lib.hid (refdivide_at X X3.1 X4.1 (by have := X3.2; omega) (by have := X4.2; omega) HY0.out)
    refine (CT.out).mono ?_
    clear CT k1 k2 k3 k4 q5 q6 X3 X4
    rintro e yd ⟨r15, B15, m15, d15, r16, B16, m16, d16, r17, B17, m17, d17, rfl, D1, D2, D3, bd⟩
    have E1 : m15 ≤ 1920 := by rw [D1.2.1]; exact HL.out.1
    have E2 : m16 ≤ 1920 := by rw [D2.2.1]; exact HL.out.2.1
    have E3 : m17 ≤ 1920 := by rw [D3.2.1]; exact HL.out.2.2
    clear ez
    obtain ⟨Z, hZ⟩ : ∃ Z, Z = ((yd.alloc (.cells #[.bool r15, .slice B15 m15 d15] 30)).alloc (.cells #[.bool r16, .slice B16 m16 d16] 30)).alloc (.cells #[.bool r17, .slice B17 m17 d17] 30) := ⟨_, rfl⟩
    obtain ⟨t15, t16, t17, bz⟩ := boxes3T 30 yd _ _ _ _ _ _ Z hZ
    have HD := Lib.hid (And.intro (D1.below bz) (And.intro (D2.below bz) (D3.below bz)))
    clear D1 D2 D3
    have XZ := below_then bd bz
    clear bd bz
    replace t9 := t9.below' XZ
    replace t11 := t11.below' XZ
    replace t13 := t13.below' XZ
    replace Q9 := Q9.below XZ
    replace Q11 := Q11.below XZ
    replace Q13 := Q13.below XZ
    replace M9 := M9.below XZ
    replace M11 := M11.below XZ
    replace M13 := M13.below XZ
    replace XB := below_then XB XZ
    clear XZ
    have HH := Lib.hid (And.intro hs9 (And.intro hz9 (And.intro hs11 (And.intro hz11 (And.intro hs13 (And.intro hz13 (And.intro l9 (And.intro l11 l13))))))))
    clear hs9 hz9 hs11 hz11 hs13 hz13 l9 l11 l13
    have k1 := t9.fst
    have k2 := t9.snd
    have k3 := t15.fst
    have k4 := t15.snd
    rw [hZ] at k1 k2 k3 k4
    go_wp2_with fail
    rw [← hZ]
    have HZ := Lib.hid hZ
    clear hZ
    have CT := Lib.hid (is_can Z Q9 HD.out.1 (by omega) _ (Lib.hid rfl))
    refine (CT.out).mono ?_
    clear CT k1 k2 k3 k4
    rintro e f9 ⟨rfl, bf⟩
    replace t9 := t9.below' bf
    replace t11 := t11.below' bf
    replace t13 := t13.below' bf
    replace t16 := t16.below' bf
    replace t17 := t17.below' bf
    replace Q11 := Q11.below bf
    replace Q13 := Q13.below bf
    replace M9 := M9.below bf
    replace M11 := M11.below bf
    replace M13 := M13.below bf
    replace XB := below_then XB bf
    have bZ := bf
    clear bf t15 Q9
    have k1 := t11.fst
    have k2 := t11.snd
    have k3 := t16.fst
    have k4 := t16.snd
    go_wp2_with fail
    have CT := Lib.hid (is_can f9 Q11 (HD.out.2.1.below bZ) (by omega) _ (Lib.hid rfl))
    refine (CT.out).mono ?_
    clear CT k1 k2 k3 k4
    rintro e f11 ⟨rfl, bf⟩
    replace t9 := t9.below' bf
    replace t11 := t11.below' bf
    replace t13 := t13.below' bf
    replace t17 := t17.below' bf
    replace Q13 := Q13.below bf
    replace M9 := M9.below bf
    replace M11 := M11.below bf
    replace M13 := M13.below bf
    replace XB := below_then XB bf
    replace bZ := below_then bZ bf
    clear bf t16 Q11
    have k1 := t13.fst
    have k2 := t13.snd
    have k3 := t17.fst
    have k4 := t17.snd
    go_wp2_with fail
    have CT := Lib.hid (is_can f11 Q13 (HD.out.2.2.below bZ) (by omega) _ (Lib.hid rfl))
    refine (CT.out).mono ?_
    clear CT k1 k2 k3 k4
    rintro e f13 ⟨rfl, bf⟩
    replace t9 := t9.below' bf
    replace t11 := t11.below' bf
    replace t13 := t13.below' bf
    replace M9 := M9.below bf
    replace M11 := M11.below bf
    replace M13 := M13.below bf
    replace XB := below_then XB bf
    replace bZ := below_then bZ bf
    clear bf t17 Q13
    clear bZ HD E1 E2 E3 HL
    obtain ⟨hs9, hz9, hs11, hz11, hs13, hz13, l9, l11, l13⟩ := HH.out
    have k1 := t9.fst
    have k2 := t9.snd
    go_wp2_with fail
    have CT := Lib.hid (spoil_room r9 A9 m9 c9 _ _ _ M9 (by omega))
    refine (CT.out).mono ?_
    clear CT k1 k2
    rintro e z9 ⟨rfl, SS⟩
    replace t11 := SS.two t11 (by omega)
    replace M11 := SS.room M11 (by omega)
    replace t13 := SS.two t13 (by omega)
    replace M13 := SS.room M13 (by omega)
    replace XB := SS.after XB (by omega)
    clear SS t9 M9
    have k1 := t11.fst
    have k2 := t11.snd
    go_wp2_with fail
    have CT := Lib.hid (spoil_room r11 A11 m11 c11 _ _ _ M11 (by omega))
    refine (CT.out).mono ?_
    clear CT k1 k2
    rintro e z11 ⟨rfl, SS⟩
    replace t13 := SS.two t13 (by omega)
    replace M13 := SS.room M13 (by omega)
    replace XB := SS.after XB (by omega)
    clear SS t11 M11
    have k1 := t13.fst
    have k2 := t13.snd
    go_wp2_with fail
    have CT := Lib.hid (spoil_room r13 A13 m13 c13 _ _ _ M13 (by omega))
    refine (CT.out).mono ?_
    clear CT k1 k2
    rintro e z13 ⟨rfl, SS⟩
    replace XB := SS.after XB (by omega)
    clear SS t13 M13
    have E8 := XB
    clear XB
    replace t1 := t1.below' E8
    replace t2 := t2.below' E8
    replace t3 := t3.below' E8
    replace t4 := t4.below' E8
    replace R1 := R1.below E8
    replace R2 := R2.below E8
    replace P1 := P1.below E8
    replace P2 := P2.below E8
    replace hbW := below_then hbW E8
    clear E8
    have k1 := t1.fst
    have k2 := t1.snd
    have k3 := t3.fst
    have k4 := t3.snd
    go_wp2_with fail
    have CT := Lib.hid (same_rows (r := r1) R1 P1 (by omega))
    refine (CT.out).mono ?_
    clear CT k1 k2 k3 k4
    rintro e z9 ⟨rfl, bb⟩
    replace t2 := t2.below' bb
    replace t4 := t4.below' bb
    replace R2 := R2.below bb
    replace P2 := P2.below bb
    replace hbW := below_then hbW bb
    clear bb
    have k1 := t2.fst
    have k2 := t2.snd
    have k3 := t4.fst
    have k4 := t4.snd
    go_wp2_with fail
    have CT := Lib.hid (same_rows (r := r2) R2 P2 (by omega))
    refine (CT.out).mono ?_
    clear CT k1 k2 k3 k4
    rintro e za ⟨rfl, bb⟩
    replace hbW := below_then hbW bb
    clear bb
    go_wp2_with fail
    refine ((AW _ hbW).out).mono ?_
    rintro e zb ⟨rfl, bb⟩
    go_wp2
    go_ret
    exact ⟨rfl, below_then hbW bb⟩
set_option maxHeartbeats 1600000 in
set_option maxRecDepth 100000 in
theorem long_1 (r1 r2 : Bool) (A1 A2 : Option Addr) (n1 c1 n2 c2 : Nat) (w : World) (ht : Tab w) (l1 : 60 < n1) :
    Calls Tryd.prog 7 #[.agg #[.bool r1, .slice A1 n1 c1], .agg #[.bool r2, .slice A2 n2 c2]] w fun e w' => e = .returned (.bool true) ∧ Below w.heap.size w w' := by
  obtain ⟨W, hW⟩ : ∃ W, W = (w.alloc (.cells #[.bool r1, .slice A1 n1 c1] 24)).alloc (.cells #[.bool r2, .slice A2 n2 c2] 24) := ⟨_, rfl⟩
  obtain ⟨t1, t2, hbW, hWs⟩ := boxes24 w _ _ _ _ W hW
  have AW : ∀ V, Below w.heap.size w V → Hid (Calls Tryd.prog 18 #[] V fun e w' => e = .returned (.bool true) ∧ Below w.heap.size w w') :=
    fun V hb => Lib.hid ((awake_any V (ht.below hb)).mono fun e w' ⟨he, hw⟩ => ⟨he, below_then hb hw⟩)
  have LA := fun W => Lib.hid (long_yes r1 A1 n1 c1 l1 W)
  have k1 := t1.fst
  have k2 := t1.snd
  go_enter Tryd.func7, Tryd.ntmps7
  go_wp2_with fail
  rw [← hW]
  have HW := Lib.hid hW
  clear hW hWs t1
  refine ((LA _).out).mono ?_
  rintro e v1 ⟨rfl, b1⟩
  replace t2 := t2.below' b1
  replace hbW := below_then hbW b1
  clear k1 k2 b1
  go_wp2_with fail
  refine ((AW _ hbW).out).mono ?_
  rintro e y8 ⟨rfl, bb8⟩
  go_wp2
  go_ret
  exact ⟨rfl, bb8⟩
set_option maxHeartbeats 1600000 in
set_option maxRecDepth 100000 in
theorem long_2 (r1 r2 : Bool) (A1 A2 : Option Addr) (n1 c1 n2 c2 : Nat) (w : World) (ht : Tab w) (l1 : n1 ≤ 60) (l2 : 60 < n2) :
    Calls Tryd.prog 7 #[.agg #[.bool r1, .slice A1 n1 c1], .agg #[.bool r2, .slice A2 n2 c2]] w fun e w' => e = .returned (.bool true) ∧ Below w.heap.size w w' := by
  obtain ⟨W, hW⟩ : ∃ W, W = (w.alloc (.cells #[.bool r1, .slice A1 n1 c1] 24)).alloc (.cells #[.bool r2, .slice A2 n2 c2] 24) := ⟨_, rfl⟩
  obtain ⟨t1, t2, hbW, hWs⟩ := boxes24 w _ _ _ _ W hW
  have AW : ∀ V, Below w.heap.size w V → Hid (Calls Tryd.prog 18 #[] V fun e w' => e = .returned (.bool true) ∧ Below w.heap.size w w') :=
    fun V hb => Lib.hid ((awake_any V (ht.below hb)).mono fun e w' ⟨he, hw⟩ => ⟨he, below_then hb hw⟩)
  have LA := fun W => Lib.hid (long_no r1 A1 n1 c1 l1 W)
  have LB := fun W => Lib.hid (long_yes r2 A2 n2 c2 l2 W)
  have k1 := t1.fst
  have k2 := t1.snd
  go_enter Tryd.func7, Tryd.ntmps7
  go_wp2_with fail
  rw [← hW]
  have HW := Lib.hid hW
  clear hW hWs t1
  refine ((LA _).out).mono ?_
  rintro e v1 ⟨rfl, b1⟩
  replace t2 := t2.below' b1
  replace hbW := below_then hbW b1
  clear k1 k2 b1
  have k1 := t2.fst
  have k2 := t2.snd
  go_wp2_with fail
  refine ((LB _).out).mono ?_
  rintro e v2 ⟨rfl, b1⟩
  replace hbW := below_then hbW b1
  clear k1 k2 b1 t2
  go_wp2_with fail
  refine ((AW _ hbW).out).mono ?_
  rintro e y8 ⟨rfl, bb8⟩
  go_wp2
  go_ret
  exact ⟨rfl, bb8⟩
theorem walk (r1 r2 : Bool) (A1 A2 : Option Addr) (n1 c1 n2 c2 : Nat) (x y : Int) (w : World) (ht : Tab w) (h1 : NumAt w r1 A1 n1 c1 x) (h2 : NumAt w r2 A2 n2 c2 y) :
    Calls Tryd.prog 7 #[.agg #[.bool r1, .slice A1 n1 c1], .agg #[.bool r2, .slice A2 n2 c2]] w fun e w' => e = .returned (.bool true) ∧ Below w.heap.size w w' := by
  by_cases l1 : n1 ≤ 60
  · by_cases l2 : n2 ≤ 60
    · obtain ⟨xs, hx, hxz⟩ := h1.row
      obtain ⟨ys, hy, hyz⟩ := h2.row
      exact main r1 r2 A1 A2 n1 c1 n2 c2 xs ys x y w ht hx hy hxz hyz l1 l2
    · exact long_2 r1 r2 A1 A2 n1 c1 n2 c2 w ht l1 (by omega)
  · exact long_1 r1 r2 A1 A2 n1 c1 n2 c2 w ht (by omega)
/-! The row's step. -/
set_option maxRecDepth 100000 in
theorem contract (H : Type) (enc : TypeId × Value → H) (W : World) (base : Nat) (args : Array Value) (ds gs : List (DataW H)) (before : List MemPlace)
    (hval : ∀ (j : Nat) t v, Tryd.f7.params[j]? = some t → args[j]? = some v → Value.okWide Tryd.prog W .any base t v)
    (hW : DataW.Whole enc Tryd.prog Tryd.f7.params.toList Rows.numDividesSpec.vars false W args.toList ds gs before) (hL : laidMetH Tryd.prog Rows.numDividesRow.laid W) :
    Calls Tryd.prog 7 args W fun e W' => ∃ v, e = .returned v ∧ Rows.numDividesSpec.post enc Tryd.prog Tryd.f7 false true false false W args v W' := by
  have hW' := hW
  obtain ⟨p, q, hA0, hV, rfl, hfz, hnd⟩ := hW
  have hA : DataW.TrodAll enc Tryd.prog W 0 (fun _ => true) true Tryd.f7.params.toList args.toList ds p := hA0
  obtain ⟨rfl, rfl⟩ := trodVars_none hV
  simp only [List.append_nil] at hW'
  have hlt : ∀ x ∈ p, x.block < W.heap.size := fun x hx => by simpa using hW'.lt x hx
  have hAk := hA
  rw [Tryd.params7] at hA hval
  obtain ⟨v0, vs0, d0, ds0, p0, q0, hargs, rfl, rfl, h0, r0⟩ := trodAll_cons hA
  obtain ⟨v1, vs1, d1, ds1, p1, q1, rfl, rfl, rfl, h1, r1⟩ := trodAll_cons r0
  obtain ⟨rfl, rfl, rfl⟩ := trodAll_nil r1
  obtain rfl : args = #[v0, v1] := by cases args; simp_all
  obtain ⟨g0, A0, n0, c0, N0, rfl, m0⟩ := open_num (hval 0 24 v0 rfl rfl) h0
  obtain ⟨g1, A1, n1, c1, N1, rfl, m1⟩ := open_num (hval 1 24 v1 rfl rfl) h1
  refine (walk g0 g1 A0 A1 n0 c0 n1 c1 _ _ W (tab_of hL) ⟨N0, m0, rfl⟩ ⟨N1, m1, rfl⟩).mono fun e W' ⟨he, hg⟩ => ?_
  subst he
  exact ⟨_, rfl, _, _, _, [], _, [], hW', (trodAll_cons_mk (shut_bool Tryd.underlying4 _) trodAll_mk0), below_all hg (by kernel_rfl) hAk hlt, rfl, hg.frame _, fun h => by cases h⟩
theorem laid_met (os : Os) : laidMet Tryd.prog Rows.numDividesRow.laid ((laidWorld os).forCall (fun _ _ => 0) ⟨#[], #[.agg #[.bool false, .slice none 0 0], .agg #[.bool false, .slice none 0 0]], []⟩).memory :=
  laidMet_laidAll _ (by kernel_rfl) (by kernel_rfl)
theorem reads (os : Os) {H : Type} (enc : TypeId × Value → H) : ∃ places, DataW.whole enc Tryd.prog ((laidWorld os).forCall (fun _ _ => 0) ⟨#[], #[.agg #[.bool false, .slice none 0 0], .agg #[.bool false, .slice none 0 0]], []⟩).memory Tryd.f7.params.toList Rows.numDividesSpec.vars false (#[(Value.agg #[.bool false, .slice none 0 0]), (Value.agg #[.bool false, .slice none 0 0])] : Array Value).toList 8 = some ([.agg [.lit (.bool false), .nil], .agg [.lit (.bool false), .nil]], [], places) :=
  ⟨[], by kernel_rfl⟩
set_option maxRecDepth 100000 in
theorem lifted (os : Os) (started : os.Started) (H : Type) (enc : TypeId × Value → H) (F : Stop.Interp) :
    ReturnsInHanded {} Tryd.checked os 7 .any ((OpenSpec.ofChange Rows.numDividesSpec).preRow enc Tryd.prog Tryd.f7 Rows.numDividesRow.domain false Rows.numDividesRow.laid) (((OpenSpec.ofChange Rows.numDividesSpec).at F).post enc Tryd.prog Tryd.f7 false true false false) := by
  obtain ⟨places, hx⟩ := reads os enc
  refine returnsInHanded_of_row (C := Tryd.checked) (s := OpenSpec.ofChange Rows.numDividesSpec) own started (by kernel_rfl) Tryd.func7
    (witness_row_at (enc := enc) (C := Tryd.checked) false (laidWorld os) #[.agg #[.bool false, .slice none 0 0], .agg #[.bool false, .slice none 0 0]] (laidWorld_os os) (by kernel_rfl) (by kernel_rfl) (by kernel_rfl)
      (OpenSpec.preRow_of_cond 8 hx (by kernel_rfl) (fun k hk => by cases hk) (by kernel_rfl) (laid_met os))) ?_
  intro W base args ds gs before hval hW _ _ _ hL _ _
  exact contract H enc W base args ds gs before hval hW hL
theorem said : Rows.NumDividesSaid :=
  OpenClaim.holds_of_cond 7 Tryd.f7 rfl rfl rfl rfl rfl rfl rfl ⟨rfl, rfl, rfl, rfl, rfl⟩ rfl rfl rfl rfl rfl (by kernel_rfl) Tryd.func7 (by kernel_rfl)
    (of_decide_eq_true (by kernel_rfl)) (by unfold Func.isWrapper; first | (rw [if_pos (by decide +kernel)]; kernel_rfl) | (rw [if_neg (by decide +kernel)]; exact ⟨rfl, rfl⟩))
    (fun os started H enc _ F => by rw [OpenClaim.pre_eq_preRow]; exact lifted os started H enc F)
theorem plain (f : FuncId) (fn : Func) (hf : Tryd.pinned.checked.prog.funcNamed "moraine/morainelaw02.NumDivides" = some f) (hfn : Tryd.pinned.checked.prog.funcs[f]? = some fn) :
    false = Tryd.pinned.checked.prog.looks [] ∧ ∀ (j : Nat) t, fn.params[j]? = some t → Tryd.pinned.checked.prog.wantsStandIn t = false := by
  obtain rfl : f = 7 := Option.some.inj ((show Tryd.prog.funcNamed "moraine/morainelaw02.NumDivides" = some 7 by kernel_rfl).symm.trans hf) |>.symm
  obtain rfl : fn = Tryd.f7 := (Option.some.inj (Tryd.func7.symm.trans hfn)).symm
  refine ⟨by kernel_rfl, fun j t ht => ?_⟩
  rw [Tryd.params7] at ht
  have hm := Array.mem_of_getElem? ht
  have hall : (#[24, 24] : Array TypeId).toList.all (fun t => !Tryd.prog.wantsStandIn t) = true := by kernel_rfl
  have := List.all_eq_true.1 hall t (by simpa using hm)
  exact (show Tryd.prog.wantsStandIn t = false by simpa using this)
/-- THE STATEMENT -/
theorem card : Rows.NumDividesCardSaid :=
  Claim7.holds_tied_plain_at .later [] _ _ _ _ said (fun _ h => by cases h) (by kernel_rfl) (fun _ h => by cases h) Go.Proofs.YtocoflojlliapaaDoor.numDivides_row_tie rfl ⟨rfl, rfl⟩ (by kernel_rfl) rfl plain (by kernel_rfl)
#print axioms card
end Go.Proofs.YtocoflojlliapaaDoor.numDivides
