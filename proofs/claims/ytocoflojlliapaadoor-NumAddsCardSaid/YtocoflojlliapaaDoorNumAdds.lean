/- NumAdds: THE LAW's WALK, AND THE STATEMENT. -/
import Derived.Test.YtocoflojlliapaaDoorT3
import Derived.Deep.RegionWith
import Derived.Deep.DeepCutAuto
set_option linter.unusedVariables false
namespace Go.Proofs.YtocoflojlliapaaDoor.numAdds
open Go.ChangeShapes Go.WideShapes Go.ChangeAt Go.RowKit Go.Proofs.YtocoflojlliapaaDoor
set_option maxHeartbeats 12800000 in
set_option maxRecDepth 100000 in
theorem main (r1 r2 : Bool) (A1 A2 : Option Addr) (n1 c1 n2 c2 : Nat) (xs ys : List Nat) (x y : Int) (w : World) (ht : Tab w) (h1 : Limbs w A1 n1 c1 xs) (h2 : Limbs w A2 n2 c2 ys) (hx : sg r1 (val 4294967296 xs) = x) (hy : sg r2 (val 4294967296 ys) = y) (l1 : n1 ≤ 60) (l2 : n2 ≤ 60) :
    Calls Tryd.prog 5 #[.agg #[.bool r1, .slice A1 n1 c1], .agg #[.bool r2, .slice A2 n2 c2]] w fun e w' => e = .returned (.bool true) ∧ Below w.heap.size w w' := by
  obtain ⟨W, hW⟩ : ∃ W, W = (w.alloc (.cells #[.bool r1, .slice A1 n1 c1] 24)).alloc (.cells #[.bool r2, .slice A2 n2 c2] 24) := ⟨_, rfl⟩
  obtain ⟨t1, t2, hbW, hWs⟩ := boxes24 w _ _ _ _ W hW
  have LA := fun W => Lib.hid (long_no r1 A1 n1 c1 l1 W)
  have LB := fun W => Lib.hid (long_no r2 A2 n2 c2 l2 W)
  have HXY := Lib.hid (And.intro hx hy)
  have R1 := h1.below hbW
  have R2 := h2.below hbW
  have NA : ∀ V, Limbs V A1 n1 c1 xs → NumAt V r1 A1 n1 c1 x := fun V h => ⟨_, h.mag, HXY.out.1⟩
  have NB : ∀ V, Limbs V A2 n2 c2 ys → NumAt V r2 A2 n2 c2 y := fun V h => ⟨_, h.mag, HXY.out.2⟩
  have AW : ∀ V, Below w.heap.size w V → Hid (Calls Tryd.prog 18 #[] V fun e w' => e = .returned (.bool true) ∧ Below V.heap.size V w') :=
    fun V hb => Lib.hid (awake_any V (ht.below hb))
  have k1 := t1.fst
  have k2 := t1.snd
  clear hx hy h1 h2 ht
  go_enter Tryd.func5, Tryd.ntmps5
  go_wp2_with fail
  rw [← hW]
  have HW := Lib.hid hW
  clear hW hWs
  refine ((LA _).out).mono ?_
  rintro e v1 ⟨rfl, b1⟩
  replace t1 := t1.below' b1
  replace t2 := t2.below' b1
  replace R1 := R1.below b1
  replace R2 := R2.below b1
  replace hbW := below_then hbW b1
  clear k1 k2 b1 LA
  have k1 := t2.fst
  have k2 := t2.snd
  go_wp2_with fail
  refine ((LB _).out).mono ?_
  rintro e v2 ⟨rfl, b1⟩
  replace t1 := t1.below' b1
  replace t2 := t2.below' b1
  replace R1 := R1.below b1
  replace R2 := R2.below b1
  replace hbW := below_then hbW b1
  clear k1 k2 b1 LB
  have C1 : ∀ V, Below v2.heap.size v2 V → Hid (Calls Tryd.prog 19 #[.agg #[.bool r1, .slice A1 n1 c1]] V fun e w' => ∃ B d, e = .returned (.agg #[.bool r1, .slice B n1 d]) ∧ Limbs w' B n1 d xs ∧ Fro V.heap.size B n1 ∧ Below V.heap.size V w') := fun V hb => Lib.hid (copy_rowF r1 A1 n1 c1 xs V (R1.below hb) (by omega))
  have C2 : ∀ V, Below v2.heap.size v2 V → Hid (Calls Tryd.prog 19 #[.agg #[.bool r2, .slice A2 n2 c2]] V fun e w' => ∃ B d, e = .returned (.agg #[.bool r2, .slice B n2 d]) ∧ Limbs w' B n2 d ys ∧ Fro V.heap.size B n2 ∧ Below V.heap.size V w') := fun V hb => Lib.hid (copy_rowF r2 A2 n2 c2 ys V (R2.below hb) (by omega))
  have BZ : Below v2.heap.size v2 v2 := Below.refl _ _
  have k1 := t1.fst
  have k2 := t1.snd
  have k3 := t2.fst
  have k4 := t2.snd
  have hlt1 := t1.lt
  have hlt2 := t2.lt
  go_upto_region 3 with fail
  go_cut [5, 6] (fun s5 s6 wx => Pair2 (fun w' B n d => Limbs w' B n d xs) (fun w' B n d => Limbs w' B n d ys) v2 wx s5 s6 r1 r2 n1 n2)
  case first =>
    have KS : ∀ V, Below v2.heap.size v2 V → (Below v2.heap.size v2 V ∧ V.cell? ⟨w.heap.size, 0, none⟩ = some (.bool r1) ∧ V.cell? ⟨w.heap.size, 1, none⟩ = some (.slice A1 n1 c1) ∧ V.cell? ⟨w.heap.size + 1, 0, none⟩ = some (.bool r2) ∧ V.cell? ⟨w.heap.size + 1, 1, none⟩ = some (.slice A2 n2 c2)) := fun V hb => ⟨hb, (t1.below' hb).fst, (t1.below' hb).snd, (t2.below' hb).fst, (t2.below' hb).snd⟩
    go_region_held3 (fun V => Below v2.heap.size v2 V ∧ V.cell? ⟨w.heap.size, 0, none⟩ = some (.bool r1) ∧ V.cell? ⟨w.heap.size, 1, none⟩ = some (.slice A1 n1 c1) ∧ V.cell? ⟨w.heap.size + 1, 0, none⟩ = some (.bool r2) ∧ V.cell? ⟨w.heap.size + 1, 1, none⟩ = some (.slice A2 n2 c2)) (first | exact KS _ (by repeat (first | with_reducible exact BZ | assumption | with_reducible apply Below.drew | with_reducible apply below_al | with_reducible refine below_then ?_ yb1 | with_reducible refine below_then ?_ yb2 | with_reducible refine Below.setCell ?_ (by first | exact Nat.le_refl _ | (simp <;> omega)) _)) | go_keep)
      (first
        | (go_at_call 19; (with_reducible refine ((C1 _ (by repeat (first | with_reducible exact BZ | assumption | with_reducible apply Below.drew | with_reducible apply below_al | with_reducible refine below_then ?_ yb1 | with_reducible refine below_then ?_ yb2 | with_reducible refine Below.setCell ?_ (by first | exact Nat.le_refl _ | (simp <;> omega)) _))).out).mono ?_); rintro e y1 ⟨B1, d1, rfl, P1, F1, yb1⟩; have yc1 : Below v2.heap.size v2 y1 := (by repeat (first | with_reducible exact BZ | assumption | with_reducible apply Below.drew | with_reducible apply below_al | with_reducible refine below_then ?_ yb1 | with_reducible refine below_then ?_ yb2 | with_reducible refine Below.setCell ?_ (by first | exact Nat.le_refl _ | (simp <;> omega)) _)); have sz1 := yb1.size; (try have p5 := (Two.made _ 24 (.bool false) (.slice none 0 0)).below' yb1); (try have p5 := (Two.drew1 (Two.made _ 24 (.bool false) (.slice none 0 0))).below' yb1); (try have p6 := ((Two.made _ 24 (.bool false) (.slice none 0 0)).alloc _).below' yb1); (try have p6 := (Two.drew1 ((Two.made _ 24 (.bool false) (.slice none 0 0)).alloc _)).below' yb1); (try simp at p5); (try have p5a := p5.fst); (try have p5b := p5.snd); (try have p5c := p5.free 0); (try have p5d := p5.free 1); (try simp at p6); (try have p6a := p6.fst); (try have p6b := p6.snd); (try have p6c := p6.free 0); (try have p6d := p6.free 1); (try simp at sz1); (try have fa1 : v2.heap.size < y1.heap.size := by omega); (try have fa2 : v2.heap.size + 1 < y1.heap.size := by omega))
        | (go_at_call 19; (with_reducible refine ((C2 _ (by repeat (first | with_reducible exact BZ | assumption | with_reducible apply Below.drew | with_reducible apply below_al | with_reducible refine below_then ?_ yb1 | with_reducible refine below_then ?_ yb2 | with_reducible refine Below.setCell ?_ (by first | exact Nat.le_refl _ | (simp <;> omega)) _))).out).mono ?_); rintro e y2 ⟨B2, d2, rfl, P2, F2, yb2⟩; have yc2 : Below v2.heap.size v2 y2 := (by repeat (first | with_reducible exact BZ | assumption | with_reducible apply Below.drew | with_reducible apply below_al | with_reducible refine below_then ?_ yb1 | with_reducible refine below_then ?_ yb2 | with_reducible refine Below.setCell ?_ (by first | exact Nat.le_refl _ | (simp <;> omega)) _)); have sz2 := yb2.size; (try have q5 := (Two.made _ 24 (.bool false) (.slice none 0 0)).below' yb2); (try have q6 := ((Two.made _ 24 (.bool false) (.slice none 0 0)).alloc _).below' yb2); (try have r5 := p5.below' yb2); (try have r5 := (p5.alloc _).below' yb2); (try have r6 := p6.below' yb2); (try simp at q5); (try have q5a := q5.fst); (try have q5b := q5.snd); (try have q5c := q5.free 0); (try have q5d := q5.free 1); (try simp at q6); (try have q6a := q6.fst); (try have q6b := q6.snd); (try have q6c := q6.free 0); (try have q6d := q6.free 1); (try simp at r5); (try have r5a := r5.fst); (try have r5b := r5.snd); (try have r5c := r5.free 0); (try have r5d := r5.free 1); (try simp at r6); (try have r6a := r6.fst); (try have r6b := r6.snd); (try have r6c := r6.free 0); (try have r6d := r6.free 1); (try simp at sz2); (try have fa3 : y1.heap.size < y2.heap.size := by omega); (try have fa4 : y1.heap.size + 1 < y2.heap.size := by omega); (try have fa5 : v2.heap.size < y2.heap.size := by omega); (try have fa6 : v2.heap.size + 1 < y2.heap.size := by omega); (try have fa7 : y1.heap.size ≠ y2.heap.size := by omega); (try have fa8 : y1.heap.size + 1 ≠ y2.heap.size := by omega); (try have fa9 : v2.heap.size ≠ y2.heap.size := by omega); (try have faa : v2.heap.size + 1 ≠ y2.heap.size := by omega); (try have fab : v2.heap.size ≠ y1.heap.size := by omega)))
    all_goals
      go_wp2_with fail
      go_meet
      case rel => exact fin2 (t := 24) (by repeat (first | with_reducible exact BZ | assumption | with_reducible apply Below.drew | with_reducible apply below_al | with_reducible refine below_then ?_ yb1 | with_reducible refine below_then ?_ yb2 | with_reducible refine Below.setCell ?_ (by first | exact Nat.le_refl _ | (simp <;> omega)) _)) yb1 (by repeat (first | with_reducible exact Below.refl _ _ | with_reducible apply Below.drew | with_reducible apply below_al)) yb2 P1.1 P1.2.2.1 F1 P2.1 P2.2.2.1 F2 (by first | with_reducible exact Two.made' (by simp) | with_reducible exact (Two.made' (by simp)).alloc _ | with_reducible exact Two.set2 (by assumption) | with_reducible exact (Two.set2 (by assumption)).alloc _ | with_reducible exact Two.far2 (Two.set2 (by assumption)) (by omega) | with_reducible exact Two.set2 (Two.far2 (by assumption) (by omega))) (by first | with_reducible exact Two.made' (by simp) | with_reducible exact (Two.made' (by simp)).alloc _ | with_reducible exact Two.set2 (by assumption) | with_reducible exact (Two.set2 (by assumption)).alloc _ | with_reducible exact Two.far2 (Two.set2 (by assumption)) (by omega) | with_reducible exact Two.set2 (Two.far2 (by assumption) (by omega))) (by repeat (first | with_reducible exact Near.refl _ _ _ | with_reducible apply Near.drew | with_reducible apply Near.alloc | with_reducible apply Near.one | with_reducible apply Near.two)) (by omega) (by omega) (by simp <;> omega) (by simp <;> omega) (fun w' h => ⟨h, P1.2⟩) (fun w' h => ⟨h, P2.2⟩)
  case rest =>
  obtain ⟨g5, g6, B1, d1, B2, d2, rfl, rfl, t3, t4, P1, P2, bc⟩ := hcut
  replace t1 := t1.below' bc
  replace t2 := t2.below' bc
  replace R1 := R1.below bc
  replace R2 := R2.below bc
  replace hbW := below_then hbW bc
  clear bc C1 C2 BZ k1 k2 k3 k4 hlt1 hlt2
  obtain ⟨v3, hv3⟩ : ∃ v3 : World, v3 = wc := ⟨_, rfl⟩
  subst hv3
  obtain ⟨rp, hrp⟩ : ∃ rp, decide (x < 0) = rp := ⟨_, rfl⟩
  obtain ⟨rq, hrq⟩ : ∃ rq, decide (y < 0) = rq := ⟨_, rfl⟩
  obtain ⟨mp, hmp⟩ : ∃ mp, bl x.natAbs = mp := ⟨_, rfl⟩
  obtain ⟨mq, hmq⟩ : ∃ mq, bl y.natAbs = mq := ⟨_, rfl⟩
  have DX : mp ≤ 1920 := by rw [← hmp]; exact bl_of_dl (Nat.le_trans (R1.dl HXY.out.1) l1) rfl
  have DY : mq ≤ 1920 := by rw [← hmq]; exact bl_of_dl (Nat.le_trans (R2.dl HXY.out.2) l2) rfl
  have HPQ : Hid ((digs 2 x.natAbs).length = mp ∧ (digs 2 y.natAbs).length = mq ∧ (∀ w' B d, Lim .u8 w'.heap.size w' B (digs 2 x.natAbs) → mp ≤ d → BV 1920 w' rp B mp d x) ∧ (∀ w' B d, Lim .u8 w'.heap.size w' B (digs 2 y.natAbs) → mq ≤ d → BV 1920 w' rq B mq d y)) := Lib.hid (by
    subst hrp hrq hmp hmq
    exact ⟨rfl, rfl, fun w' B d h hd => ⟨bval_lim h hd, DX⟩, fun w' B d h hd => ⟨bval_lim h hd, DY⟩⟩)
  have C1 : ∀ V, Below v3.heap.size v3 V → Hid (Calls Tryd.prog 20 #[.agg #[.bool r1, .slice B1 n1 d1]] V fun e w' => ∃ B d, e = .returned (.agg #[.bool rp, .slice B mp d]) ∧ (Lim .u8 w'.heap.size w' B (digs 2 x.natAbs) ∧ mp ≤ d) ∧ Fro V.heap.size B mp ∧ Below V.heap.size V w') := fun V hb => Lib.hid (by
    subst hrp hmp
    exact refvalF V (P1.below hb) HXY.out.1 (by omega))
  have C2 : ∀ V, Below v3.heap.size v3 V → Hid (Calls Tryd.prog 20 #[.agg #[.bool r2, .slice B2 n2 d2]] V fun e w' => ∃ B d, e = .returned (.agg #[.bool rq, .slice B mq d]) ∧ (Lim .u8 w'.heap.size w' B (digs 2 y.natAbs) ∧ mq ≤ d) ∧ Fro V.heap.size B mq ∧ Below V.heap.size V w') := fun V hb => Lib.hid (by
    subst hrq hmq
    exact refvalF V (P2.below hb) HXY.out.2 (by omega))
  have BZ : Below v3.heap.size v3 v3 := Below.refl _ _
  have k1 := t3.fst
  have k2 := t3.snd
  have k3 := t4.fst
  have k4 := t4.snd
  have hlt1 := t3.lt
  have hlt2 := t4.lt
  clear hrp hrq hmp hmq
  go_upto_region 4 with fail
  go_cut [7, 8] (fun s5 s6 wx => Pair2 (fun w' B n d => BV 1920 w' rp B n d x) (fun w' B n d => BV 1920 w' rq B n d y) v3 wx s5 s6 rp rq mp mq)
  case first =>
    have KS : ∀ V, Below v3.heap.size v3 V → (Below v3.heap.size v3 V ∧ V.cell? ⟨g5, 0, none⟩ = some (.bool r1) ∧ V.cell? ⟨g5, 1, none⟩ = some (.slice B1 n1 d1) ∧ V.cell? ⟨g6, 0, none⟩ = some (.bool r2) ∧ V.cell? ⟨g6, 1, none⟩ = some (.slice B2 n2 d2)) := fun V hb => ⟨hb, (t3.below' hb).fst, (t3.below' hb).snd, (t4.below' hb).fst, (t4.below' hb).snd⟩
    go_region_held3 (fun V => Below v3.heap.size v3 V ∧ V.cell? ⟨g5, 0, none⟩ = some (.bool r1) ∧ V.cell? ⟨g5, 1, none⟩ = some (.slice B1 n1 d1) ∧ V.cell? ⟨g6, 0, none⟩ = some (.bool r2) ∧ V.cell? ⟨g6, 1, none⟩ = some (.slice B2 n2 d2)) (first | exact KS _ (by repeat (first | with_reducible exact BZ | assumption | with_reducible apply Below.drew | with_reducible apply below_al | with_reducible refine below_then ?_ yb1 | with_reducible refine below_then ?_ yb2 | with_reducible refine Below.setCell ?_ (by first | exact Nat.le_refl _ | (simp <;> omega)) _)) | go_keep)
      (first
        | (go_at_call 20; (with_reducible refine ((C1 _ (by repeat (first | with_reducible exact BZ | assumption | with_reducible apply Below.drew | with_reducible apply below_al | with_reducible refine below_then ?_ yb1 | with_reducible refine below_then ?_ yb2 | with_reducible refine Below.setCell ?_ (by first | exact Nat.le_refl _ | (simp <;> omega)) _))).out).mono ?_); rintro e y1 ⟨B3, d3, rfl, P3, F1, yb1⟩; have yc1 : Below v3.heap.size v3 y1 := (by repeat (first | with_reducible exact BZ | assumption | with_reducible apply Below.drew | with_reducible apply below_al | with_reducible refine below_then ?_ yb1 | with_reducible refine below_then ?_ yb2 | with_reducible refine Below.setCell ?_ (by first | exact Nat.le_refl _ | (simp <;> omega)) _)); have sz1 := yb1.size; (try have p5 := (Two.made _ 30 (.bool false) (.slice none 0 0)).below' yb1); (try have p5 := (Two.drew1 (Two.made _ 30 (.bool false) (.slice none 0 0))).below' yb1); (try have p6 := ((Two.made _ 30 (.bool false) (.slice none 0 0)).alloc _).below' yb1); (try have p6 := (Two.drew1 ((Two.made _ 30 (.bool false) (.slice none 0 0)).alloc _)).below' yb1); (try simp at p5); (try have p5a := p5.fst); (try have p5b := p5.snd); (try have p5c := p5.free 0); (try have p5d := p5.free 1); (try simp at p6); (try have p6a := p6.fst); (try have p6b := p6.snd); (try have p6c := p6.free 0); (try have p6d := p6.free 1); (try simp at sz1); (try have fa1 : v3.heap.size < y1.heap.size := by omega); (try have fa2 : v3.heap.size + 1 < y1.heap.size := by omega))
        | (go_at_call 20; (with_reducible refine ((C2 _ (by repeat (first | with_reducible exact BZ | assumption | with_reducible apply Below.drew | with_reducible apply below_al | with_reducible refine below_then ?_ yb1 | with_reducible refine below_then ?_ yb2 | with_reducible refine Below.setCell ?_ (by first | exact Nat.le_refl _ | (simp <;> omega)) _))).out).mono ?_); rintro e y2 ⟨B4, d4, rfl, P4, F2, yb2⟩; have yc2 : Below v3.heap.size v3 y2 := (by repeat (first | with_reducible exact BZ | assumption | with_reducible apply Below.drew | with_reducible apply below_al | with_reducible refine below_then ?_ yb1 | with_reducible refine below_then ?_ yb2 | with_reducible refine Below.setCell ?_ (by first | exact Nat.le_refl _ | (simp <;> omega)) _)); have sz2 := yb2.size; (try have q5 := (Two.made _ 30 (.bool false) (.slice none 0 0)).below' yb2); (try have q6 := ((Two.made _ 30 (.bool false) (.slice none 0 0)).alloc _).below' yb2); (try have r5 := p5.below' yb2); (try have r5 := (p5.alloc _).below' yb2); (try have r6 := p6.below' yb2); (try simp at q5); (try have q5a := q5.fst); (try have q5b := q5.snd); (try have q5c := q5.free 0); (try have q5d := q5.free 1); (try simp at q6); (try have q6a := q6.fst); (try have q6b := q6.snd); (try have q6c := q6.free 0); (try have q6d := q6.free 1); (try simp at r5); (try have r5a := r5.fst); (try have r5b := r5.snd); (try have r5c := r5.free 0); (try have r5d := r5.free 1); (try simp at r6); (try have r6a := r6.fst); (try have r6b := r6.snd); (try have r6c := r6.free 0); (try have r6d := r6.free 1); (try simp at sz2); (try have fa3 : y1.heap.size < y2.heap.size := by omega); (try have fa4 : y1.heap.size + 1 < y2.heap.size := by omega); (try have fa5 : v3.heap.size < y2.heap.size := by omega); (try have fa6 : v3.heap.size + 1 < y2.heap.size := by omega); (try have fa7 : y1.heap.size ≠ y2.heap.size := by omega); (try have fa8 : y1.heap.size + 1 ≠ y2.heap.size := by omega); (try have fa9 : v3.heap.size ≠ y2.heap.size := by omega); (try have faa : v3.heap.size + 1 ≠ y2.heap.size := by omega); (try have fab : v3.heap.size ≠ y1.heap.size := by omega)))
    all_goals
      go_wp2_with fail
      go_meet
      case rel => exact fin2 (t := 30) (by repeat (first | with_reducible exact BZ | assumption | with_reducible apply Below.drew | with_reducible apply below_al | with_reducible refine below_then ?_ yb1 | with_reducible refine below_then ?_ yb2 | with_reducible refine Below.setCell ?_ (by first | exact Nat.le_refl _ | (simp <;> omega)) _)) yb1 (by repeat (first | with_reducible exact Below.refl _ _ | with_reducible apply Below.drew | with_reducible apply below_al)) yb2 P3.1 (HPQ.out.1) F1 P4.1 (HPQ.out.2.1) F2 (by first | with_reducible exact Two.made' (by simp) | with_reducible exact (Two.made' (by simp)).alloc _ | with_reducible exact Two.set2 (by assumption) | with_reducible exact (Two.set2 (by assumption)).alloc _ | with_reducible exact Two.far2 (Two.set2 (by assumption)) (by omega) | with_reducible exact Two.set2 (Two.far2 (by assumption) (by omega))) (by first | with_reducible exact Two.made' (by simp) | with_reducible exact (Two.made' (by simp)).alloc _ | with_reducible exact Two.set2 (by assumption) | with_reducible exact (Two.set2 (by assumption)).alloc _ | with_reducible exact Two.far2 (Two.set2 (by assumption)) (by omega) | with_reducible exact Two.set2 (Two.far2 (by assumption) (by omega))) (by repeat (first | with_reducible exact Near.refl _ _ _ | with_reducible apply Near.drew | with_reducible apply Near.alloc | with_reducible apply Near.one | with_reducible apply Near.two)) (by omega) (by omega) (by simp <;> omega) (by simp <;> omega) (fun w' h => HPQ.out.2.2.1 w' _ _ h P3.2) (fun w' h => HPQ.out.2.2.2 w' _ _ h P4.2)
  case rest =>
  obtain ⟨g7, g8, B3, d3, B4, d4, rfl, rfl, t5, t6, P3, P4, bc⟩ := hcut
  replace t1 := t1.below' bc
  replace t2 := t2.below' bc
  replace t3 := t3.below' bc
  replace t4 := t4.below' bc
  replace R1 := R1.below bc
  replace R2 := R2.below bc
  replace P1 := P1.below bc
  replace P2 := P2.below bc
  replace hbW := below_then hbW bc
  clear bc C1 C2 BZ k1 k2 k3 k4 hlt1 hlt2
  obtain ⟨v4, hv4⟩ : ∃ v4 : World, v4 = wc := ⟨_, rfl⟩
  subst hv4
  have k1 := t1.fst
  have k2 := t1.snd
  have k3 := t2.fst
  have k4 := t2.snd
  go_wp2_with fail
  have CT := Lib.hid (add_f v4 (NA v4 R1) (NB v4 R2) (by omega) (by omega))
  refine (CT.out).mono ?_
  clear CT
  intro e y9 hq
  obtain ⟨r9, A9, m9, c9, rfl, Q9, M9, l9, b1⟩ := TellsF.opened hq
  clear hq
  have ba := below_al (Below.refl y9.heap.size y9) (.cells #[.bool r9, .slice A9 m9 c9] 24)
  have BU9 := below_then b1 ba
  have hs9 : v4.heap.size ≤ y9.heap.size := b1.size
  have t9 := Two.made y9 24 (.bool r9) (.slice A9 m9 c9)
  replace Q9 := Q9.below ba
  replace M9 := M9.below ba
  clear b1 ba k1 k2 k3 k4
  have p1 := t1.below' BU9
  have p2 := t2.below' BU9
  have RR1 := R1.below BU9
  have RR2 := R2.below BU9
  have k1 := p1.fst
  have k2 := p1.snd
  have k3 := p2.fst
  have k4 := p2.snd
  go_wp2_with fail
  obtain ⟨v5, hv5⟩ : ∃ v5, v5 = y9.alloc (.cells #[.bool r9, .slice A9 m9 c9] 24) := ⟨_, rfl⟩
  rw [← hv5]
  replace t9 := hv5 ▸ t9
  replace Q9 := hv5 ▸ Q9
  replace M9 := hv5 ▸ M9
  replace BU9 := hv5 ▸ BU9
  replace RR1 := hv5 ▸ RR1
  replace RR2 := hv5 ▸ RR2
  have hz9 : y9.heap.size < v5.heap.size := t9.lt
  have Hv5 := Lib.hid hv5
  clear hv5
  have CT := Lib.hid (sub_f v5 (NA v5 RR1) (NB v5 RR2) (by omega) (by omega))
  refine (CT.out).mono ?_
  clear CT
  intro e y11 hq
  obtain ⟨r11, A11, m11, c11, rfl, Q11, M11, l11, b1⟩ := TellsF.opened hq
  clear hq
  have ba := below_al (Below.refl y11.heap.size y11) (.cells #[.bool r11, .slice A11 m11 c11] 24)
  have BU11 := below_then b1 ba
  have hs11 : v5.heap.size ≤ y11.heap.size := b1.size
  have t11 := Two.made y11 24 (.bool r11) (.slice A11 m11 c11)
  replace Q11 := Q11.below ba
  replace M11 := M11.below ba
  replace t9 := t9.below' BU11
  replace Q9 := Q9.below BU11
  replace M9 := M9.below BU11
  clear b1 ba k1 k2 k3 k4
  obtain ⟨X, hX⟩ : ∃ X, X = y11.alloc (.cells #[.bool r11, .slice A11 m11 c11] 24) := ⟨_, rfl⟩
  replace t11 := hX ▸ t11
  replace Q11 := hX ▸ Q11
  replace M11 := hX ▸ M11
  replace BU11 := hX ▸ BU11
  replace t9 := hX ▸ t9
  replace Q9 := hX ▸ Q9
  replace M9 := hX ▸ M9
  have hz11 : y11.heap.size < X.heap.size := t11.lt
  have HX := Lib.hid hX
  clear hX
  have XB := below_then BU9 BU11
  clear BU9 BU11 RR1 RR2 p1 p2
  have XR1 := R1.below XB
  have XR2 := R2.below XB
  have X3 := P3.below XB
  have X4 := P4.below XB
  have q1 := t1.below' XB
  have q2 := t2.below' XB
  have q5 := t5.below' XB
  have q6 := t6.below' XB
  obtain ⟨s, hs⟩ : ∃ s, cmpI x y = s := ⟨_, rfl⟩
  obtain ⟨rn, hrn⟩ : ∃ rn, decide (-y < 0) = rn := ⟨_, rfl⟩
  have DX := XR1.dl HXY.out.1
  have DY := XR2.dl HXY.out.2
  have HM : Hid ((∀ (V : World) (r : Bool) (B : Option Addr) (m d : Nat), BVal V r B m d (x + y) → m ≤ 1952) ∧ (∀ (V : World) (r : Bool) (B : Option Addr) (m d : Nat), BVal V r B m d (x - y) → m ≤ 1952)) := Lib.hid (by
    have ha := dl_add2 (m := 60) (Nat.le_trans DX l1) (Nat.le_trans DY l2)
    refine ⟨fun V r B m d h => ?_, fun V r B m d h => ?_⟩
    · rw [h.2.1]
      exact bl_of_dl (Nat.le_trans (dl_mono (by omega)) ha) rfl
    · rw [h.2.1]
      exact bl_of_dl (Nat.le_trans (dl_mono (by omega)) ha) rfl)
  clear DX DY
  have X5 : BV 1920 X rn B4 mq d4 (-y) := ⟨by rw [← hrn]; exact ⟨rfl, by rw [Int.natAbs_neg]; exact X4.1.2.1, by rw [Int.natAbs_neg]; exact X4.1.2.2⟩, X4.2⟩
  have HRN := Lib.hid hrn
  have HS := Lib.hid hs
  have C1 : ∀ V, Below X.heap.size X V → Hid (Calls Tryd.prog 31 #[.agg #[.bool r1, .slice A1 n1 c1], .agg #[.bool r2, .slice A2 n2 c2]] V fun e w' => e = .returned (.int .i64 s) ∧ Below V.heap.size V w') := fun V hb => Lib.hid ((cmp_at V (NA V (XR1.below hb)) (NB V (XR2.below hb)) (by omega) (by omega)).mono fun e w' ⟨he, hw⟩ => ⟨by rw [he, HS.out], hw⟩)
  have C2 : ∀ V, Below X.heap.size X V → Hid (Calls Tryd.prog 28 #[.agg #[.bool rp, .slice B3 mp d3], .agg #[.bool rq, .slice B4 mq d4]] V fun e w' => e = .returned (.int .i64 s) ∧ Below V.heap.size V w') := fun V hb => Lib.hid ((refcmp_at V (X3.below hb).1 (X4.below hb).1 (by omega) (by omega)).mono fun e w' ⟨he, hw⟩ => ⟨by rw [he, HS.out], hw⟩)
  have C5 : ∀ V, Below X.heap.size X V → Hid (Calls Tryd.prog 26 #[.agg #[.bool rq, .slice B4 mq d4]] V fun e w' => e = .returned (.agg #[.bool rn, .slice B4 mq d4]) ∧ Below V.heap.size V w') := fun V hb => Lib.hid ((turn_b V (X4.below hb).1 (by omega)).mono fun e w' ⟨he, hw⟩ => ⟨by rw [he, HRN.out], hw⟩)
  have C3 : ∀ V, Below X.heap.size X V → Hid (Calls Tryd.prog 37 #[.agg #[.bool rp, .slice B3 mp d3], .agg #[.bool rq, .slice B4 mq d4]] V fun e w' => ∃ r B m d, e = .returned (.agg #[.bool r, .slice B m d]) ∧ BV 1952 w' r B m d (x + y) ∧ Below V.heap.size V w') := fun V hb => Lib.hid ((refadd_at V (X3.below hb).1 (X4.below hb).1 (by omega) (by omega)).mono fun e w' hq => by
    obtain ⟨r, B, m, d, he, hb2, hw⟩ := hq
    exact ⟨r, B, m, d, he, ⟨hb2, HM.out.1 w' r B m d hb2⟩, hw⟩)
  have C6 : ∀ V, Below X.heap.size X V → Hid (Calls Tryd.prog 37 #[.agg #[.bool rp, .slice B3 mp d3], .agg #[.bool rn, .slice B4 mq d4]] V fun e w' => ∃ r B m d, e = .returned (.agg #[.bool r, .slice B m d]) ∧ BV 1952 w' r B m d (x - y) ∧ Below V.heap.size V w') := fun V hb => Lib.hid ((refadd_at V (X3.below hb).1 (X5.below hb).1 (by omega) (by omega)).mono fun e w' hq => by
    obtain ⟨r, B, m, d, he, hb2, hw⟩ := hq
    rw [← Int.sub_eq_add_neg] at hb2
    exact ⟨r, B, m, d, he, ⟨hb2, HM.out.2 w' r B m d hb2⟩, hw⟩)
  have C4 : ∀ V r B m d, Below X.heap.size X V → BV 1952 V r B m d (x + y) → Hid (Calls Tryd.prog 25 #[.agg #[.bool r9, .slice A9 m9 c9], .int .i64 (resV (x + y)), .agg #[.bool r, .slice B m d]] V fun e w' => e = .returned (.bool true) ∧ Below V.heap.size V w') := fun V r B m d hb h => Lib.hid (is_can V (Q9.below hb) h.1 (by have := h.2; omega) _ (Lib.hid rfl))
  have C7 : ∀ V r B m d, Below X.heap.size X V → BV 1952 V r B m d (x - y) → Hid (Calls Tryd.prog 25 #[.agg #[.bool r11, .slice A11 m11 c11], .int .i64 (resV (x - y)), .agg #[.bool r, .slice B m d]] V fun e w' => e = .returned (.bool true) ∧ Below V.heap.size V w') := fun V r B m d hb h => Lib.hid (is_can V (Q11.below hb) h.1 (by have := h.2; omega) _ (Lib.hid rfl))
  have KS : ∀ V, Below X.heap.size X V → (Below X.heap.size X V ∧ V.cell? ⟨w.heap.size, 0, none⟩ = some (.bool r1) ∧ V.cell? ⟨w.heap.size, 1, none⟩ = some (.slice A1 n1 c1) ∧ V.cell? ⟨w.heap.size + 1, 0, none⟩ = some (.bool r2) ∧ V.cell? ⟨w.heap.size + 1, 1, none⟩ = some (.slice A2 n2 c2) ∧ V.cell? ⟨g7, 0, none⟩ = some (.bool rp) ∧ V.cell? ⟨g7, 1, none⟩ = some (.slice B3 mp d3) ∧ V.cell? ⟨g8, 0, none⟩ = some (.bool rq) ∧ V.cell? ⟨g8, 1, none⟩ = some (.slice B4 mq d4) ∧ V.cell? ⟨y9.heap.size, 0, none⟩ = some (.bool r9) ∧ V.cell? ⟨y9.heap.size, 1, none⟩ = some (.slice A9 m9 c9) ∧ V.cell? ⟨y11.heap.size, 0, none⟩ = some (.bool r11) ∧ V.cell? ⟨y11.heap.size, 1, none⟩ = some (.slice A11 m11 c11)) := fun V hb => ⟨hb, (q1.below' hb).fst, (q1.below' hb).snd, (q2.below' hb).fst, (q2.below' hb).snd, (q5.below' hb).fst, (q5.below' hb).snd, (q6.below' hb).fst, (q6.below' hb).snd, (t9.below' hb).fst, (t9.below' hb).snd, (t11.below' hb).fst, (t11.below' hb).snd⟩
  have BX0 : Below X.heap.size X X := Below.refl _ _
  have k := KS X BX0
  have k1 := k.2.1
  have k2 := k.2.2.1
  have k3 := k.2.2.2.1
  have k4 := k.2.2.2.2.1
  have es : (s != s) = false := by simp
  clear k hs hrn
  go_wp2_with fail
  rw [← HX.out]
  go_region_held3 (fun V => Below X.heap.size X V ∧ V.cell? ⟨w.heap.size, 0, none⟩ = some (.bool r1) ∧ V.cell? ⟨w.heap.size, 1, none⟩ = some (.slice A1 n1 c1) ∧ V.cell? ⟨w.heap.size + 1, 0, none⟩ = some (.bool r2) ∧ V.cell? ⟨w.heap.size + 1, 1, none⟩ = some (.slice A2 n2 c2) ∧ V.cell? ⟨g7, 0, none⟩ = some (.bool rp) ∧ V.cell? ⟨g7, 1, none⟩ = some (.slice B3 mp d3) ∧ V.cell? ⟨g8, 0, none⟩ = some (.bool rq) ∧ V.cell? ⟨g8, 1, none⟩ = some (.slice B4 mq d4) ∧ V.cell? ⟨y9.heap.size, 0, none⟩ = some (.bool r9) ∧ V.cell? ⟨y9.heap.size, 1, none⟩ = some (.slice A9 m9 c9) ∧ V.cell? ⟨y11.heap.size, 0, none⟩ = some (.bool r11) ∧ V.cell? ⟨y11.heap.size, 1, none⟩ = some (.slice A11 m11 c11)) (exact KS _ (by first | assumption | exact Below.drew (by assumption)))
    (first
      | (go_at_call 31; refine ((C1 _ (by first | assumption | exact Below.drew (by assumption))).out).mono ?_; rintro e f1 ⟨rfl, fl1⟩; have fb1 := below_then (show Below X.heap.size X _ from (by first | assumption | exact Below.drew (by assumption))) fl1)
      | (go_at_call 28; refine ((C2 _ (by first | assumption | exact Below.drew (by assumption))).out).mono ?_; rintro e f2 ⟨rfl, fl2⟩; have fb2 := below_then (show Below X.heap.size X _ from (by first | assumption | exact Below.drew (by assumption))) fl2)
      | (go_at_call 26; refine ((C5 _ (by first | assumption | exact Below.drew (by assumption))).out).mono ?_; rintro e f5 ⟨rfl, fl5⟩; have fb5 := below_then (show Below X.heap.size X _ from (by first | assumption | exact Below.drew (by assumption))) fl5)
      | (go_at_call 37; (with_reducible refine ((C3 _ (by first | assumption | exact Below.drew (by assumption))).out).mono ?_); rintro e f3 ⟨ra, Ba, ma, da, rfl, QA, fl3⟩; have fb3 := below_then (show Below X.heap.size X _ from (by first | assumption | exact Below.drew (by assumption))) fl3)
      | (go_at_call 37; (with_reducible refine ((C6 _ (by first | assumption | exact Below.drew (by assumption))).out).mono ?_); rintro e f6 ⟨rb, Bb, mb, db, rfl, QB, fl6⟩; have fb6 := below_then (show Below X.heap.size X _ from (by first | assumption | exact Below.drew (by assumption))) fl6)
      | (go_at_call 25; (with_reducible refine ((C4 _ ra Ba ma da (by first | assumption | exact Below.drew (by assumption)) (by first | exact QA | exact BV.drew QA)).out).mono ?_); rintro e f4 ⟨rfl, fl4⟩; have fb4 := below_then (show Below X.heap.size X _ from (by first | assumption | exact Below.drew (by assumption))) fl4)
      | (go_at_call 25; (with_reducible refine ((C7 _ rb Bb mb db (by first | assumption | exact Below.drew (by assumption)) (by first | exact QB | exact BV.drew QB)).out).mono ?_); rintro e f7 ⟨rfl, fl7⟩; have fb7 := below_then (show Below X.heap.size X _ from (by first | assumption | exact Below.drew (by assumption))) fl7))
  have d1 := t9.below' fb7
  have d2 := t11.below' fb7
  have N4 := M9.below fb7
  have N5 := M11.below fb7
  have EB := Lib.hid (below_then XB fb7)
  clear C1 C2 C3 C4 C5 C6 C7 KS k1 k2 k3 k4 fb1 fb2 fb3 fb4 fb5 fb6 fb7 fl1 fl2 fl3 fl4 fl5 fl6 fl7 BX0 q1 q2 q5 q6 XR1 XR2 X3 X4 X5 QA QB Q9 Q11 M9 M11 t9 t11 XB P3 P4 t5 t6
  have k1 := d1.fst
  have k2 := d1.snd
  go_wp2_with fail
  have CT := Lib.hid (spoil_room r9 A9 m9 c9 _ _ _ N4 (by omega))
  refine (CT.out).mono ?_
  clear CT
  rintro e z8 ⟨rfl, S8⟩
  clear k1 k2
  have k1 := (S8.two d2 (by omega)).fst
  have k2 := (S8.two d2 (by omega)).snd
  have N5' := S8.room N5 (by omega)
  have E7 := Lib.hid (S8.after EB.out (by omega))
  go_wp2_with fail
  have CT := Lib.hid (spoil_room r11 A11 m11 c11 _ _ _ N5' (by omega))
  refine (CT.out).mono ?_
  clear CT
  rintro e zz ⟨rfl, S9⟩
  have E8 := S9.after E7.out (by omega)
  clear k1 k2 S8 S9 E7 N5 N5' N4 d1 d2 EB
  replace t1 := t1.below' E8
  replace t2 := t2.below' E8
  replace t3 := t3.below' E8
  replace t4 := t4.below' E8
  replace R1 := R1.below E8
  replace R2 := R2.below E8
  replace P1 := P1.below E8
  replace P2 := P2.below E8
  replace hbW := below_then hbW E8
  clear E8
  have k1 := t1.fst
  have k2 := t1.snd
  have k3 := t3.fst
  have k4 := t3.snd
  go_wp2_with fail
  have CT := Lib.hid (same_rows (r := r1) R1 P1 (by omega))
  refine (CT.out).mono ?_
  clear CT k1 k2 k3 k4
  rintro e z9 ⟨rfl, bb⟩
  replace t2 := t2.below' bb
  replace t4 := t4.below' bb
  replace R2 := R2.below bb
  replace P2 := P2.below bb
  replace hbW := below_then hbW bb
  clear bb
  have k1 := t2.fst
  have k2 := t2.snd
  have k3 := t4.fst
  have k4 := t4.snd
  go_wp2_with fail
  have CT := Lib.hid (same_rows (r := r2) R2 P2 (by omega))
  refine (CT.out).mono ?_
  clear CT k1 k2 k3 k4
  rintro e za ⟨rfl, bb⟩
  replace hbW := below_then hbW bb
  clear bb
  go_wp2_with fail
  refine ((AW _ hbW).out).mono ?_
  rintro e zb ⟨rfl, bb⟩
  go_wp2
  go_ret
  exact ⟨rfl, below_then hbW bb⟩
set_option maxHeartbeats 1600000 in
set_option maxRecDepth 100000 in
theorem long_1 (r1 r2 : Bool) (A1 A2 : Option Addr) (n1 c1 n2 c2 : Nat) (w : World) (ht : Tab w) (l1 : 60 < n1) :
    Calls Tryd.prog 5 #[.agg #[.bool r1, .slice A1 n1 c1], .agg #[.bool r2, .slice A2 n2 c2]] w fun e w' => e = .returned (.bool true) ∧ Below w.heap.size w w' := by
  obtain ⟨W, hW⟩ : ∃ W, W = (w.alloc (.cells #[.bool r1, .slice A1 n1 c1] 24)).alloc (.cells #[.bool r2, .slice A2 n2 c2] 24) := ⟨_, rfl⟩
  obtain ⟨t1, t2, hbW, hWs⟩ := boxes24 w _ _ _ _ W hW
  have AW : ∀ V, Below w.heap.size w V → Hid (Calls Tryd.prog 18 #[] V fun e w' => e = .returned (.bool true) ∧ Below w.heap.size w w') :=
    fun V hb => Lib.hid ((awake_any V (ht.below hb)).mono fun e w' ⟨he, hw⟩ => ⟨he, below_then hb hw⟩)
  have LA := fun W => Lib.hid (long_yes r1 A1 n1 c1 l1 W)
  have k1 := t1.fst
  have k2 := t1.snd
  go_enter Tryd.func5, Tryd.ntmps5
  go_wp2_with fail
  rw [← hW]
  have HW := Lib.hid hW
  clear hW hWs t1
  refine ((LA _).out).mono ?_
  rintro e v1 ⟨rfl, b1⟩
  replace t2 := t2.below' b1
  replace hbW := below_then hbW b1
  clear k1 k2 b1
  go_wp2_with fail
  refine ((AW _ hbW).out).mono ?_
  rintro e y8 ⟨rfl, bb8⟩
  go_wp2
  go_ret
  exact ⟨rfl, bb8⟩
set_option maxHeartbeats 1600000 in
set_option maxRecDepth 100000 in
theorem long_2 (r1 r2 : Bool) (A1 A2 : Option Addr) (n1 c1 n2 c2 : Nat) (w : World) (ht : Tab w) (l1 : n1 ≤ 60) (l2 : 60 < n2) :
    Calls Tryd.prog 5 #[.agg #[.bool r1, .slice A1 n1 c1], .agg #[.bool r2, .slice A2 n2 c2]] w fun e w' => e = .returned (.bool true) ∧ Below w.heap.size w w' := by
  obtain ⟨W, hW⟩ : ∃ W, W = (w.alloc (.cells #[.bool r1, .slice A1 n1 c1] 24)).alloc (.cells #[.bool r2, .slice A2 n2 c2] 24) := ⟨_, rfl⟩
  obtain ⟨t1, t2, hbW, hWs⟩ := boxes24 w _ _ _ _ W hW
  have AW : ∀ V, Below w.heap.size w V → Hid (Calls Tryd.prog 18 #[] V fun e w' => e = .returned (.bool true) ∧ Below w.heap.size w w') :=
    fun V hb => Lib.hid ((awake_any V (ht.below hb)).mono fun e w' ⟨he, hw⟩ => ⟨he, below_then hb hw⟩)
  have LA := fun W => Lib.hid (long_no r1 A1 n1 c1 l1 W)
  have LB := fun W => Lib.hid (long_yes r2 A2 n2 c2 l2 W)
  have k1 := t1.fst
  have k2 := t1.snd
  go_enter Tryd.func5, Tryd.ntmps5
  go_wp2_with fail
  rw [← hW]
  have HW := Lib.hid hW
  clear hW hWs t1
  refine ((LA _).out).mono ?_
  rintro e v1 ⟨rfl, b1⟩
  replace t2 := t2.below' b1
  replace hbW := below_then hbW b1
  clear k1 k2 b1
  have k1 := t2.fst
  have k2 := t2.snd
  go_wp2_with fail
  refine ((LB _).out).mono ?_
  rintro e v2 ⟨rfl, b1⟩
  replace hbW := below_then hbW b1
  clear k1 k2 b1 t2
  go_wp2_with fail
  refine ((AW _ hbW).out).mono ?_
  rintro e y8 ⟨rfl, bb8⟩
  go_wp2
  go_ret
  exact ⟨rfl, bb8⟩
theorem walk (r1 r2 : Bool) (A1 A2 : Option Addr) (n1 c1 n2 c2 : Nat) (x y : Int) (w : World) (ht : Tab w) (h1 : NumAt w r1 A1 n1 c1 x) (h2 : NumAt w r2 A2 n2 c2 y) :
    Calls Tryd.prog 5 #[.agg #[.bool r1, .slice A1 n1 c1], .agg #[.bool r2, .slice A2 n2 c2]] w fun e w' => e = .returned (.bool true) ∧ Below w.heap.size w w' := by
  by_cases l1 : n1 ≤ 60
  · by_cases l2 : n2 ≤ 60
    · obtain ⟨xs, hx, hxz⟩ := h1.row
      obtain ⟨ys, hy, hyz⟩ := h2.row
      exact main r1 r2 A1 A2 n1 c1 n2 c2 xs ys x y w ht hx hy hxz hyz l1 l2
    · exact long_2 r1 r2 A1 A2 n1 c1 n2 c2 w ht l1 (by omega)
  · exact long_1 r1 r2 A1 A2 n1 c1 n2 c2 w ht (by omega)
/-! The row's step. -/
set_option maxRecDepth 100000 in
theorem contract (H : Type) (enc : TypeId × Value → H) (W : World) (base : Nat) (args : Array Value) (ds gs : List (DataW H)) (before : List MemPlace)
    (hval : ∀ (j : Nat) t v, Tryd.f5.params[j]? = some t → args[j]? = some v → Value.okWide Tryd.prog W .any base t v)
    (hW : DataW.Whole enc Tryd.prog Tryd.f5.params.toList Rows.numAddsSpec.vars false W args.toList ds gs before) (hL : laidMetH Tryd.prog Rows.numAddsRow.laid W) :
    Calls Tryd.prog 5 args W fun e W' => ∃ v, e = .returned v ∧ Rows.numAddsSpec.post enc Tryd.prog Tryd.f5 false true false false W args v W' := by
  have hW' := hW
  obtain ⟨p, q, hA0, hV, rfl, hfz, hnd⟩ := hW
  have hA : DataW.TrodAll enc Tryd.prog W 0 (fun _ => true) true Tryd.f5.params.toList args.toList ds p := hA0
  obtain ⟨rfl, rfl⟩ := trodVars_none hV
  simp only [List.append_nil] at hW'
  have hlt : ∀ x ∈ p, x.block < W.heap.size := fun x hx => by simpa using hW'.lt x hx
  have hAk := hA
  rw [Tryd.params5] at hA hval
  obtain ⟨v0, vs0, d0, ds0, p0, q0, hargs, rfl, rfl, h0, r0⟩ := trodAll_cons hA
  obtain ⟨v1, vs1, d1, ds1, p1, q1, rfl, rfl, rfl, h1, r1⟩ := trodAll_cons r0
  obtain ⟨rfl, rfl, rfl⟩ := trodAll_nil r1
  obtain rfl : args = #[v0, v1] := by cases args; simp_all
  obtain ⟨g0, A0, n0, c0, N0, rfl, m0⟩ := open_num (hval 0 24 v0 rfl rfl) h0
  obtain ⟨g1, A1, n1, c1, N1, rfl, m1⟩ := open_num (hval 1 24 v1 rfl rfl) h1
  refine (walk g0 g1 A0 A1 n0 c0 n1 c1 _ _ W (tab_of hL) ⟨N0, m0, rfl⟩ ⟨N1, m1, rfl⟩).mono fun e W' ⟨he, hg⟩ => ?_
  subst he
  exact ⟨_, rfl, _, _, _, [], _, [], hW', (trodAll_cons_mk (shut_bool Tryd.underlying4 _) trodAll_mk0), below_all hg (by kernel_rfl) hAk hlt, rfl, hg.frame _, fun h => by cases h⟩
theorem laid_met (os : Os) : laidMet Tryd.prog Rows.numAddsRow.laid ((laidWorld os).forCall (fun _ _ => 0) ⟨#[], #[.agg #[.bool false, .slice none 0 0], .agg #[.bool false, .slice none 0 0]], []⟩).memory :=
  laidMet_laidAll _ (by kernel_rfl) (by kernel_rfl)
theorem reads (os : Os) {H : Type} (enc : TypeId × Value → H) : ∃ places, DataW.whole enc Tryd.prog ((laidWorld os).forCall (fun _ _ => 0) ⟨#[], #[.agg #[.bool false, .slice none 0 0], .agg #[.bool false, .slice none 0 0]], []⟩).memory Tryd.f5.params.toList Rows.numAddsSpec.vars false (#[(Value.agg #[.bool false, .slice none 0 0]), (Value.agg #[.bool false, .slice none 0 0])] : Array Value).toList 8 = some ([.agg [.lit (.bool false), .nil], .agg [.lit (.bool false), .nil]], [], places) :=
  ⟨[], by kernel_rfl⟩
set_option maxRecDepth 100000 in
theorem lifted (os : Os) (started : os.Started) (H : Type) (enc : TypeId × Value → H) (F : Stop.Interp) :
    ReturnsInHanded {} Tryd.checked os 5 .any ((OpenSpec.ofChange Rows.numAddsSpec).preRow enc Tryd.prog Tryd.f5 Rows.numAddsRow.domain false Rows.numAddsRow.laid) (((OpenSpec.ofChange Rows.numAddsSpec).at F).post enc Tryd.prog Tryd.f5 false true false false) := by
  obtain ⟨places, hx⟩ := reads os enc
  refine returnsInHanded_of_row (C := Tryd.checked) (s := OpenSpec.ofChange Rows.numAddsSpec) own started (by kernel_rfl) Tryd.func5
    (witness_row_at (enc := enc) (C := Tryd.checked) false (laidWorld os) #[.agg #[.bool false, .slice none 0 0], .agg #[.bool false, .slice none 0 0]] (laidWorld_os os) (by kernel_rfl) (by kernel_rfl) (by kernel_rfl)
      (OpenSpec.preRow_of_cond 8 hx (by kernel_rfl) (fun k hk => by cases hk) (by kernel_rfl) (laid_met os))) ?_
  intro W base args ds gs before hval hW _ _ _ hL _ _
  exact contract H enc W base args ds gs before hval hW hL
theorem said : Rows.NumAddsSaid :=
  OpenClaim.holds_of_cond 5 Tryd.f5 rfl rfl rfl rfl rfl rfl rfl ⟨rfl, rfl, rfl, rfl, rfl⟩ rfl rfl rfl rfl rfl (by kernel_rfl) Tryd.func5 (by kernel_rfl)
    (of_decide_eq_true (by kernel_rfl)) (by unfold Func.isWrapper; first | (rw [if_pos (by decide +kernel)]; kernel_rfl) | (rw [if_neg (by decide +kernel)]; exact ⟨rfl, rfl⟩))
    (fun os started H enc _ F => by rw [OpenClaim.pre_eq_preRow]; exact lifted os started H enc F)
theorem plain (f : FuncId) (fn : Func) (hf : Tryd.pinned.checked.prog.funcNamed "moraine/morainelaw02.NumAdds" = some f) (hfn : Tryd.pinned.checked.prog.funcs[f]? = some fn) :
    false = Tryd.pinned.checked.prog.looks [] ∧ ∀ (j : Nat) t, fn.params[j]? = some t → Tryd.pinned.checked.prog.wantsStandIn t = false := by
  obtain rfl : f = 5 := Option.some.inj ((show Tryd.prog.funcNamed "moraine/morainelaw02.NumAdds" = some 5 by kernel_rfl).symm.trans hf) |>.symm
  obtain rfl : fn = Tryd.f5 := (Option.some.inj (Tryd.func5.symm.trans hfn)).symm
  refine ⟨by kernel_rfl, fun j t ht => ?_⟩
  rw [Tryd.params5] at ht
  have hm := Array.mem_of_getElem? ht
  have hall : (#[24, 24] : Array TypeId).toList.all (fun t => !Tryd.prog.wantsStandIn t) = true := by kernel_rfl
  have := List.all_eq_true.1 hall t (by simpa using hm)
  exact (show Tryd.prog.wantsStandIn t = false by simpa using this)
/-- THE STATEMENT -/
theorem card : Rows.NumAddsCardSaid :=
  Claim7.holds_tied_plain_at .later [] _ _ _ _ said (fun _ h => by cases h) (by kernel_rfl) (fun _ h => by cases h) Go.Proofs.YtocoflojlliapaaDoor.numAdds_row_tie rfl ⟨rfl, rfl⟩ (by kernel_rfl) rfl plain (by kernel_rfl)
#print axioms card
end Go.Proofs.YtocoflojlliapaaDoor.numAdds
