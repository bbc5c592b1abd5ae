/- DatumSame: the walk. -/
import Derived.Test.YtkffojipgphneaaDoorG2
import Derived.Test.YtkffojipgphneaaDoorH1
import Derived.Test.YtkffojipgphneaaDoorL0
import Derived.Deep.RegionHeld3
set_option linter.unusedVariables false
set_option linter.unusedSimpArgs false
namespace Go.Proofs.YtkffojipgphneaaDoor
open Go Go.RowKit
theorem alR_symm (k1 k2 c1 c2 : Int) (g1 g2 : Bool) (t1 t2 : ByteArray) (m n : Nat) (xs ys : List Nat) : alR k1 k2 c1 c2 g1 g2 t1 t2 m n xs ys = alR k2 k1 c2 c1 g2 g1 t2 t1 n m ys xs := by
  unfold alR
  rw [decide_eq_decide]
  constructor <;> (rintro ⟨rfl, rfl, rfl, rfl, rfl, rfl⟩; exact ⟨rfl, rfl, rfl, rfl, rfl, rfl⟩)
theorem alB_symm (d e : D) (m n : Nat) : alB d e m n = alB e d n m := alR_symm _ _ _ _ _ _ _ _ _ _ _ _
theorem sameF_symm : ∀ (f g : F), sameF f g = sameF g f := by
  intro f
  induction f with
  | nil => intro g; cases g <;> rfl
  | cons d k r ihk ihr =>
    intro g
    cases g with
    | nil => rfl
    | cons d' k' r' => simp only [sameF, ihk k', ihr r', alB_symm d d']
theorem sameD_symm (d : D) (f : F) (e : D) (g : F) : sameD d f e g = sameD e g d f := by
  unfold sameD
  rw [alB_symm, sameF_symm]
set_option maxRecDepth 100000 in
set_option maxHeartbeats 4000000 in
theorem same_early (d1 : D) (f1 : F) (d2 : D) (f2 : F) (w : World) (v1 : Val (fun k => k < w.heap.size) w d1 f1) (v2 : Val (fun k => k < w.heap.size) w d2 f2) (hT : Lib.Utf8Tabs 0 1 w)
    (h : heavyB d1 f1 = true ∨ (heavyB d1 f1 = false ∧ heavyB d2 f2 = true)) :
    Calls Tryd.prog 4 #[.agg #[.int .i64 d1.k, .int .i32 d1.c, .bool d1.neg, .slice d1.mA d1.mag.length d1.mcap, .string d1.t, .slice d1.lA f1.len d1.lcap], .agg #[.int .i64 d2.k, .int .i32 d2.c, .bool d2.neg, .slice d2.mA d2.mag.length d2.mcap, .string d2.t, .slice d2.lA f2.len d2.lcap]] w fun e w' => e = .returned (.bool true) ∧ Below w.heap.size w w' := by
  obtain ⟨W, hW⟩ : ∃ W, W = (w.alloc (six d1 f1.len)).alloc (six d2 f2.len) := ⟨_, rfl⟩
  have hbW : Below w.heap.size w W := by rw [hW]; exact ((Below.refl _ _).alloc (Nat.le_refl _) _).alloc (by simp) _
  have hx1 : W.heap[w.heap.size]? = some (six d1 f1.len) := by rw [hW]; exact (Below.heap_alloc _ _ _ (by simp)).trans (heap_alloc_new _ _)
  have hx2 : W.heap[w.heap.size + 1]? = some (six d2 f2.len) := by
    rw [hW]
    have := heap_alloc_new (w.alloc (six d1 f1.len)) (six d2 f2.len)
    rwa [World.size_alloc] at this
  have hT1 := Utf8Tabs_below hT hbW
  have C1 := Lib.hid (heavy_any d1 f1 W (v1.below hbW))
  have C2 := Lib.hid (fun V (hb : Below W.heap.size W V) => heavy_any d2 f2 V ((v2.below hbW).below hb))
  have K2 := Lib.hid (fun V (hb : Below W.heap.size W V) => Node.of_six ((hb.block _ (Array.getElem?_eq_some_iff.1 hx2).1).trans hx2))
  have ⟨n1, n2, n3, n4, n5, n6⟩ := Node.of_six hx1
  simp only [Nat.zero_add] at n1 n2 n3 n4 n5 n6
  have HW := Lib.hid hW
  clear hW hx1 hx2 hT v1 v2
  rcases h with h | ⟨h, g⟩
  · rw [h] at C1
    clear h
    go_enter Tryd.func4, Tryd.ntmps4
    go_wp2_with (first
      | (go_at_call 9; rw [show (w.alloc (.cells #[.int .i64 d1.k, .int .i32 d1.c, .bool d1.neg, .slice d1.mA d1.mag.length d1.mcap, .string d1.t, .slice d1.lA f1.len d1.lcap] 27)).alloc (.cells #[.int .i64 d2.k, .int .i32 d2.c, .bool d2.neg, .slice d2.mA d2.mag.length d2.mcap, .string d2.t, .slice d2.lA f2.len d2.lcap] 27) = W from HW.out.symm]; refine (C1.out).mono ?_; rintro e w1 ⟨rfl, b1⟩)
      | (go_at_call 10; refine (awake_any _ (Utf8Tabs_below hT1 b1)).mono ?_; rintro e w2 ⟨rfl, b2⟩))
    go_ret
    exact ⟨rfl, hbW.trans ((b1.trans (b2.mono b1.size)).mono hbW.size)⟩
  · rw [h] at C1
    rw [g] at C2
    clear h g
    go_enter Tryd.func4, Tryd.ntmps4
    go_wp2_with (go_at_call 9; rw [show (w.alloc (.cells #[.int .i64 d1.k, .int .i32 d1.c, .bool d1.neg, .slice d1.mA d1.mag.length d1.mcap, .string d1.t, .slice d1.lA f1.len d1.lcap] 27)).alloc (.cells #[.int .i64 d2.k, .int .i32 d2.c, .bool d2.neg, .slice d2.mA d2.mag.length d2.mcap, .string d2.t, .slice d2.lA f2.len d2.lcap] 27) = W from HW.out.symm]; refine (C1.out).mono ?_; rintro e w1 ⟨rfl, b1⟩; refine Hid.out ?_)
    refine Lib.hid ?_
    have ⟨m1, m2, m3, m4, m5, m6⟩ := K2.out _ b1
    simp only [Nat.zero_add] at m1 m2 m3 m4 m5 m6
    go_wp2_with (first
      | (go_at_call 9; refine (C2.out _ b1).mono ?_; rintro e w2 ⟨rfl, b2⟩)
      | (go_at_call 10; refine (awake_any _ (Utf8Tabs_below (Utf8Tabs_below hT1 b1) b2)).mono ?_; rintro e w3 ⟨rfl, b3⟩))
    go_ret
    have hb := b1.trans ((b2.trans (b3.mono b2.size)).mono b1.size)
    exact ⟨rfl, hbW.trans (hb.mono hbW.size)⟩
set_option maxRecDepth 100000 in
set_option maxHeartbeats 8000000 in
theorem same_main (d1 : D) (f1 : F) (d2 : D) (f2 : F) (w : World) (v1 : Val (fun k => k < w.heap.size) w d1 f1) (v2 : Val (fun k => k < w.heap.size) w d2 f2) (hT : Lib.Utf8Tabs 0 1 w)
    (g1 : heavyB d1 f1 = false) (g2 : heavyB d2 f2 = false) (R : Bool) (hR : sameD d1 f1 d2 f2 = R) :
    Calls Tryd.prog 4 #[.agg #[.int .i64 d1.k, .int .i32 d1.c, .bool d1.neg, .slice d1.mA d1.mag.length d1.mcap, .string d1.t, .slice d1.lA f1.len d1.lcap], .agg #[.int .i64 d2.k, .int .i32 d2.c, .bool d2.neg, .slice d2.mA d2.mag.length d2.mcap, .string d2.t, .slice d2.lA f2.len d2.lcap]] w fun e w' => e = .returned (.bool true) ∧ Below w.heap.size w w' := by
  obtain ⟨W, hW⟩ : ∃ W, W = (w.alloc (six d1 f1.len)).alloc (six d2 f2.len) := ⟨_, rfl⟩
  have hbW : Below w.heap.size w W := by rw [hW]; exact ((Below.refl _ _).alloc (Nat.le_refl _) _).alloc (by simp) _
  have hx1 : W.heap[w.heap.size]? = some (six d1 f1.len) := by rw [hW]; exact (Below.heap_alloc _ _ _ (by simp)).trans (heap_alloc_new _ _)
  have hx2 : W.heap[w.heap.size + 1]? = some (six d2 f2.len) := by
    rw [hW]
    have := heap_alloc_new (w.alloc (six d1 f1.len)) (six d2 f2.len)
    rwa [World.size_alloc] at this
  have hT1 := Utf8Tabs_below hT hbW
  have C1 := Lib.hid (heavy_any d1 f1 W (v1.below hbW))
  have C2 := Lib.hid (fun V (hb : Below W.heap.size W V) => heavy_any d2 f2 V ((v2.below hbW).below hb))
  have K2 := Lib.hid (fun V (hb : Below W.heap.size W V) => Node.of_six ((hb.block _ (Array.getElem?_eq_some_iff.1 hx2).1).trans hx2))
  have y1 := v1.below hbW
  have y2 := v2.below hbW
  have k1 := (light_cnt g1).1
  have k2 := (light_cnt g2).1
  rw [g1] at C1
  rw [g2] at C2
  have KT : ∀ V, Below W.heap.size W V → (Below W.heap.size W V ∧ V.cell? ⟨w.heap.size, 0, none⟩ = some (.int .i64 d1.k) ∧ V.cell? ⟨w.heap.size, 1, none⟩ = some (.int .i32 d1.c) ∧ V.cell? ⟨w.heap.size, 2, none⟩ = some (.bool d1.neg) ∧ V.cell? ⟨w.heap.size, 3, none⟩ = some (.slice d1.mA d1.mag.length d1.mcap) ∧ V.cell? ⟨w.heap.size, 4, none⟩ = some (.string d1.t) ∧ V.cell? ⟨w.heap.size, 5, none⟩ = some (.slice d1.lA f1.len d1.lcap) ∧ V.cell? ⟨w.heap.size + 1, 0, none⟩ = some (.int .i64 d2.k) ∧ V.cell? ⟨w.heap.size + 1, 1, none⟩ = some (.int .i32 d2.c) ∧ V.cell? ⟨w.heap.size + 1, 2, none⟩ = some (.bool d2.neg) ∧ V.cell? ⟨w.heap.size + 1, 3, none⟩ = some (.slice d2.mA d2.mag.length d2.mcap) ∧ V.cell? ⟨w.heap.size + 1, 4, none⟩ = some (.string d2.t) ∧ V.cell? ⟨w.heap.size + 1, 5, none⟩ = some (.slice d2.lA f2.len d2.lcap)) := fun V hb => by
    have e1 := Node.of_six ((hb.block _ (Array.getElem?_eq_some_iff.1 hx1).1).trans hx1)
    have e2 := Node.of_six ((hb.block _ (Array.getElem?_eq_some_iff.1 hx2).1).trans hx2)
    exact ⟨hb, e1.k, e1.c, e1.neg, e1.mag, e1.t, e1.l, e2.k, e2.c, e2.neg, e2.mag, e2.t, e2.l⟩
  have UP := Lib.hid (fun (V1 V2 : World) (h : Below W.heap.size W V1) (k : Below V1.heap.size V1 V2) => (h.trans (k.mono h.size) : Below W.heap.size W V2))
  have HT := Lib.hid (fun V (hb : Below W.heap.size W V) => Utf8Tabs_below hT1 hb)
  have HR := Lib.hid hR
  have CA : ∀ V', Below W.heap.size W V' → Hid (Calls Tryd.prog 19 #[.agg #[.int .i64 d1.k, .int .i32 d1.c, .bool d1.neg, .slice d1.mA d1.mag.length d1.mcap, .string d1.t, .slice d1.lA f1.len d1.lcap], .agg #[.int .i64 d2.k, .int .i32 d2.c, .bool d2.neg, .slice d2.mA d2.mag.length d2.mcap, .string d2.t, .slice d2.lA f2.len d2.lcap]] V' fun e w' => e = .returned (.bool R) ∧ Below V'.heap.size V' w') := fun V' hb => Lib.hid (same_any d1 f1 d2 f2 V' (y1.below hb) (y2.below hb) (by omega) R (Lib.hid HR.out))
  have CB : ∀ V', Below W.heap.size W V' → Hid (Calls Tryd.prog 19 #[.agg #[.int .i64 d2.k, .int .i32 d2.c, .bool d2.neg, .slice d2.mA d2.mag.length d2.mcap, .string d2.t, .slice d2.lA f2.len d2.lcap], .agg #[.int .i64 d1.k, .int .i32 d1.c, .bool d1.neg, .slice d1.mA d1.mag.length d1.mcap, .string d1.t, .slice d1.lA f1.len d1.lcap]] V' fun e w' => e = .returned (.bool R) ∧ Below V'.heap.size V' w') := fun V' hb => Lib.hid (same_any d2 f2 d1 f1 V' (y2.below hb) (y1.below hb) (by omega) R (Lib.hid (by rw [sameD_symm]; exact HR.out)))
  have CC : ∀ V', Below W.heap.size W V' → Hid (Calls Tryd.prog 19 #[.agg #[.int .i64 d1.k, .int .i32 d1.c, .bool d1.neg, .slice d1.mA d1.mag.length d1.mcap, .string d1.t, .slice d1.lA f1.len d1.lcap], .agg #[.int .i64 d1.k, .int .i32 d1.c, .bool d1.neg, .slice d1.mA d1.mag.length d1.mcap, .string d1.t, .slice d1.lA f1.len d1.lcap]] V' fun e w' => e = .returned (.bool true) ∧ Below V'.heap.size V' w') := fun V' hb => Lib.hid (same_any d1 f1 d1 f1 V' (y1.below hb) (y1.below hb) (by omega) true (Lib.hid (sameD_refl _ _)))
  have CR : ∀ V', Below W.heap.size W V' → Hid (Calls Tryd.prog 18 #[.agg #[.int .i64 d1.k, .int .i32 d1.c, .bool d1.neg, .slice d1.mA d1.mag.length d1.mcap, .string d1.t, .slice d1.lA f1.len d1.lcap], .agg #[.int .i64 d2.k, .int .i32 d2.c, .bool d2.neg, .slice d2.mA d2.mag.length d2.mcap, .string d2.t, .slice d2.lA f2.len d2.lcap]] V' fun e w' => e = .returned (.bool R) ∧ Below V'.heap.size V' w') := fun V' hb => Lib.hid (by
    have := rsame_any d1 f1 d2 f2 V' (y1.below hb) (y2.below hb)
    rw [HR.out] at this
    exact this)
  have CW : ∀ V', Below W.heap.size W V' → Hid (Calls Tryd.prog 10 #[] V' fun e w' => e = .returned (.bool true) ∧ Below V'.heap.size V' w') := fun V' hb => Lib.hid (awake_any _ (HT.out _ hb))
  have hrr : (R == R) = true := by simp
  have HW := Lib.hid hW
  have HBW := Lib.hid hbW
  have HKT := Lib.hid KT
  have pp := KT W (Below.refl _ _)
  obtain ⟨_, r1, r2, r3, r4, r5, r6, t1, t2, t3, t4, t5, t6⟩ := pp
  clear hW hx1 hx2 hT v1 v2 g1 g2 hT1 hbW hR y1 y2 k1 k2 KT K2
  go_enter Tryd.func4, Tryd.ntmps4
  go_wp2_with (go_at_call 9; rw [show (w.alloc (.cells #[.int .i64 d1.k, .int .i32 d1.c, .bool d1.neg, .slice d1.mA d1.mag.length d1.mcap, .string d1.t, .slice d1.lA f1.len d1.lcap] 27)).alloc (.cells #[.int .i64 d2.k, .int .i32 d2.c, .bool d2.neg, .slice d2.mA d2.mag.length d2.mcap, .string d2.t, .slice d2.lA f2.len d2.lcap] 27) = W from HW.out.symm]; refine (C1.out).mono ?_; rintro e x1 ⟨rfl, b1⟩; refine Hid.out ?_)
  refine Lib.hid ?_
  clear r1 r2 r3 r4 r5 r6 t1 t2 t3 t4 t5 t6
  have pp := HKT.out _ b1
  obtain ⟨_, r1, r2, r3, r4, r5, r6, t1, t2, t3, t4, t5, t6⟩ := pp
  go_wp2_with (go_at_call 9; refine (C2.out _ b1).mono ?_; rintro e x2 ⟨rfl, b2⟩; refine Hid.out ?_)
  refine Lib.hid ?_
  clear r1 r2 r3 r4 r5 r6 t1 t2 t3 t4 t5 t6
  have B0 := UP.out _ _ b1 b2
  have BRd : Below W.heap.size W x2.drew := B0.drew
  have pp := HKT.out _ B0
  obtain ⟨_, r1, r2, r3, r4, r5, r6, t1, t2, t3, t4, t5, t6⟩ := pp
  have KT := HKT.out
  clear b1 b2
  go_wp2_with fail
  go_region_held3 (fun V' => Below W.heap.size W V' ∧ V'.cell? ⟨w.heap.size, 0, none⟩ = some (.int .i64 d1.k) ∧ V'.cell? ⟨w.heap.size, 1, none⟩ = some (.int .i32 d1.c) ∧ V'.cell? ⟨w.heap.size, 2, none⟩ = some (.bool d1.neg) ∧ V'.cell? ⟨w.heap.size, 3, none⟩ = some (.slice d1.mA d1.mag.length d1.mcap) ∧ V'.cell? ⟨w.heap.size, 4, none⟩ = some (.string d1.t) ∧ V'.cell? ⟨w.heap.size, 5, none⟩ = some (.slice d1.lA f1.len d1.lcap) ∧ V'.cell? ⟨w.heap.size + 1, 0, none⟩ = some (.int .i64 d2.k) ∧ V'.cell? ⟨w.heap.size + 1, 1, none⟩ = some (.int .i32 d2.c) ∧ V'.cell? ⟨w.heap.size + 1, 2, none⟩ = some (.bool d2.neg) ∧ V'.cell? ⟨w.heap.size + 1, 3, none⟩ = some (.slice d2.mA d2.mag.length d2.mcap) ∧ V'.cell? ⟨w.heap.size + 1, 4, none⟩ = some (.string d2.t) ∧ V'.cell? ⟨w.heap.size + 1, 5, none⟩ = some (.slice d2.lA f2.len d2.lcap)) (exact KT _ (by first | assumption | exact Below.drew (by assumption)))
    (first
      | (go_at_call 19; (first
        | ((with_reducible refine ((CA _ (by assumption)).out).mono ?_); rintro e z1 ⟨rfl, c1⟩; have B1 := UP.out _ _ (by assumption) c1)
        | ((with_reducible refine ((CB _ (by assumption)).out).mono ?_); rintro e z2 ⟨rfl, c2⟩; have B2 := UP.out _ _ (by assumption) c2)
        | ((with_reducible refine ((CC _ (by assumption)).out).mono ?_); rintro e z3 ⟨rfl, c3⟩; have B3 := UP.out _ _ (by assumption) c3)))
      | (go_at_call 18; (with_reducible refine ((CR _ (by assumption)).out).mono ?_); rintro e z4 ⟨rfl, c4⟩; have B4 := UP.out _ _ (by assumption) c4)
      | (go_at_call 10; (with_reducible refine ((CW _ (by assumption)).out).mono ?_); rintro e z5 ⟨rfl, c5⟩; have B5 := UP.out _ _ (by assumption) c5))
  go_wp2_with fail
  go_ret
  exact ⟨rfl, HBW.out.trans (B5.mono HBW.out.size)⟩
end Go.Proofs.YtkffojipgphneaaDoor
