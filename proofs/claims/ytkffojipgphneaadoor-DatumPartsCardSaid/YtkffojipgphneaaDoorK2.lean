/- DatumParts: where there is too much. -/
import Derived.Test.YtkffojipgphneaaDoorW2
import Derived.Test.YtkffojipgphneaaDoorU2
import Derived.Test.YtkffojipgphneaaDoorH1
set_option linter.unusedVariables false
set_option linter.unusedSimpArgs false
namespace Go.Proofs.YtkffojipgphneaaDoor
open Go Go.RowKit
set_option maxRecDepth 100000 in
set_option maxHeartbeats 4000000 in
theorem parts_early (d1 : D) (f1 : F) (d2 : D) (f2 : F) (A : Option Addr) (n c : Nat) (w : World) (v1 : Val (fun k => k < w.heap.size) w d1 f1) (v2 : Val (fun k => k < w.heap.size) w d2 f2) (hT : Lib.Utf8Tabs 0 1 w) (hn : n ≤ 140737488355328)
    (h : heavyB d1 f1 = true ∨ (heavyB d1 f1 = false ∧ heavyB d2 f2 = true) ∨ (heavyB d1 f1 = false ∧ heavyB d2 f2 = false ∧ 50 < n)) :
    Calls Tryd.prog 7 #[.agg #[.int .i64 d1.k, .int .i32 d1.c, .bool d1.neg, .slice d1.mA d1.mag.length d1.mcap, .string d1.t, .slice d1.lA f1.len d1.lcap], .slice A n c, .agg #[.int .i64 d2.k, .int .i32 d2.c, .bool d2.neg, .slice d2.mA d2.mag.length d2.mcap, .string d2.t, .slice d2.lA f2.len d2.lcap]] w fun e w' => e = .returned (.bool true) ∧ Below w.heap.size w w' := by
  obtain ⟨W, hW⟩ : ∃ W, W = (w.alloc (six d1 f1.len)).alloc (six d2 f2.len) := ⟨_, rfl⟩
  have hbW : Below w.heap.size w W := by rw [hW]; exact ((Below.refl _ _).alloc (Nat.le_refl _) _).alloc (by simp) _
  have hx1 : W.heap[w.heap.size]? = some (six d1 f1.len) := by rw [hW]; exact (Below.heap_alloc _ _ _ (by simp)).trans (heap_alloc_new _ _)
  have hx2 : W.heap[w.heap.size + 1]? = some (six d2 f2.len) := by
    rw [hW]
    have := heap_alloc_new (w.alloc (six d1 f1.len)) (six d2 f2.len)
    rwa [World.size_alloc] at this
  have hT1 := Utf8Tabs_below hT hbW
  have C1 := Lib.hid (heavy_any d1 f1 W (v1.below hbW))
  have C2 := Lib.hid (fun V (hb : Below W.heap.size W V) => heavy_any d2 f2 V ((v2.below hbW).below hb))
  have K2 := Lib.hid (fun V (hb : Below W.heap.size W V) => Node.of_six ((hb.block _ (Array.getElem?_eq_some_iff.1 hx2).1).trans hx2))
  have ⟨n1, n2, n3, n4, n5, n6⟩ := Node.of_six hx1
  simp only [Nat.zero_add] at n1 n2 n3 n4 n5 n6
  have HW := Lib.hid hW
  clear hW hx1 hx2 hT v1 v2
  rcases h with h | ⟨h, g⟩ | ⟨h, g, hl⟩
  · rw [h] at C1
    clear h
    go_enter Tryd.func7, Tryd.ntmps7
    go_wp2_with (first
      | (go_at_call 9; rw [show (w.alloc (.cells #[.int .i64 d1.k, .int .i32 d1.c, .bool d1.neg, .slice d1.mA d1.mag.length d1.mcap, .string d1.t, .slice d1.lA f1.len d1.lcap] 27)).alloc (.cells #[.int .i64 d2.k, .int .i32 d2.c, .bool d2.neg, .slice d2.mA d2.mag.length d2.mcap, .string d2.t, .slice d2.lA f2.len d2.lcap] 27) = W from HW.out.symm]; refine (C1.out).mono ?_; rintro e w1 ⟨rfl, b1⟩)
      | (go_at_call 10; refine (awake_any _ (Utf8Tabs_below hT1 b1)).mono ?_; rintro e w2 ⟨rfl, b2⟩))
    go_ret
    exact ⟨rfl, hbW.trans ((b1.trans (b2.mono b1.size)).mono hbW.size)⟩
  all_goals
    rw [h] at C1
    rw [g] at C2
    clear h g
    go_enter Tryd.func7, Tryd.ntmps7
    go_wp2_with (go_at_call 9; rw [show (w.alloc (.cells #[.int .i64 d1.k, .int .i32 d1.c, .bool d1.neg, .slice d1.mA d1.mag.length d1.mcap, .string d1.t, .slice d1.lA f1.len d1.lcap] 27)).alloc (.cells #[.int .i64 d2.k, .int .i32 d2.c, .bool d2.neg, .slice d2.mA d2.mag.length d2.mcap, .string d2.t, .slice d2.lA f2.len d2.lcap] 27) = W from HW.out.symm]; refine (C1.out).mono ?_; rintro e w1 ⟨rfl, b1⟩; refine Hid.out ?_)
    refine Lib.hid ?_
    have ⟨m1, m2, m3, m4, m5, m6⟩ := K2.out _ b1
    simp only [Nat.zero_add] at m1 m2 m3 m4 m5 m6
    go_wp2_with (first
      | (go_at_call 9; refine (C2.out _ b1).mono ?_; rintro e w2 ⟨rfl, b2⟩)
      | (go_at_call 10; refine (awake_any _ (Utf8Tabs_below (Utf8Tabs_below hT1 b1) b2)).mono ?_; rintro e w3 ⟨rfl, b3⟩))
    go_ret
    have hb := b1.trans ((b2.trans (b3.mono b2.size)).mono b1.size)
    exact ⟨rfl, hbW.trans (hb.mono hbW.size)⟩
end Go.Proofs.YtkffojipgphneaaDoor
