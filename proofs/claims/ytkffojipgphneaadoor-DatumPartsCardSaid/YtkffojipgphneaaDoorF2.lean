/- datum.fits, on. -/
import Derived.Test.YtkffojipgphneaaDoorF1
set_option linter.unusedVariables false
set_option linter.unusedSimpArgs false
namespace Go.Proofs.YtkffojipgphneaaDoor
open Go Go.RowKit
set_option maxRecDepth 100000 in
set_option maxHeartbeats 1600000 in
theorem fits_rune (c : Int) (ng : Bool) (A L : Option Addr) (mag : List Nat) (mc lc m n : Nat) (t : ByteArray) (w : World) (hn : Hid (mag.length = n)) (G : Nat → Prop) (hm : MagAt G w A mag) (ln : n ≤ 35184372088832) (lm : m ≤ 140737488355328) (B : Bool) (hr : Hid (Lib.validRune c = true)) (hB : Hid (alR 3 3 0 0 ng false t ⟨#[]⟩ m 0 mag [] = B)) :
    Calls Tryd.prog 34 #[.agg #[.int .i64 3, .int .i32 c, .bool ng, .slice A n mc, .string t, .slice L m lc]] w fun e w' => e = .returned (.bool B) ∧ Below w.heap.size w w' := by
  have hA := fun V (hk : Keep (fun _ => True) w V) => Lib.hid (alike_raw 3 3 0 0 ng false t ⟨#[]⟩ m 0 n 0 mc 0 lc 0 A none L none mag [] V hn (Lib.hid rfl) G G (hm.keep (hk.mono (fun _ _ _ => trivial))) (fun i hi => by simp at hi) ln (by decide) lm (by decide) B hB)
  have hR := fun V => Lib.hid (rune_any c V)
  rw [hr.out] at hR
  have hkW : Keep (fun _ => True) w (w.alloc (.cells #[.int .i64 3, .int .i32 c, .bool ng, .slice A n mc, .string t, .slice L m lc] 27)) := (Keep.refl _ _).alloc _
  have hbW : Below w.heap.size w (w.alloc (.cells #[.int .i64 3, .int .i32 c, .bool ng, .slice A n mc, .string t, .slice L m lc] 27)) := (Below.refl _ _).alloc (Nat.le_refl _) _
  go_enter Tryd.func34, Tryd.ntmps34
  go_wp2_with (first
    | (go_at_call 50; refine ((hR _).out).mono ?_; rintro e w1 ⟨rfl, rfl⟩)
    | (go_at_call 37; refine ((hA _ (by first | exact hkW | exact (Keep.refl _ _).alloc _ | exact hkW.setCell _ (.inr (Nat.le_refl _)) | exact (hkW.trans (Keep.any hb1)).setCell _ (.inr (Nat.le_refl _)) | exact (((hkW.trans (Keep.any hb1)).trans (Keep.any hb2))).setCell _ (.inr (Nat.le_refl _)) | exact ((hkW.trans (Keep.any hb1)).setCell _ (.inr (Nat.le_refl _))).setCell _ (.inr (Nat.le_refl _)))).out).mono ?_; rintro e w9 ⟨rfl, hb9⟩))
  all_goals go_ret
  all_goals exact ⟨rfl, ((Below.refl w.heap.size w).alloc (Nat.le_refl _) _).trans (hb9.mono (by simp))⟩
set_option maxRecDepth 100000 in
set_option maxHeartbeats 1600000 in
theorem fits_norune (c : Int) (ng : Bool) (A L : Option Addr) (mag : List Nat) (mc lc m n : Nat) (t : ByteArray) (w : World) (hn : Hid (mag.length = n)) (G : Nat → Prop) (hm : MagAt G w A mag) (ln : n ≤ 35184372088832) (lm : m ≤ 140737488355328) (hr : Hid (Lib.validRune c = false)) :
    Calls Tryd.prog 34 #[.agg #[.int .i64 3, .int .i32 c, .bool ng, .slice A n mc, .string t, .slice L m lc]] w fun e w' => e = .returned (.bool false) ∧ Below w.heap.size w w' := by
  have hR := fun V => Lib.hid (rune_any c V)
  rw [hr.out] at hR
  have hkW : Keep (fun _ => True) w (w.alloc (.cells #[.int .i64 3, .int .i32 c, .bool ng, .slice A n mc, .string t, .slice L m lc] 27)) := (Keep.refl _ _).alloc _
  have hbW : Below w.heap.size w (w.alloc (.cells #[.int .i64 3, .int .i32 c, .bool ng, .slice A n mc, .string t, .slice L m lc] 27)) := (Below.refl _ _).alloc (Nat.le_refl _) _
  go_enter Tryd.func34, Tryd.ntmps34
  go_wp2_with (first
    | (go_at_call 50; refine ((hR _).out).mono ?_; rintro e w1 ⟨rfl, rfl⟩))
  all_goals go_ret
  all_goals exact ⟨rfl, ((Below.refl w.heap.size w).alloc (Nat.le_refl _) _)⟩
set_option maxRecDepth 100000 in
set_option maxHeartbeats 1600000 in
theorem fits_num (c : Int) (ng : Bool) (A L : Option Addr) (mag : List Nat) (mc lc m n : Nat) (t : ByteArray) (w : World) (hn : Hid (mag.length = n)) (G : Nat → Prop) (hm : MagAt G w A mag) (ln : n ≤ 35184372088832) (lm : m ≤ 140737488355328) (B : Bool) (hr : Hid (mayN ng mag = true)) (hB : Hid (alR 4 4 c 0 false false t ⟨#[]⟩ m 0 [] [] = B)) :
    Calls Tryd.prog 34 #[.agg #[.int .i64 4, .int .i32 c, .bool ng, .slice A n mc, .string t, .slice L m lc]] w fun e w' => e = .returned (.bool B) ∧ Below w.heap.size w w' := by
  have hA := fun V (hk : Keep (fun _ => True) w V) => Lib.hid (alike_raw 4 4 c 0 false false t ⟨#[]⟩ m 0 0 0 0 0 lc 0 none none L none [] [] V (Lib.hid rfl) (Lib.hid rfl) G G (fun i hi => by simp at hi) (fun i hi => by simp at hi) (by decide) (by decide) lm (by decide) B hB)
  have hM := fun V (hk : Keep (fun _ => True) w V) => Lib.hid (may_any ng A mag mc n V hn.out G (hm.keep (hk.mono (fun _ _ _ => trivial))) ln)
  rw [hr.out] at hM
  have hkW : Keep (fun _ => True) w (w.alloc (.cells #[.int .i64 4, .int .i32 c, .bool ng, .slice A n mc, .string t, .slice L m lc] 27)) := (Keep.refl _ _).alloc _
  have hbW : Below w.heap.size w (w.alloc (.cells #[.int .i64 4, .int .i32 c, .bool ng, .slice A n mc, .string t, .slice L m lc] 27)) := (Below.refl _ _).alloc (Nat.le_refl _) _
  go_enter Tryd.func34, Tryd.ntmps34
  go_wp2_with (first
    | (go_at_call 51; refine ((hM _ hkW).out).mono ?_; rintro e w1 ⟨rfl, hb1⟩; have hr1 := (hb1.block w.heap.size (by simp)).trans (heap_alloc_new w (.cells #[.int .i64 4, .int .i32 c, .bool ng, .slice A n mc, .string t, .slice L m lc] 27)); have z1_0 : w1.cell? ⟨w.heap.size, 0, none⟩ = some (.int .i64 4) := (by simp [World.cell?, hr1]); have y1_0 : w1.frozen? ⟨w.heap.size, 0, none⟩ = false := (by simp [World.frozen?, hr1]); have z1_1 : w1.cell? ⟨w.heap.size, 1, none⟩ = some (.int .i32 c) := (by simp [World.cell?, hr1]); have y1_1 : w1.frozen? ⟨w.heap.size, 1, none⟩ = false := (by simp [World.frozen?, hr1]); have z1_2 : w1.cell? ⟨w.heap.size, 2, none⟩ = some (.bool ng) := (by simp [World.cell?, hr1]); have y1_2 : w1.frozen? ⟨w.heap.size, 2, none⟩ = false := (by simp [World.frozen?, hr1]); have z1_3 : w1.cell? ⟨w.heap.size, 3, none⟩ = some (.slice A n mc) := (by simp [World.cell?, hr1]); have y1_3 : w1.frozen? ⟨w.heap.size, 3, none⟩ = false := (by simp [World.frozen?, hr1]); have z1_4 : w1.cell? ⟨w.heap.size, 4, none⟩ = some (.string t) := (by simp [World.cell?, hr1]); have y1_4 : w1.frozen? ⟨w.heap.size, 4, none⟩ = false := (by simp [World.frozen?, hr1]); have z1_5 : w1.cell? ⟨w.heap.size, 5, none⟩ = some (.slice L m lc) := (by simp [World.cell?, hr1]); have y1_5 : w1.frozen? ⟨w.heap.size, 5, none⟩ = false := (by simp [World.frozen?, hr1]))
    | (go_at_call 37; refine ((hA _ (by first | exact hkW | exact (Keep.refl _ _).alloc _ | exact hkW.setCell _ (.inr (Nat.le_refl _)) | exact (hkW.trans (Keep.any hb1)).setCell _ (.inr (Nat.le_refl _)) | exact (((hkW.trans (Keep.any hb1)).trans (Keep.any hb2))).setCell _ (.inr (Nat.le_refl _)) | exact ((hkW.trans (Keep.any hb1)).setCell _ (.inr (Nat.le_refl _))).setCell _ (.inr (Nat.le_refl _)))).out).mono ?_; rintro e w9 ⟨rfl, hb9⟩))
  all_goals go_ret
  all_goals exact ⟨rfl, (((hbW.trans (hb1.mono (by simp))).setCell (p := ⟨w.heap.size, 2, none⟩) (Nat.le_refl _) _).setCell (p := ⟨w.heap.size, 3, none⟩) (Nat.le_refl _) _).trans (hb9.mono (by have := hb1.size; simp at this ⊢; omega))⟩
set_option maxRecDepth 100000 in
set_option maxHeartbeats 1600000 in
theorem fits_nonum (c : Int) (ng : Bool) (A L : Option Addr) (mag : List Nat) (mc lc m n : Nat) (t : ByteArray) (w : World) (hn : Hid (mag.length = n)) (G : Nat → Prop) (hm : MagAt G w A mag) (ln : n ≤ 35184372088832) (lm : m ≤ 140737488355328) (hr : Hid (mayN ng mag = false)) :
    Calls Tryd.prog 34 #[.agg #[.int .i64 4, .int .i32 c, .bool ng, .slice A n mc, .string t, .slice L m lc]] w fun e w' => e = .returned (.bool false) ∧ Below w.heap.size w w' := by
  have hM := fun V (hk : Keep (fun _ => True) w V) => Lib.hid (may_any ng A mag mc n V hn.out G (hm.keep (hk.mono (fun _ _ _ => trivial))) ln)
  rw [hr.out] at hM
  have hkW : Keep (fun _ => True) w (w.alloc (.cells #[.int .i64 4, .int .i32 c, .bool ng, .slice A n mc, .string t, .slice L m lc] 27)) := (Keep.refl _ _).alloc _
  have hbW : Below w.heap.size w (w.alloc (.cells #[.int .i64 4, .int .i32 c, .bool ng, .slice A n mc, .string t, .slice L m lc] 27)) := (Below.refl _ _).alloc (Nat.le_refl _) _
  go_enter Tryd.func34, Tryd.ntmps34
  go_wp2_with (first
    | (go_at_call 51; refine ((hM _ hkW).out).mono ?_; rintro e w1 ⟨rfl, hb1⟩; have hr1 := (hb1.block w.heap.size (by simp)).trans (heap_alloc_new w (.cells #[.int .i64 4, .int .i32 c, .bool ng, .slice A n mc, .string t, .slice L m lc] 27)); have z1_0 : w1.cell? ⟨w.heap.size, 0, none⟩ = some (.int .i64 4) := (by simp [World.cell?, hr1]); have y1_0 : w1.frozen? ⟨w.heap.size, 0, none⟩ = false := (by simp [World.frozen?, hr1]); have z1_1 : w1.cell? ⟨w.heap.size, 1, none⟩ = some (.int .i32 c) := (by simp [World.cell?, hr1]); have y1_1 : w1.frozen? ⟨w.heap.size, 1, none⟩ = false := (by simp [World.frozen?, hr1]); have z1_2 : w1.cell? ⟨w.heap.size, 2, none⟩ = some (.bool ng) := (by simp [World.cell?, hr1]); have y1_2 : w1.frozen? ⟨w.heap.size, 2, none⟩ = false := (by simp [World.frozen?, hr1]); have z1_3 : w1.cell? ⟨w.heap.size, 3, none⟩ = some (.slice A n mc) := (by simp [World.cell?, hr1]); have y1_3 : w1.frozen? ⟨w.heap.size, 3, none⟩ = false := (by simp [World.frozen?, hr1]); have z1_4 : w1.cell? ⟨w.heap.size, 4, none⟩ = some (.string t) := (by simp [World.cell?, hr1]); have y1_4 : w1.frozen? ⟨w.heap.size, 4, none⟩ = false := (by simp [World.frozen?, hr1]); have z1_5 : w1.cell? ⟨w.heap.size, 5, none⟩ = some (.slice L m lc) := (by simp [World.cell?, hr1]); have y1_5 : w1.frozen? ⟨w.heap.size, 5, none⟩ = false := (by simp [World.frozen?, hr1])))
  all_goals go_ret
  all_goals exact ⟨rfl, ((hbW.trans (hb1.mono (by simp))).setCell (p := ⟨w.heap.size, 2, none⟩) (Nat.le_refl _) _).setCell (p := ⟨w.heap.size, 3, none⟩) (Nat.le_refl _) _⟩
end Go.Proofs.YtkffojipgphneaaDoor
