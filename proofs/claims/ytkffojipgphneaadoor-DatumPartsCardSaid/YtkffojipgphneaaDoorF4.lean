/- datum.fits, on. -/
import Derived.Test.YtkffojipgphneaaDoorF1
set_option linter.unusedVariables false
set_option linter.unusedSimpArgs false
namespace Go.Proofs.YtkffojipgphneaaDoor
open Go Go.RowKit
set_option maxRecDepth 100000 in
set_option maxHeartbeats 1600000 in
theorem fits_vec (c : Int) (ng : Bool) (A L : Option Addr) (mag : List Nat) (mc lc m n : Nat) (t : ByteArray) (w : World) (hn : Hid (mag.length = n)) (G : Nat → Prop) (hm : MagAt G w A mag) (ln : n ≤ 35184372088832) (lm : m ≤ 140737488355328) (h62 : (m : Int) ≤ 62) (B : Bool) (hB : Hid (alR 8 8 c 0 ng false t ⟨#[]⟩ 0 0 mag [] = B)) :
    Calls Tryd.prog 34 #[.agg #[.int .i64 8, .int .i32 c, .bool ng, .slice A n mc, .string t, .slice L m lc]] w fun e w' => e = .returned (.bool B) ∧ Below w.heap.size w w' := by
  have hA := fun V (hk : Keep (fun _ => True) w V) => Lib.hid (alike_raw 8 8 c 0 ng false t ⟨#[]⟩ 0 0 n 0 mc 0 0 0 A none none none mag [] V hn (Lib.hid rfl) G G (hm.keep (hk.mono (fun _ _ _ => trivial))) (fun i hi => by simp at hi) ln (by decide) (by decide) (by decide) B hB)
  have hkW : Keep (fun _ => True) w (w.alloc (.cells #[.int .i64 8, .int .i32 c, .bool ng, .slice A n mc, .string t, .slice L m lc] 27)) := (Keep.refl _ _).alloc _
  have hbW : Below w.heap.size w (w.alloc (.cells #[.int .i64 8, .int .i32 c, .bool ng, .slice A n mc, .string t, .slice L m lc] 27)) := (Below.refl _ _).alloc (Nat.le_refl _) _
  go_enter Tryd.func34, Tryd.ntmps34
  go_wp2_with (first
    | (go_at_call 37; refine ((hA _ (by first | exact hkW | exact (Keep.refl _ _).alloc _ | exact hkW.setCell _ (.inr (Nat.le_refl _)) | exact (hkW.trans (Keep.any hb1)).setCell _ (.inr (Nat.le_refl _)) | exact (((hkW.trans (Keep.any hb1)).trans (Keep.any hb2))).setCell _ (.inr (Nat.le_refl _)) | exact ((hkW.trans (Keep.any hb1)).setCell _ (.inr (Nat.le_refl _))).setCell _ (.inr (Nat.le_refl _)))).out).mono ?_; rintro e w9 ⟨rfl, hb9⟩))
  all_goals go_ret
  all_goals exact ⟨rfl, ((Below.refl w.heap.size w).alloc (Nat.le_refl _) _).trans (hb9.mono (by simp))⟩
set_option maxRecDepth 100000 in
set_option maxHeartbeats 1600000 in
theorem fits_vec_long (c : Int) (ng : Bool) (A L : Option Addr) (mag : List Nat) (mc lc m n : Nat) (t : ByteArray) (w : World) (hn : Hid (mag.length = n)) (G : Nat → Prop) (hm : MagAt G w A mag) (ln : n ≤ 35184372088832) (lm : m ≤ 140737488355328) (h62 : 62 < (m : Int))  :
    Calls Tryd.prog 34 #[.agg #[.int .i64 8, .int .i32 c, .bool ng, .slice A n mc, .string t, .slice L m lc]] w fun e w' => e = .returned (.bool false) ∧ Below w.heap.size w w' := by
  have hkW : Keep (fun _ => True) w (w.alloc (.cells #[.int .i64 8, .int .i32 c, .bool ng, .slice A n mc, .string t, .slice L m lc] 27)) := (Keep.refl _ _).alloc _
  have hbW : Below w.heap.size w (w.alloc (.cells #[.int .i64 8, .int .i32 c, .bool ng, .slice A n mc, .string t, .slice L m lc] 27)) := (Below.refl _ _).alloc (Nat.le_refl _) _
  go_enter Tryd.func34, Tryd.ntmps34
  go_wp2
  all_goals go_ret
  all_goals exact ⟨rfl, ((Below.refl w.heap.size w).alloc (Nat.le_refl _) _)⟩
set_option maxRecDepth 100000 in
set_option maxHeartbeats 1600000 in
theorem fits_pair (c : Int) (ng : Bool) (A L : Option Addr) (mag : List Nat) (mc lc m n : Nat) (t : ByteArray) (w : World) (hn : Hid (mag.length = n)) (G : Nat → Prop) (hm : MagAt G w A mag) (ln : n ≤ 35184372088832) (lm : m ≤ 140737488355328) (h2 : (m : Int) = 2) (h2b : ((m : Int) == 2) = true) (h62 : (m : Int) ≤ 62) (B : Bool) (hB : Hid (alR 7 7 c 0 ng false t ⟨#[]⟩ 0 0 mag [] = B)) :
    Calls Tryd.prog 34 #[.agg #[.int .i64 7, .int .i32 c, .bool ng, .slice A n mc, .string t, .slice L m lc]] w fun e w' => e = .returned (.bool B) ∧ Below w.heap.size w w' := by
  have hA := fun V (hk : Keep (fun _ => True) w V) => Lib.hid (alike_raw 7 7 c 0 ng false t ⟨#[]⟩ 0 0 n 0 mc 0 0 0 A none none none mag [] V hn (Lib.hid rfl) G G (hm.keep (hk.mono (fun _ _ _ => trivial))) (fun i hi => by simp at hi) ln (by decide) (by decide) (by decide) B hB)
  have hkW : Keep (fun _ => True) w (w.alloc (.cells #[.int .i64 7, .int .i32 c, .bool ng, .slice A n mc, .string t, .slice L m lc] 27)) := (Keep.refl _ _).alloc _
  have hbW : Below w.heap.size w (w.alloc (.cells #[.int .i64 7, .int .i32 c, .bool ng, .slice A n mc, .string t, .slice L m lc] 27)) := (Below.refl _ _).alloc (Nat.le_refl _) _
  go_enter Tryd.func34, Tryd.ntmps34
  go_wp2_with (first
    | (go_at_call 37; refine ((hA _ (by first | exact hkW | exact (Keep.refl _ _).alloc _ | exact hkW.setCell _ (.inr (Nat.le_refl _)) | exact (hkW.trans (Keep.any hb1)).setCell _ (.inr (Nat.le_refl _)) | exact (((hkW.trans (Keep.any hb1)).trans (Keep.any hb2))).setCell _ (.inr (Nat.le_refl _)) | exact ((hkW.trans (Keep.any hb1)).setCell _ (.inr (Nat.le_refl _))).setCell _ (.inr (Nat.le_refl _)))).out).mono ?_; rintro e w9 ⟨rfl, hb9⟩))
  all_goals go_ret
  all_goals exact ⟨rfl, ((Below.refl w.heap.size w).alloc (Nat.le_refl _) _).trans (hb9.mono (by simp))⟩
set_option maxRecDepth 100000 in
set_option maxHeartbeats 1600000 in
theorem fits_pair_not (c : Int) (ng : Bool) (A L : Option Addr) (mag : List Nat) (mc lc m n : Nat) (t : ByteArray) (w : World) (hn : Hid (mag.length = n)) (G : Nat → Prop) (hm : MagAt G w A mag) (ln : n ≤ 35184372088832) (lm : m ≤ 140737488355328) (h2 : ((m : Int) == 2) = false)  :
    Calls Tryd.prog 34 #[.agg #[.int .i64 7, .int .i32 c, .bool ng, .slice A n mc, .string t, .slice L m lc]] w fun e w' => e = .returned (.bool false) ∧ Below w.heap.size w w' := by
  have hkW : Keep (fun _ => True) w (w.alloc (.cells #[.int .i64 7, .int .i32 c, .bool ng, .slice A n mc, .string t, .slice L m lc] 27)) := (Keep.refl _ _).alloc _
  have hbW : Below w.heap.size w (w.alloc (.cells #[.int .i64 7, .int .i32 c, .bool ng, .slice A n mc, .string t, .slice L m lc] 27)) := (Below.refl _ _).alloc (Nat.le_refl _) _
  go_enter Tryd.func34, Tryd.ntmps34
  go_wp2
  all_goals go_ret
  all_goals exact ⟨rfl, ((Below.refl w.heap.size w).alloc (Nat.le_refl _) _)⟩
end Go.Proofs.YtkffojipgphneaaDoor
