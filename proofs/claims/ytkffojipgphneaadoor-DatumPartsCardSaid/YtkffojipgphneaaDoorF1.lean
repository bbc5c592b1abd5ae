/- datum.fits. -/
import Derived.Test.YtkffojipgphneaaDoorM1
import Derived.Test.YtkffojipgphneaaDoorH1
import Derived.Shelf.Unicode.ValidAny
set_option linter.unusedVariables false
set_option linter.unusedSimpArgs false
namespace Go.Proofs.YtkffojipgphneaaDoor
open Go Go.RowKit
theorem valid_any (s : ByteArray) (w : World) (hs : s.size ≤ 140737488355328) (hT : Lib.Utf8Tabs 0 1 w) :
    Calls Tryd.prog 52 #[.string s] w fun e w' => e = .returned (.bool (Lib.validD s.data.toList)) ∧ Below w.heap.size w w' := Any.utf8_ValidString Tryd.lays196 s w (by omega) hT
theorem count_runes (s : ByteArray) (w : World) (hs : s.size ≤ 140737488355328) :
    Calls Tryd.prog 53 #[.string s] w fun e w' => e = .returned (.int .i64 (Lib.runeCount s)) ∧ Below w.heap.size w w' := (Tryd.utf8_RuneCountInString s w (by omega)).mono fun e w' ⟨h, p, hp⟩ => ⟨h, by rw [hp]; exact (Below.refl _ _).alloc (Nat.le_refl _) _⟩
theorem rune_any (r : Int) (w : World) : Calls Tryd.prog 50 #[.int .i32 r] w fun e w' => e = .returned (.bool (Lib.validRune r)) ∧ w' = w := Tryd.utf8_ValidRune r w
def mayN (ng : Bool) (mag : List Nat) : Bool := if mag.length = 0 then !ng else decide (mag.getD (mag.length - 1) 0 ≠ 0 ∧ mag.length ≤ 48)
theorem may_any (ng : Bool) (A : Option Addr) (mag : List Nat) (mc n : Nat) (w : World) (hn : mag.length = n) (G : Nat → Prop) (hm : MagAt G w A mag) (ln : n ≤ 35184372088832) :
    Calls Tryd.prog 51 #[.agg #[.bool ng, .slice A n mc]] w fun e w' => e = .returned (.bool (mayN ng mag)) ∧ Below w.heap.size w w' := by
  by_cases h0 : n = 0
  · subst h0
    rw [mayN, if_pos hn]
    exact Nm.may_nil ng A mc w
  · have hp : n - 1 < mag.length := by omega
    have hl : Nm.Lim .u32 w.heap.size w A mag := by
      intro _
      obtain ⟨ad, e, _, hc⟩ := hm 0 (by omega)
      refine ⟨ad, e, by have := cell_lt hc; rwa [add_block] at this, fun i hi => ?_⟩
      obtain ⟨ad', e', _, hc'⟩ := hm i hi
      rw [e] at e'
      cases e'
      exact hc'
    refine Nm.may_more ng A n mc mag w hl (Lib.hid hn) (by omega) ln _ (mag[n - 1]) (Lib.hid (List.getElem?_eq_getElem hp)) ?_
    have hg : mag.getD (mag.length - 1) 0 = mag[n - 1] := by
      rw [List.getD_eq_getElem?_getD]
      simp [hn, List.getElem?_eq_getElem hp]
    rw [mayN, if_neg (by omega), hg, hn]
    by_cases hz : mag[n - 1] = 0
    · exact .inl ⟨hz, by simp [hz]⟩
    · by_cases h48 : n ≤ 48
      · exact .inr (.inl ⟨by omega, h48, by simp [hz, h48]⟩)
      · exact .inr (.inr ⟨by omega, by omega, by simp [h48]⟩)
set_option maxRecDepth 100000 in
set_option maxHeartbeats 1600000 in
theorem fits_0 (c : Int) (ng : Bool) (A L : Option Addr) (mag : List Nat) (mc lc m n : Nat) (t : ByteArray) (w : World) (hn : Hid (mag.length = n)) (G : Nat → Prop) (hm : MagAt G w A mag) (ln : n ≤ 35184372088832) (lm : m ≤ 140737488355328) (B : Bool) (hB : Hid (alR 0 0 c 0 ng false t ⟨#[]⟩ m 0 mag [] = B)) :
    Calls Tryd.prog 34 #[.agg #[.int .i64 0, .int .i32 c, .bool ng, .slice A n mc, .string t, .slice L m lc]] w fun e w' => e = .returned (.bool B) ∧ Below w.heap.size w w' := by
  have hA := fun V (hk : Keep (fun _ => True) w V) => Lib.hid (alike_raw 0 0 c 0 ng false t ⟨#[]⟩ m 0 n 0 mc 0 lc 0 A none L none mag [] V hn (Lib.hid rfl) G G (hm.keep (hk.mono (fun _ _ _ => trivial))) (fun i hi => by simp at hi) ln (by decide) lm (by decide) B hB)
  have hkW : Keep (fun _ => True) w (w.alloc (.cells #[.int .i64 0, .int .i32 c, .bool ng, .slice A n mc, .string t, .slice L m lc] 27)) := (Keep.refl _ _).alloc _
  have hbW : Below w.heap.size w (w.alloc (.cells #[.int .i64 0, .int .i32 c, .bool ng, .slice A n mc, .string t, .slice L m lc] 27)) := (Below.refl _ _).alloc (Nat.le_refl _) _
  go_enter Tryd.func34, Tryd.ntmps34
  go_wp2_with (first
    | (go_at_call 37; refine ((hA _ hkW).out).mono ?_; rintro e w9 ⟨rfl, hb9⟩))
  all_goals go_ret
  all_goals exact ⟨rfl, hbW.trans (hb9.mono (by simp))⟩
set_option maxRecDepth 100000 in
set_option maxHeartbeats 1600000 in
theorem fits_1 (c : Int) (ng : Bool) (A L : Option Addr) (mag : List Nat) (mc lc m n : Nat) (t : ByteArray) (w : World) (hn : Hid (mag.length = n)) (G : Nat → Prop) (hm : MagAt G w A mag) (ln : n ≤ 35184372088832) (lm : m ≤ 140737488355328) (B : Bool) (hB : Hid (alR 1 1 c 0 ng false t ⟨#[]⟩ m 0 mag [] = B)) :
    Calls Tryd.prog 34 #[.agg #[.int .i64 1, .int .i32 c, .bool ng, .slice A n mc, .string t, .slice L m lc]] w fun e w' => e = .returned (.bool B) ∧ Below w.heap.size w w' := by
  have hA := fun V (hk : Keep (fun _ => True) w V) => Lib.hid (alike_raw 1 1 c 0 ng false t ⟨#[]⟩ m 0 n 0 mc 0 lc 0 A none L none mag [] V hn (Lib.hid rfl) G G (hm.keep (hk.mono (fun _ _ _ => trivial))) (fun i hi => by simp at hi) ln (by decide) lm (by decide) B hB)
  have hkW : Keep (fun _ => True) w (w.alloc (.cells #[.int .i64 1, .int .i32 c, .bool ng, .slice A n mc, .string t, .slice L m lc] 27)) := (Keep.refl _ _).alloc _
  have hbW : Below w.heap.size w (w.alloc (.cells #[.int .i64 1, .int .i32 c, .bool ng, .slice A n mc, .string t, .slice L m lc] 27)) := (Below.refl _ _).alloc (Nat.le_refl _) _
  go_enter Tryd.func34, Tryd.ntmps34
  go_wp2_with (first
    | (go_at_call 37; refine ((hA _ hkW).out).mono ?_; rintro e w9 ⟨rfl, hb9⟩))
  all_goals go_ret
  all_goals exact ⟨rfl, hbW.trans (hb9.mono (by simp))⟩
set_option maxRecDepth 100000 in
set_option maxHeartbeats 1600000 in
theorem fits_2 (c : Int) (ng : Bool) (A L : Option Addr) (mag : List Nat) (mc lc m n : Nat) (t : ByteArray) (w : World) (hn : Hid (mag.length = n)) (G : Nat → Prop) (hm : MagAt G w A mag) (ln : n ≤ 35184372088832) (lm : m ≤ 140737488355328) (B : Bool) (hB : Hid (alR 2 2 c 0 ng false t ⟨#[]⟩ m 0 mag [] = B)) :
    Calls Tryd.prog 34 #[.agg #[.int .i64 2, .int .i32 c, .bool ng, .slice A n mc, .string t, .slice L m lc]] w fun e w' => e = .returned (.bool B) ∧ Below w.heap.size w w' := by
  have hA := fun V (hk : Keep (fun _ => True) w V) => Lib.hid (alike_raw 2 2 c 0 ng false t ⟨#[]⟩ m 0 n 0 mc 0 lc 0 A none L none mag [] V hn (Lib.hid rfl) G G (hm.keep (hk.mono (fun _ _ _ => trivial))) (fun i hi => by simp at hi) ln (by decide) lm (by decide) B hB)
  have hkW : Keep (fun _ => True) w (w.alloc (.cells #[.int .i64 2, .int .i32 c, .bool ng, .slice A n mc, .string t, .slice L m lc] 27)) := (Keep.refl _ _).alloc _
  have hbW : Below w.heap.size w (w.alloc (.cells #[.int .i64 2, .int .i32 c, .bool ng, .slice A n mc, .string t, .slice L m lc] 27)) := (Below.refl _ _).alloc (Nat.le_refl _) _
  go_enter Tryd.func34, Tryd.ntmps34
  go_wp2_with (first
    | (go_at_call 37; refine ((hA _ hkW).out).mono ?_; rintro e w9 ⟨rfl, hb9⟩))
  all_goals go_ret
  all_goals exact ⟨rfl, hbW.trans (hb9.mono (by simp))⟩
set_option maxRecDepth 100000 in
set_option maxHeartbeats 1600000 in
theorem fits_9 (c : Int) (ng : Bool) (A L : Option Addr) (mag : List Nat) (mc lc m n : Nat) (t : ByteArray) (w : World) (hn : Hid (mag.length = n)) (G : Nat → Prop) (hm : MagAt G w A mag) (ln : n ≤ 35184372088832) (lm : m ≤ 140737488355328) (B : Bool) (hB : Hid (alR 9 9 c 0 ng false t ⟨#[]⟩ m 0 mag [] = B)) :
    Calls Tryd.prog 34 #[.agg #[.int .i64 9, .int .i32 c, .bool ng, .slice A n mc, .string t, .slice L m lc]] w fun e w' => e = .returned (.bool B) ∧ Below w.heap.size w w' := by
  have hA := fun V (hk : Keep (fun _ => True) w V) => Lib.hid (alike_raw 9 9 c 0 ng false t ⟨#[]⟩ m 0 n 0 mc 0 lc 0 A none L none mag [] V hn (Lib.hid rfl) G G (hm.keep (hk.mono (fun _ _ _ => trivial))) (fun i hi => by simp at hi) ln (by decide) lm (by decide) B hB)
  have hkW : Keep (fun _ => True) w (w.alloc (.cells #[.int .i64 9, .int .i32 c, .bool ng, .slice A n mc, .string t, .slice L m lc] 27)) := (Keep.refl _ _).alloc _
  have hbW : Below w.heap.size w (w.alloc (.cells #[.int .i64 9, .int .i32 c, .bool ng, .slice A n mc, .string t, .slice L m lc] 27)) := (Below.refl _ _).alloc (Nat.le_refl _) _
  go_enter Tryd.func34, Tryd.ntmps34
  go_wp2_with (first
    | (go_at_call 37; refine ((hA _ hkW).out).mono ?_; rintro e w9 ⟨rfl, hb9⟩))
  all_goals go_ret
  all_goals exact ⟨rfl, hbW.trans (hb9.mono (by simp))⟩
set_option maxRecDepth 100000 in
set_option maxHeartbeats 1600000 in
theorem fits_10 (c : Int) (ng : Bool) (A L : Option Addr) (mag : List Nat) (mc lc m n : Nat) (t : ByteArray) (w : World) (hn : Hid (mag.length = n)) (G : Nat → Prop) (hm : MagAt G w A mag) (ln : n ≤ 35184372088832) (lm : m ≤ 140737488355328) (B : Bool) (hB : Hid (alR 10 10 c 0 ng false t ⟨#[]⟩ m 0 mag [] = B)) :
    Calls Tryd.prog 34 #[.agg #[.int .i64 10, .int .i32 c, .bool ng, .slice A n mc, .string t, .slice L m lc]] w fun e w' => e = .returned (.bool B) ∧ Below w.heap.size w w' := by
  have hA := fun V (hk : Keep (fun _ => True) w V) => Lib.hid (alike_raw 10 10 c 0 ng false t ⟨#[]⟩ m 0 n 0 mc 0 lc 0 A none L none mag [] V hn (Lib.hid rfl) G G (hm.keep (hk.mono (fun _ _ _ => trivial))) (fun i hi => by simp at hi) ln (by decide) lm (by decide) B hB)
  have hkW : Keep (fun _ => True) w (w.alloc (.cells #[.int .i64 10, .int .i32 c, .bool ng, .slice A n mc, .string t, .slice L m lc] 27)) := (Keep.refl _ _).alloc _
  have hbW : Below w.heap.size w (w.alloc (.cells #[.int .i64 10, .int .i32 c, .bool ng, .slice A n mc, .string t, .slice L m lc] 27)) := (Below.refl _ _).alloc (Nat.le_refl _) _
  go_enter Tryd.func34, Tryd.ntmps34
  go_wp2_with (first
    | (go_at_call 37; refine ((hA _ hkW).out).mono ?_; rintro e w9 ⟨rfl, hb9⟩))
  all_goals go_ret
  all_goals exact ⟨rfl, hbW.trans (hb9.mono (by simp))⟩
set_option maxRecDepth 100000 in
set_option maxHeartbeats 1600000 in
theorem fits_other (k : Int) (c : Int) (ng : Bool) (A L : Option Addr) (mag : List Nat) (mc lc m n : Nat) (t : ByteArray) (w : World) (hn : Hid (mag.length = n)) (G : Nat → Prop) (hm : MagAt G w A mag) (ln : n ≤ 35184372088832) (lm : m ≤ 140737488355328) (h : k ≠ 0 ∧ k ≠ 1 ∧ k ≠ 2 ∧ k ≠ 3 ∧ k ≠ 4 ∧ k ≠ 5 ∧ k ≠ 6 ∧ k ≠ 7 ∧ k ≠ 8 ∧ k ≠ 9 ∧ k ≠ 10) :
    Calls Tryd.prog 34 #[.agg #[.int .i64 k, .int .i32 c, .bool ng, .slice A n mc, .string t, .slice L m lc]] w fun e w' => e = .returned (.bool false) ∧ Below w.heap.size w w' := by
  have hbW : Below w.heap.size w (w.alloc (.cells #[.int .i64 k, .int .i32 c, .bool ng, .slice A n mc, .string t, .slice L m lc] 27)) := (Below.refl _ _).alloc (Nat.le_refl _) _
  obtain ⟨h0, h1, h2, h3, h4, h5, h6, h7, h8, h9, h10⟩ := h
  have e0 : (k == 0) = false := beq_eq_false_iff_ne.2 h0
  have e1 : (k == 1) = false := beq_eq_false_iff_ne.2 h1
  have e2 : (k == 2) = false := beq_eq_false_iff_ne.2 h2
  have e3 : (k == 3) = false := beq_eq_false_iff_ne.2 h3
  have e4 : (k == 4) = false := beq_eq_false_iff_ne.2 h4
  have e5 : (k == 5) = false := beq_eq_false_iff_ne.2 h5
  have e6 : (k == 6) = false := beq_eq_false_iff_ne.2 h6
  have e7 : (k == 7) = false := beq_eq_false_iff_ne.2 h7
  have e8 : (k == 8) = false := beq_eq_false_iff_ne.2 h8
  have e9 : (k == 9) = false := beq_eq_false_iff_ne.2 h9
  have e10 : (k == 10) = false := beq_eq_false_iff_ne.2 h10
  clear h0 h1 h2 h3 h4 h5 h6 h7 h8 h9 h10
  go_enter Tryd.func34, Tryd.ntmps34
  go_wp2
  all_goals go_ret
  all_goals exact ⟨rfl, hbW⟩
end Go.Proofs.YtkffojipgphneaaDoor
