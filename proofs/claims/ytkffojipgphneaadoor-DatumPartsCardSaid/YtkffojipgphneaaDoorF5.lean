/- datum.fits: whole. -/
import Derived.Test.YtkffojipgphneaaDoorF2
import Derived.Test.YtkffojipgphneaaDoorF3
import Derived.Test.YtkffojipgphneaaDoorF4
set_option linter.unusedVariables false
set_option linter.unusedSimpArgs false
namespace Go.Proofs.YtkffojipgphneaaDoor
open Go Go.RowKit
def textB (t : ByteArray) : Bool := Lib.validD t.data.toList && decide (Lib.runeCount t ≤ 62)
def fitsR (k c : Int) (ng : Bool) (t : ByteArray) (m : Nat) (mag : List Nat) : Bool :=
  if k = 0 ∨ k = 1 ∨ k = 2 ∨ k = 9 ∨ k = 10 then alR k k c 0 ng false t ⟨#[]⟩ m 0 mag []
  else if k = 3 then Lib.validRune c && alR k k 0 0 ng false t ⟨#[]⟩ m 0 mag []
  else if k = 4 then mayN ng mag && alR k k c 0 false false t ⟨#[]⟩ m 0 [] []
  else if k = 5 then textB t && alR k k c 0 ng false ⟨#[]⟩ ⟨#[]⟩ m 0 mag []
  else if k = 6 then !t.toList.isEmpty && (textB t && alR k k c 0 ng false ⟨#[]⟩ ⟨#[]⟩ m 0 mag [])
  else if k = 7 then decide (m = 2) && alR k k c 0 ng false t ⟨#[]⟩ 0 0 mag []
  else if k = 8 then decide (m ≤ 62) && alR k k c 0 ng false t ⟨#[]⟩ 0 0 mag []
  else false
def fitsB (d : D) (m : Nat) : Bool := fitsR d.k d.c d.neg d.t m d.mag
set_option maxHeartbeats 800000 in
theorem fits_raw (k c : Int) (ng : Bool) (A L : Option Addr) (mag : List Nat) (mc lc m n : Nat) (t : ByteArray) (w : World) (hn : Hid (mag.length = n)) (G : Nat → Prop) (hm : MagAt G w A mag) (ln : n ≤ 35184372088832) (lm : m ≤ 140737488355328) (hs : t.size ≤ 140737488355328) (hT : Lib.Utf8Tabs 0 1 w) :
    Calls Tryd.prog 34 #[.agg #[.int .i64 k, .int .i32 c, .bool ng, .slice A n mc, .string t, .slice L m lc]] w fun e w' => e = .returned (.bool (fitsR k c ng t m mag)) ∧ Below w.heap.size w w' := by
  by_cases c0 : k = 0
  · subst c0; exact fits_0 c ng A L mag mc lc m n t w hn G hm ln lm _ (Lib.hid rfl)
  by_cases c1 : k = 1
  · subst c1; exact fits_1 c ng A L mag mc lc m n t w hn G hm ln lm _ (Lib.hid rfl)
  by_cases c2 : k = 2
  · subst c2; exact fits_2 c ng A L mag mc lc m n t w hn G hm ln lm _ (Lib.hid rfl)
  by_cases c9 : k = 9
  · subst c9; exact fits_9 c ng A L mag mc lc m n t w hn G hm ln lm _ (Lib.hid rfl)
  by_cases c10 : k = 10
  · subst c10; exact fits_10 c ng A L mag mc lc m n t w hn G hm ln lm _ (Lib.hid rfl)
  by_cases c3 : k = 3
  · subst c3
    have e : fitsR 3 c ng t m mag = (Lib.validRune c && alR 3 3 0 0 ng false t ⟨#[]⟩ m 0 mag []) := by unfold fitsR; rw [if_neg (by omega), if_pos rfl]
    rw [e]
    cases hr : Lib.validRune c
    · exact fits_norune c ng A L mag mc lc m n t w hn G hm ln lm (Lib.hid hr)
    · exact fits_rune c ng A L mag mc lc m n t w hn G hm ln lm _ (Lib.hid hr) (Lib.hid (Bool.true_and _).symm)
  by_cases c4 : k = 4
  · subst c4
    have e : fitsR 4 c ng t m mag = (mayN ng mag && alR 4 4 c 0 false false t ⟨#[]⟩ m 0 [] []) := by unfold fitsR; rw [if_neg (by omega), if_neg (by omega), if_pos rfl]
    rw [e]
    cases hr : mayN ng mag
    · exact fits_nonum c ng A L mag mc lc m n t w hn G hm ln lm (Lib.hid hr)
    · exact fits_num c ng A L mag mc lc m n t w hn G hm ln lm _ (Lib.hid hr) (Lib.hid (Bool.true_and _).symm)
  by_cases c5 : k = 5
  · subst c5
    have e : fitsR 5 c ng t m mag = (textB t && alR 5 5 c 0 ng false ⟨#[]⟩ ⟨#[]⟩ m 0 mag []) := by unfold fitsR; rw [if_neg (by omega), if_neg (by omega), if_neg (by omega), if_pos rfl]
    rw [e, textB]
    cases hv : Lib.validD t.data.toList
    · exact fits_str_bad c ng A L mag mc lc m n t w hn G hm ln lm hs hT (Lib.hid hv)
    · by_cases h62 : Lib.runeCount t ≤ 62
      · rw [decide_eq_true h62]
        exact fits_str c ng A L mag mc lc m n t w hn G hm ln lm hs hT (Lib.hid hv) _ (Lib.hid rfl) (by omega) _ (Lib.hid (by simp))
      · rw [decide_eq_false h62]
        exact fits_str_long c ng A L mag mc lc m n t w hn G hm ln lm hs hT (Lib.hid hv) _ (Lib.hid rfl) (by omega)
  by_cases c6 : k = 6
  · subst c6
    have e : fitsR 6 c ng t m mag = (!t.toList.isEmpty && (textB t && alR 6 6 c 0 ng false ⟨#[]⟩ ⟨#[]⟩ m 0 mag [])) := by unfold fitsR; rw [if_neg (by omega), if_neg (by omega), if_neg (by omega), if_neg (by omega), if_pos rfl]
    rw [e, textB]
    cases he : t.toList.isEmpty
    · cases hv : Lib.validD t.data.toList
      · exact fits_sym_bad c ng A L mag mc lc m n t w hn G hm ln lm he hs hT (Lib.hid hv)
      · by_cases h62 : Lib.runeCount t ≤ 62
        · rw [decide_eq_true h62]
          exact fits_sym c ng A L mag mc lc m n t w hn G hm ln lm he hs hT (Lib.hid hv) _ (Lib.hid rfl) (by omega) _ (Lib.hid (by simp))
        · rw [decide_eq_false h62]
          exact fits_sym_long c ng A L mag mc lc m n t w hn G hm ln lm he hs hT (Lib.hid hv) _ (Lib.hid rfl) (by omega)
    · exact fits_sym_none c ng A L mag mc lc m n t w hn G hm ln lm he
  by_cases c7 : k = 7
  · subst c7
    have e : fitsR 7 c ng t m mag = (decide (m = 2) && alR 7 7 c 0 ng false t ⟨#[]⟩ 0 0 mag []) := by unfold fitsR; rw [if_neg (by omega), if_neg (by omega), if_neg (by omega), if_neg (by omega), if_neg (by omega), if_pos rfl]
    rw [e]
    by_cases h2 : m = 2
    · rw [decide_eq_true h2]
      exact fits_pair c ng A L mag mc lc m n t w hn G hm ln lm (by omega) (by simp; omega) (by omega) _ (Lib.hid (Bool.true_and _).symm)
    · rw [decide_eq_false h2]
      exact fits_pair_not c ng A L mag mc lc m n t w hn G hm ln lm (by simp; omega)
  by_cases c8 : k = 8
  · subst c8
    have e : fitsR 8 c ng t m mag = (decide (m ≤ 62) && alR 8 8 c 0 ng false t ⟨#[]⟩ 0 0 mag []) := by unfold fitsR; rw [if_neg (by omega), if_neg (by omega), if_neg (by omega), if_neg (by omega), if_neg (by omega), if_neg (by omega), if_pos rfl]
    rw [e]
    by_cases h2 : m ≤ 62
    · rw [decide_eq_true h2]
      exact fits_vec c ng A L mag mc lc m n t w hn G hm ln lm (by omega) _ (Lib.hid (Bool.true_and _).symm)
    · rw [decide_eq_false h2]
      exact fits_vec_long c ng A L mag mc lc m n t w hn G hm ln lm (by omega)
  have e : fitsR k c ng t m mag = false := by
    unfold fitsR
    rw [if_neg (by omega), if_neg c3, if_neg c4, if_neg c5, if_neg c6, if_neg c7, if_neg c8]
  rw [e]
  exact fits_other k c ng A L mag mc lc m n t w hn G hm ln lm ⟨c0, c1, c2, c3, c4, c5, c6, c7, c8, c9, c10⟩
theorem fits_any (d : D) (m : Nat) (G : Nat → Prop) (w : World) (ok : d.Ok m) (hm : MagAt G w d.mA d.mag) (hT : Lib.Utf8Tabs 0 1 w) :
    Calls Tryd.prog 34 #[.agg #[.int .i64 d.k, .int .i32 d.c, .bool d.neg, .slice d.mA d.mag.length d.mcap, .string d.t, .slice d.lA m d.lcap]] w fun e w' => e = .returned (.bool (fitsB d m)) ∧ Below w.heap.size w w' :=
  fits_raw _ _ _ _ _ _ _ _ _ _ _ w (Lib.hid rfl) G hm ok.magc ok.kidc ok.text hT
end Go.Proofs.YtkffojipgphneaaDoor
