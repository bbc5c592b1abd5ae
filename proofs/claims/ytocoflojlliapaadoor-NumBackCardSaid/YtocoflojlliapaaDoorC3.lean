import Derived.Test.YtocoflojlliapaaDoorC2
set_option linter.unusedVariables false
namespace Go.Proofs.YtocoflojlliapaaDoor
open Go.RowKit
/-- a number's value -/
def sg (neg : Bool) (N : Nat) : Int := if neg then -(N : Int) else N
def cmpI (x y : Int) : Int := if x < y then -1 else if y < x then 1 else 0
theorem cmpI_lt {x y : Int} (h : x < y) : cmpI x y = -1 := by unfold cmpI; rw [if_pos h]
theorem cmpI_gt {x y : Int} (h : y < x) : cmpI x y = 1 := by unfold cmpI; rw [if_neg (by omega), if_pos h]
theorem cmpI_eq {x y : Int} (h : x = y) : cmpI x y = 0 := by unfold cmpI; rw [if_neg (by omega), if_neg (by omega)]
theorem sg_zero (neg : Bool) : sg neg 0 = 0 := by cases neg <;> simp [sg]
theorem sg_true (N : Nat) : sg true N = -(N : Int) := by simp [sg]
theorem sg_false (N : Nat) : sg false N = N := by simp [sg]
theorem sg_signB (neg : Bool) (N : Nat) : sg (signB neg N) N = sg neg N := by
  by_cases h : N = 0
  · subst h
    rw [sg_zero, sg_zero]
  · rw [signB_pos neg h]
set_option maxHeartbeats 800000 in
theorem sign_any (neg : Bool) (A : Option Addr) (n c N : Nat) (w : World) (h : Mag w A n c N) (hl : n ≤ 35184372088832) :
    Calls Tryd.prog 27 #[.agg #[.bool neg, .slice A n c]] w fun e w' => e = .returned (.int .i64 (cmpI (sg neg N) 0)) ∧ w.alloc (.cells #[.bool neg, .slice A n c] 24) = w' := by
  have hm := h.alloc (.cells #[.bool neg, .slice A n c] 24)
  by_cases h0 : N = 0
  · subst h0
    have F : Hid (cmpI (sg neg 0) 0 = 0) := Lib.hid (cmpI_eq (sg_zero neg))
    have hd : dl 0 = 0 := dl_zero
    go_enter Tryd.func27, Tryd.ntmps27
    go_wp2_with (go_at_call 54; refine (trim_mag A n c 0 _ hm hl).mono ?_; rintro e w' ⟨rfl, rfl⟩)
    go_ret
    rw [F.out]
    exact ⟨rfl, rfl⟩
  · have hp := dl_pos h0
    have hd : ((dl N : Int) == 0) = false := beq_eq_false_iff_ne.2 (by omega)
    cases neg
    · have F : Hid (cmpI (sg false N) 0 = 1) := Lib.hid (cmpI_gt (by rw [sg_false]; omega))
      go_enter Tryd.func27, Tryd.ntmps27
      go_wp2_with (go_at_call 54; refine (trim_mag A n c N _ hm hl).mono ?_; rintro e w' ⟨rfl, rfl⟩)
      go_ret
      rw [F.out]
      exact ⟨rfl, rfl⟩
    · have F : Hid (cmpI (sg true N) 0 = -1) := Lib.hid (cmpI_lt (by rw [sg_true]; omega))
      go_enter Tryd.func27, Tryd.ntmps27
      go_wp2_with (go_at_call 54; refine (trim_mag A n c N _ hm hl).mono ?_; rintro e w' ⟨rfl, rfl⟩)
      go_ret
      rw [F.out]
      exact ⟨rfl, rfl⟩
theorem below_al {w w1 : World} (hb : Below w.heap.size w w1) (o : Obj) : Below w.heap.size w (w1.alloc o) := hb.alloc hb.size o
theorem signed_any (neg : Bool) (w : World) :
    Calls Tryd.prog 52 #[.bool neg] w fun e w' => e = .returned (.func (Fn.func 79) #[] #[.pointer (some ⟨w.heap.size, 0, none⟩)]) ∧ w.alloc (.cells #[.bool neg] 4) = w' := by
  go_enter Tryd.func52, Tryd.ntmps52
  go_wp2
  go_ret
  exact ⟨rfl, rfl⟩
theorem cmpI_sign (x : Int) : cmpI x 0 = -1 ∧ x < 0 ∨ cmpI x 0 = 0 ∧ x = 0 ∨ cmpI x 0 = 1 ∧ 0 < x := by
  rcases Int.lt_trichotomy x 0 with h | h | h
  · exact .inl ⟨cmpI_lt h, h⟩
  · exact .inr (.inl ⟨cmpI_eq h, h⟩)
  · exact .inr (.inr ⟨cmpI_gt h, h⟩)
theorem cmp_same (na nb : Bool) (a b : Nat) (h : cmpI (sg na a) 0 = cmpI (sg nb b) 0) : cmpI (sg na a) 0 * cmpN a b = cmpI (sg na a) (sg nb b) := by
  rcases cmpI_sign (sg na a) with ⟨h1, h2⟩ | ⟨h1, h2⟩ | ⟨h1, h2⟩ <;> rcases cmpI_sign (sg nb b) with ⟨h3, h4⟩ | ⟨h3, h4⟩ | ⟨h3, h4⟩ <;> rw [h1] <;> rw [h1, h3] at h <;> try omega
  · have ea : sg na a = -(a : Int) := by
      cases na
      · rw [sg_false] at h2; omega
      · exact sg_true a
    have eb : sg nb b = -(b : Int) := by
      cases nb
      · rw [sg_false] at h4; omega
      · exact sg_true b
    rw [ea, eb]
    unfold cmpI cmpN
    split <;> split <;> (try split) <;> (try split) <;> omega
  · rw [h2, h4]
    simp [cmpI]
  · have ea : sg na a = (a : Int) := by
      cases na
      · exact sg_false a
      · rw [sg_true] at h2; omega
    have eb : sg nb b = (b : Int) := by
      cases nb
      · exact sg_false b
      · rw [sg_true] at h4; omega
    rw [ea, eb]
    unfold cmpI cmpN
    split <;> split <;> (try split) <;> (try split) <;> omega
theorem cmp_less (x y : Int) (h : cmpI x 0 < cmpI y 0) : cmpI x y = -1 := by
  rcases cmpI_sign x with ⟨h1, h2⟩ | ⟨h1, h2⟩ | ⟨h1, h2⟩ <;> rcases cmpI_sign y with ⟨h3, h4⟩ | ⟨h3, h4⟩ | ⟨h3, h4⟩ <;> first | (exact cmpI_lt (by omega)) | omega
theorem cmp_more (x y : Int) (h : cmpI y 0 < cmpI x 0) : cmpI x y = 1 := by
  rcases cmpI_sign x with ⟨h1, h2⟩ | ⟨h1, h2⟩ | ⟨h1, h2⟩ <;> rcases cmpI_sign y with ⟨h3, h4⟩ | ⟨h3, h4⟩ | ⟨h3, h4⟩ <;> first | (exact cmpI_gt (by omega)) | omega
theorem cmpI_bd (x y : Int) : -1 ≤ cmpI x y ∧ cmpI x y ≤ 1 := by unfold cmpI; split <;> (try split) <;> omega
theorem boxes2 (w : World) (a b : Value) (t : TypeId) (a' b' : Value) : Two ((w.alloc (.cells #[a, b] t)).alloc (.cells #[a', b'] t)) w.heap.size t a b ∧ Two ((w.alloc (.cells #[a, b] t)).alloc (.cells #[a', b'] t)) (w.heap.size + 1) t a' b' := by
  refine ⟨(Two.made w t a b).alloc _, ?_⟩
  have := Two.made (w.alloc (.cells #[a, b] t)) t a' b'
  simpa using this
set_option maxHeartbeats 1600000 in
theorem cmp_any (na nb : Bool) (A1 A2 : Option Addr) (n1 c1 a n2 c2 b : Nat) (w : World) (h1 : Mag w A1 n1 c1 a) (h2 : Mag w A2 n2 c2 b) (l1 : n1 ≤ 1000000) (l2 : n2 ≤ 1000000) :
    Calls Tryd.prog 31 #[.agg #[.bool na, .slice A1 n1 c1], .agg #[.bool nb, .slice A2 n2 c2]] w fun e w' => e = .returned (.int .i64 (cmpI (sg na a) (sg nb b))) ∧ Below w.heap.size w w' := by
  have da : dl a ≤ 1000000 := Nat.le_trans h1.le l1
  have db : dl b ≤ 1000000 := Nat.le_trans h2.le l2
  have hW : ∃ W, W = ((w.alloc (.cells #[.bool na, .slice A1 n1 c1] 24)).alloc (.cells #[.bool nb, .slice A2 n2 c2] 24)) := ⟨_, rfl⟩
  have s1 := fun W h => sign_any na A1 n1 c1 a W h (by omega)
  have s2 := fun W h => sign_any nb A2 n2 c2 b W h (by omega)
  have S1 : ∀ W, Mag W A1 n1 c1 a → Hid _ := fun W h => Lib.hid (s1 W h)
  have S2 : ∀ W, Mag W A2 n2 c2 b → Hid _ := fun W h => Lib.hid (s2 W h)
  clear s1 s2 hW
  rcases Int.lt_trichotomy (cmpI (sg na a) 0) (cmpI (sg nb b) 0) with h | h | h
  · have F := Lib.hid (cmp_less _ _ h)
    go_enter Tryd.func31, Tryd.ntmps31
    go_wp2_with (go_at_call 27; (first | (with_reducible refine ((S1 _ ((h1.alloc _).alloc _)).out).mono ?_) | (with_reducible refine ((S2 _ (((h2.alloc _).alloc _).alloc _)).out).mono ?_)); rintro e w' ⟨rfl, rfl⟩)
    go_ret
    rw [F.out]
    exact ⟨rfl, below_al (below_al (below_al (below_al (Below.refl _ _) _) _) _) _⟩
  · have F := Lib.hid (cmp_same na nb a b h)
    rw [← h] at S2
    clear h
    have b1 : -1 ≤ cmpI (sg na a) 0 * cmpN a b := by rw [F.out]; exact (cmpI_bd _ _).1
    have b2 : cmpI (sg na a) 0 * cmpN a b ≤ 1 := by rw [F.out]; exact (cmpI_bd _ _).2
    go_enter Tryd.func31, Tryd.ntmps31
    go_wp2_with (go_at_call 27; (first | (with_reducible refine ((S1 _ ((h1.alloc _).alloc _)).out).mono ?_) | (with_reducible refine ((S2 _ (((h2.alloc _).alloc _).alloc _)).out).mono ?_)); rintro e w' ⟨rfl, rfl⟩)
    go_quiet ((first | (go_at_call 54; (first | (with_reducible exact calm (trim_mag A1 n1 c1 a _ (((((h1.alloc _).alloc _).alloc _).alloc _).drewN _) (by omega))) | (with_reducible exact calm (trim_mag A2 n2 c2 b _ (((((h2.alloc _).alloc _).alloc _).alloc _).drewN _) (by omega))))) | (go_at_call 57; exact Calls.quiet_of (compare_mag A1 A2 c1 c2 a b _ (((((h1.trim.alloc _).alloc _).alloc _).alloc _).drewN _) (((((h2.trim.alloc _).alloc _).alloc _).alloc _).drewN _) da db))))
    go_wp2
    go_ret
    rw [F.out]
    exact ⟨rfl, below_drewN (below_al (below_al (below_al (below_al (Below.refl _ _) _) _) _) _) _⟩
  · have F := Lib.hid (cmp_more _ _ h)
    go_enter Tryd.func31, Tryd.ntmps31
    go_wp2_with (go_at_call 27; (first | (with_reducible refine ((S1 _ ((h1.alloc _).alloc _)).out).mono ?_) | (with_reducible refine ((S2 _ (((h2.alloc _).alloc _).alloc _)).out).mono ?_)); rintro e w' ⟨rfl, rfl⟩)
    go_ret
    rw [F.out]
    exact ⟨rfl, below_al (below_al (below_al (below_al (Below.refl _ _) _) _) _) _⟩
end Go.Proofs.YtocoflojlliapaaDoor
