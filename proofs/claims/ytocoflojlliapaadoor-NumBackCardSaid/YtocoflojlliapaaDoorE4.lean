import Derived.Test.YtocoflojlliapaaDoorE3
set_option linter.unusedVariables false
namespace Go.Proofs.YtocoflojlliapaaDoor
open Go.RowKit
/-- a text's sign and what stands behind it -/
def Split (s : ByteArray) (neg : Bool) (d : ByteArray) : Prop :=
  (s.data.toList.head? = some 45 ∧ neg = true ∧ d = s.extract 1 s.size) ∨ (s.data.toList.head? = some 43 ∧ neg = false ∧ d = s.extract 1 s.size) ∨
    (s.data.toList.head? ≠ some 45 ∧ s.data.toList.head? ≠ some 43 ∧ neg = false ∧ d = s)
theorem prefix_is (s : ByteArray) (c : UInt8) (b : Bool) (w : World) (h : decide (s.data.toList.head? = some c) = b) :
    Calls Tryd.prog 75 #[.string s, .string ⟨#[c]⟩] w fun e w' => e = .returned (.bool b) ∧ w' = w := by
  have := Tryd.strings_HasPrefix s ⟨#[c]⟩ w
  have e : Lib.hasPrefix s.data.toList (⟨#[c]⟩ : ByteArray).data.toList = b := by
    rw [← h]
    cases s.data.toList with
    | nil => simp [Lib.hasPrefix]
    | cons x l =>
      by_cases hx : x = c
      · subst hx
        simp [Lib.hasPrefix, List.isPrefixOf]
      · have h1 : (c == x) = false := beq_false_of_ne (fun e => hx e.symm)
        simp [Lib.hasPrefix, List.isPrefixOf, h1, hx]
  rw [e] at this
  exact this
theorem head_size (s : ByteArray) (c : UInt8) (h : s.data.toList.head? = some c) : 1 ≤ s.size := by
  rw [Lib.size_eq]
  cases hd : s.data.toList with
  | nil => rw [hd] at h; simp at h
  | cons x l => simp
set_option maxHeartbeats 1600000 in
theorem parse_form (s : ByteArray) (neg : Bool) (d : ByteArray) (w : World) (hs : s.size ≤ 100000) (h : Split s neg d) (hd : Hid (¬ (d.data.toList ≠ [] ∧ isDig d.data.toList))) :
    Calls Tryd.prog 48 #[.string s] w fun e w' => e = .returned (.tuple #[.agg #[.bool false, .slice none 0 0], .int .i64 9]) ∧ Below w.heap.size w w' := by
  have hds : d.size ≤ 100000 := by
    rcases h with ⟨_, _, rfl⟩ | ⟨_, _, rfl⟩ | ⟨_, _, _, rfl⟩
    · rw [ByteArray.size_extract]; omega
    · rw [ByteArray.size_extract]; omega
    · exact hs
  have AD := fun w => Lib.hid (areDigits_no d w (by omega) hd)
  rcases h with ⟨h1, rfl, rfl⟩ | ⟨h1, rfl, rfl⟩ | ⟨h1, h2, rfl, rfl⟩
  · have hsz := head_size s 45 h1
    have PM := fun w => Lib.hid (prefix_is s 45 true w (by simp [h1]))
    have PP := fun w => Lib.hid (prefix_is s 43 false w (by simp [h1]))
    clear h1
    go_enter Tryd.func48, Tryd.ntmps48
    go_wp2_with (first | (go_at_call 75; (first | (with_reducible refine ((PM _).out).mono ?_) | (with_reducible refine ((PP _).out).mono ?_)); rintro e w' ⟨rfl, rfl⟩) | (go_at_call 76; refine ((AD _).out).mono ?_; rintro e w' ⟨rfl, rfl⟩))
    exact bodyPost_ret (v := .tuple #[.agg #[.bool false, .slice none 0 0], .int .i64 9]) (by simp [results, Tryd.results48, go_sem]) rfl ⟨rfl, (Below.refl _ _).alloc (Nat.le_refl _) _⟩
  · have hsz := head_size s 43 h1
    have PM := fun w => Lib.hid (prefix_is s 45 false w (by simp [h1]))
    have PP := fun w => Lib.hid (prefix_is s 43 true w (by simp [h1]))
    clear h1
    go_enter Tryd.func48, Tryd.ntmps48
    go_wp2_with (first | (go_at_call 75; (first | (with_reducible refine ((PM _).out).mono ?_) | (with_reducible refine ((PP _).out).mono ?_)); rintro e w' ⟨rfl, rfl⟩) | (go_at_call 76; refine ((AD _).out).mono ?_; rintro e w' ⟨rfl, rfl⟩))
    exact bodyPost_ret (v := .tuple #[.agg #[.bool false, .slice none 0 0], .int .i64 9]) (by simp [results, Tryd.results48, go_sem]) rfl ⟨rfl, (Below.refl _ _).alloc (Nat.le_refl _) _⟩
  · have hsz : True := trivial
    have PM := fun w => Lib.hid (prefix_is d 45 false w (by simp [h1]))
    have PP := fun w => Lib.hid (prefix_is d 43 false w (by simp [h2]))
    clear h1 h2
    go_enter Tryd.func48, Tryd.ntmps48
    go_wp2_with (first | (go_at_call 75; (first | (with_reducible refine ((PM _).out).mono ?_) | (with_reducible refine ((PP _).out).mono ?_)); rintro e w' ⟨rfl, rfl⟩) | (go_at_call 76; refine ((AD _).out).mono ?_; rintro e w' ⟨rfl, rfl⟩))
    exact bodyPost_ret (v := .tuple #[.agg #[.bool false, .slice none 0 0], .int .i64 9]) (by simp [results, Tryd.results48, go_sem]) rfl ⟨rfl, (Below.refl _ _).alloc (Nat.le_refl _) _⟩
set_option maxHeartbeats 1600000 in
theorem parse_big (s : ByteArray) (neg : Bool) (d : ByteArray) (w : World) (hs : s.size ≤ 100000) (h : Split s neg d) (h0 : d.data.toList ≠ []) (hd : isDig d.data.toList) (hbig : 48 < dl (decVal d.data.toList)) :
    Calls Tryd.prog 48 #[.string s] w fun e w' => Big w w' e := by
  have hds : d.size ≤ 100000 := by
    rcases h with ⟨_, _, rfl⟩ | ⟨_, _, rfl⟩ | ⟨_, _, _, rfl⟩
    · rw [ByteArray.size_extract]; omega
    · rw [ByteArray.size_extract]; omega
    · exact hs
  have AD := fun w => Lib.hid (areDigits_yes d w (by omega) (by rw [Lib.size_eq]; exact List.length_pos_iff.2 h0) hd)
  have MG := fun w => Lib.hid (magnitude_no d w (by omega) (Lib.hid hd) _ (Lib.hid rfl) hbig)
  have HW : Two (w.alloc (.cells #[.bool false, .slice none 0 0] 24)) w.heap.size 24 (.bool false) (.slice none 0 0) := Two.made w 24 _ _
  clear hd hbig h0
  rcases h with ⟨h1, rfl, rfl⟩ | ⟨h1, rfl, rfl⟩ | ⟨h1, h2, rfl, rfl⟩
  · have hsz := head_size s 45 h1
    have PM := fun w => Lib.hid (prefix_is s 45 true w (by simp [h1]))
    have PP := fun w => Lib.hid (prefix_is s 43 false w (by simp [h1]))
    clear h1
    go_enter Tryd.func48, Tryd.ntmps48
    go_wp2_with (first | (go_at_call 75; (first | (with_reducible refine ((PM _).out).mono ?_) | (with_reducible refine ((PP _).out).mono ?_)); rintro e w' ⟨rfl, rfl⟩) | (go_at_call 76; refine ((AD _).out).mono ?_; rintro e w' ⟨rfl, rfl⟩) | (go_at_call 77; refine ((MG _).out).mono ?_; rintro e w1 ⟨rfl, hb1⟩; have k0 := (HW.below' hb1).fst; have k1 := (HW.below' hb1).snd; have k2 := (HW.below' hb1).free 0; have k3 := (HW.below' hb1).free 1))
    exact bodyPost_ret (v := .tuple #[.agg #[.bool false, .slice none 0 0], .int .i64 6]) (by simp [results, Tryd.results48, go_sem, k0, k1]) rfl ⟨rfl, below_two (below_then (below_al (Below.refl _ _) _) hb1) (Nat.le_refl _)⟩
  · have hsz := head_size s 43 h1
    have PM := fun w => Lib.hid (prefix_is s 45 false w (by simp [h1]))
    have PP := fun w => Lib.hid (prefix_is s 43 true w (by simp [h1]))
    clear h1
    go_enter Tryd.func48, Tryd.ntmps48
    go_wp2_with (first | (go_at_call 75; (first | (with_reducible refine ((PM _).out).mono ?_) | (with_reducible refine ((PP _).out).mono ?_)); rintro e w' ⟨rfl, rfl⟩) | (go_at_call 76; refine ((AD _).out).mono ?_; rintro e w' ⟨rfl, rfl⟩) | (go_at_call 77; refine ((MG _).out).mono ?_; rintro e w1 ⟨rfl, hb1⟩; have k0 := (HW.below' hb1).fst; have k1 := (HW.below' hb1).snd; have k2 := (HW.below' hb1).free 0; have k3 := (HW.below' hb1).free 1))
    exact bodyPost_ret (v := .tuple #[.agg #[.bool false, .slice none 0 0], .int .i64 6]) (by simp [results, Tryd.results48, go_sem, k0, k1]) rfl ⟨rfl, below_two (below_then (below_al (Below.refl _ _) _) hb1) (Nat.le_refl _)⟩
  · have hsz : True := trivial
    have PM := fun w => Lib.hid (prefix_is d 45 false w (by simp [h1]))
    have PP := fun w => Lib.hid (prefix_is d 43 false w (by simp [h2]))
    clear h1 h2
    go_enter Tryd.func48, Tryd.ntmps48
    go_wp2_with (first | (go_at_call 75; (first | (with_reducible refine ((PM _).out).mono ?_) | (with_reducible refine ((PP _).out).mono ?_)); rintro e w' ⟨rfl, rfl⟩) | (go_at_call 76; refine ((AD _).out).mono ?_; rintro e w' ⟨rfl, rfl⟩) | (go_at_call 77; refine ((MG _).out).mono ?_; rintro e w1 ⟨rfl, hb1⟩; have k0 := (HW.below' hb1).fst; have k1 := (HW.below' hb1).snd; have k2 := (HW.below' hb1).free 0; have k3 := (HW.below' hb1).free 1))
    exact bodyPost_ret (v := .tuple #[.agg #[.bool false, .slice none 0 0], .int .i64 6]) (by simp [results, Tryd.results48, go_sem, k0, k1]) rfl ⟨rfl, below_two (below_then (below_al (Below.refl _ _) _) hb1) (Nat.le_refl _)⟩
set_option maxHeartbeats 1600000 in
theorem parse_ok (s : ByteArray) (neg : Bool) (d : ByteArray) (w : World) (hs : s.size ≤ 100000) (h : Split s neg d) (h0 : d.data.toList ≠ []) (hd : isDig d.data.toList) (N : Nat) (hN : Hid (N = decVal d.data.toList)) (hfit : dl N ≤ 48) :
    Calls Tryd.prog 48 #[.string s] w fun e w' => Num w w' e neg N := by
  have hds : d.size ≤ 100000 := by
    rcases h with ⟨_, _, rfl⟩ | ⟨_, _, rfl⟩ | ⟨_, _, _, rfl⟩
    · rw [ByteArray.size_extract]; omega
    · rw [ByteArray.size_extract]; omega
    · exact hs
  have AD := fun w => Lib.hid (areDigits_yes d w (by omega) (by rw [Lib.size_eq]; exact List.length_pos_iff.2 h0) hd)
  have MG := fun w => Lib.hid (magnitude_yes d w (by omega) (Lib.hid hd) N hN hfit)
  have HW : Two (w.alloc (.cells #[.bool false, .slice none 0 0] 24)) w.heap.size 24 (.bool false) (.slice none 0 0) := Two.made w 24 _ _
  clear hd h0
  rcases h with ⟨h1, rfl, rfl⟩ | ⟨h1, rfl, rfl⟩ | ⟨h1, h2, rfl, rfl⟩
  · have hsz := head_size s 45 h1
    have PM := fun w => Lib.hid (prefix_is s 45 true w (by simp [h1]))
    have PP := fun w => Lib.hid (prefix_is s 43 false w (by simp [h1]))
    clear h1
    go_enter Tryd.func48, Tryd.ntmps48
    go_wp2_with (first | (go_at_call 75; (first | (with_reducible refine ((PM _).out).mono ?_) | (with_reducible refine ((PP _).out).mono ?_)); rintro e w' ⟨rfl, rfl⟩) | (go_at_call 76; refine ((AD _).out).mono ?_; rintro e w' ⟨rfl, rfl⟩) | (go_at_call 77; refine ((MG _).out).mono ?_; rintro e w1 ⟨A, c, rfl, hm1, hb1⟩) | (go_at_call 52; refine (signed_any true _).mono ?_; rintro e w' ⟨rfl, rfl⟩) | (go_at_call 79; refine (signed1_yes w1.heap.size true A (dl N) c N _ (one_made _ _ _) (hm1.alloc _) (by omega) hfit).mono ?_; rintro e w2 ⟨A', c', rfl, hf⟩; have hb2 : Below (w.alloc (.cells #[.bool false, .slice none 0 0] 24)).heap.size (w.alloc (.cells #[.bool false, .slice none 0 0] 24)) w2 := below_then hb1 (below_then (below_al (Below.refl _ _) _) hf.2); have k0 := (HW.below' hb2).fst; have k1 := (HW.below' hb2).snd; have k2 := (HW.below' hb2).free 0; have k3 := (HW.below' hb2).free 1))
    exact bodyPost_ret (v := .tuple #[.agg #[.bool (signB true N), .slice A' (dl N) c'], .int .i64 0]) (by simp [results, Tryd.results48, go_sem, k0, k1]) rfl
      ⟨A', c', rfl, hf.two (g := w.heap.size) (below_al (below_then (below_al (Below.refl _ _) _) hb1) _) (Nat.le_refl _) (by have := hb1.size; simp at this ⊢; omega)⟩
  · have hsz := head_size s 43 h1
    have PM := fun w => Lib.hid (prefix_is s 45 false w (by simp [h1]))
    have PP := fun w => Lib.hid (prefix_is s 43 true w (by simp [h1]))
    clear h1
    go_enter Tryd.func48, Tryd.ntmps48
    go_wp2_with (first | (go_at_call 75; (first | (with_reducible refine ((PM _).out).mono ?_) | (with_reducible refine ((PP _).out).mono ?_)); rintro e w' ⟨rfl, rfl⟩) | (go_at_call 76; refine ((AD _).out).mono ?_; rintro e w' ⟨rfl, rfl⟩) | (go_at_call 77; refine ((MG _).out).mono ?_; rintro e w1 ⟨A, c, rfl, hm1, hb1⟩) | (go_at_call 52; refine (signed_any false _).mono ?_; rintro e w' ⟨rfl, rfl⟩) | (go_at_call 79; refine (signed1_yes w1.heap.size false A (dl N) c N _ (one_made _ _ _) (hm1.alloc _) (by omega) hfit).mono ?_; rintro e w2 ⟨A', c', rfl, hf⟩; have hb2 : Below (w.alloc (.cells #[.bool false, .slice none 0 0] 24)).heap.size (w.alloc (.cells #[.bool false, .slice none 0 0] 24)) w2 := below_then hb1 (below_then (below_al (Below.refl _ _) _) hf.2); have k0 := (HW.below' hb2).fst; have k1 := (HW.below' hb2).snd; have k2 := (HW.below' hb2).free 0; have k3 := (HW.below' hb2).free 1))
    exact bodyPost_ret (v := .tuple #[.agg #[.bool (signB false N), .slice A' (dl N) c'], .int .i64 0]) (by simp [results, Tryd.results48, go_sem, k0, k1]) rfl
      ⟨A', c', rfl, hf.two (g := w.heap.size) (below_al (below_then (below_al (Below.refl _ _) _) hb1) _) (Nat.le_refl _) (by have := hb1.size; simp at this ⊢; omega)⟩
  · have hsz : True := trivial
    have PM := fun w => Lib.hid (prefix_is d 45 false w (by simp [h1]))
    have PP := fun w => Lib.hid (prefix_is d 43 false w (by simp [h2]))
    clear h1 h2
    go_enter Tryd.func48, Tryd.ntmps48
    go_wp2_with (first | (go_at_call 75; (first | (with_reducible refine ((PM _).out).mono ?_) | (with_reducible refine ((PP _).out).mono ?_)); rintro e w' ⟨rfl, rfl⟩) | (go_at_call 76; refine ((AD _).out).mono ?_; rintro e w' ⟨rfl, rfl⟩) | (go_at_call 77; refine ((MG _).out).mono ?_; rintro e w1 ⟨A, c, rfl, hm1, hb1⟩) | (go_at_call 52; refine (signed_any false _).mono ?_; rintro e w' ⟨rfl, rfl⟩) | (go_at_call 79; refine (signed1_yes w1.heap.size false A (dl N) c N _ (one_made _ _ _) (hm1.alloc _) (by omega) hfit).mono ?_; rintro e w2 ⟨A', c', rfl, hf⟩; have hb2 : Below (w.alloc (.cells #[.bool false, .slice none 0 0] 24)).heap.size (w.alloc (.cells #[.bool false, .slice none 0 0] 24)) w2 := below_then hb1 (below_then (below_al (Below.refl _ _) _) hf.2); have k0 := (HW.below' hb2).fst; have k1 := (HW.below' hb2).snd; have k2 := (HW.below' hb2).free 0; have k3 := (HW.below' hb2).free 1))
    exact bodyPost_ret (v := .tuple #[.agg #[.bool (signB false N), .slice A' (dl N) c'], .int .i64 0]) (by simp [results, Tryd.results48, go_sem, k0, k1]) rfl
      ⟨A', c', rfl, hf.two (g := w.heap.size) (below_al (below_then (below_al (Below.refl _ _) _) hb1) _) (Nat.le_refl _) (by have := hb1.size; simp at this ⊢; omega)⟩
end Go.Proofs.YtocoflojlliapaaDoor
