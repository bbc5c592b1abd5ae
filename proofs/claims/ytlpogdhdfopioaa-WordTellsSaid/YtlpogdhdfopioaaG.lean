import Derived.Test.YtlpogdhdfopioaaD
import Derived.Test.YtlpogdhdfopioaaE
import Derived.WalkKit
import Derived.Handy
import Derived.Below
import Derived.OneCell
import Derived.Lib.Hide
import Derived.Deep.QuietTactic
import Derived.BigQuiet
namespace Go.Proofs.Ytlpogdhdfopioaa
open Go.RowKit
def thing (k t a x m : Int) : Value := .agg #[.int .i64 k, .int .i64 t, .int .i64 a, .int .i64 x, .int .u64 m]
theorem thing_to {k t a x m x' : Int} (h : x = x') : Ending.returned (.agg #[.int .i64 k, .int .i64 t, .int .i64 a, .int .i64 x, .int .u64 m]) = .returned (thing k t a x' m) := by subst h; rfl
theorem of_fix (x : Int) (h0 : 0 ≤ x) (h1 : x < 18446744073709551616) (h8 : x % 8 = 0) (w : World) :
    Calls Try.prog 9 #[.int .u64 x] w fun e w' => e = .returned (thing 1 0 0 (fixV x) 0) ∧ Below w.heap.size w w' := by
  by_cases hx : x / 8 < 1152921504606846976
  · have F : Hid (x / 8 = fixV x) := Lib.hid (by unfold fixV; omega)
    go_enter Try.func9, Try.ntmps9
    go_wp2_with (go_at_call 26; refine (power_to 60 60 rfl (by decide) 1152921504606846976 (by decide) _).mono ?_; rintro e w' ⟨rfl, rfl⟩)
    go_returns
    exact ⟨thing_to F.out, (Below.refl _ _).alloc (Nat.le_refl _) _⟩
  · have F : Hid (-(2305843009213693952 - x / 8) = fixV x) := Lib.hid (by unfold fixV; omega)
    go_enter Try.func9, Try.ntmps9
    go_wp2_with (go_at_call 26; (first | (with_reducible refine (power_to 60 60 rfl (by decide) 1152921504606846976 (by decide) _).mono ?_) | (with_reducible refine (power_to 61 61 rfl (by decide) 2305843009213693952 (by decide) _).mono ?_)); rintro e w' ⟨rfl, rfl⟩)
    go_returns
    exact ⟨thing_to F.out, (Below.refl _ _).alloc (Nat.le_refl _) _⟩
set_option maxHeartbeats 1000000 in
theorem of_addr (x : Int) (h0 : 0 ≤ x) (h1 : x < 18446744073709551616) (h8 : x % 8 = 1 ∨ x % 8 = 2 ∨ x % 8 = 3 ∨ x % 8 = 6) (hl : x / 8 < 65536) (w : World) :
    Calls Try.prog 9 #[.int .u64 x] w fun e w' => e = .returned (thing 2 (x % 8) (x / 8) 0 0) ∧ Below w.heap.size w w' := by
  rcases h8 with h8 | h8 | h8 | h8
  all_goals rw [h8]
  all_goals
    go_enter Try.func9, Try.ntmps9
    go_wp2
    go_returns
    exact ⟨rfl, (Below.refl _ _).alloc (Nat.le_refl _) _⟩
set_option maxHeartbeats 2000000 in
theorem of_const (x : Int) (h0 : 0 ≤ x) (h1 : x < 18446744073709551616) (hx : x = 4 ∨ x = 12 ∨ x = 20 ∨ x = 28 ∨ x = 36 ∨ x = 44 ∨ x = 52) (w : World) :
    Calls Try.prog 9 #[.int .u64 x] w fun e w' => e = .returned (thing 3 0 (x / 8) 0 0) ∧ Below w.heap.size w w' := by
  rcases hx with rfl | rfl | rfl | rfl | rfl | rfl | rfl
  all_goals
    go_enter Try.func9, Try.ntmps9
    go_wp2
    go_returns
    exact ⟨rfl, (Below.refl _ _).alloc (Nat.le_refl _) _⟩
theorem charB_parts (n : Int) (h : charB n = true) : n < 55296 ∨ (57343 < n ∧ n ≤ 1114111) := by
  unfold charB at h
  simp only [Bool.and_eq_true, Bool.or_eq_true, decide_eq_true_eq] at h
  exact h
theorem charB_not (n : Int) (h : charB n = false) : 1114111 < n ∨ (55296 ≤ n ∧ n ≤ 57343) := by
  unfold charB at h
  simp only [Bool.and_eq_false_iff, Bool.or_eq_false_iff, decide_eq_false_iff_not] at h
  omega
theorem headB_not (k n m : Int) (hm : m < 281474976710656) (h : headB k n m = false) : k < 1 ∨ 13 < k ∨ 62 < n := by
  unfold headB at h
  simp only [Bool.and_eq_false_iff, decide_eq_false_iff_not] at h
  omega
theorem of_char_lo (x : Int) (h0 : 0 ≤ x) (h1 : x < 18446744073709551616) (h8 : x % 8 = 4) (lo : x / 8 % 32 = 7) (hc : x / 8 / 32 < 55296) (w : World) :
    Calls Try.prog 9 #[.int .u64 x] w fun e w' => e = .returned (thing 4 0 (x / 8 / 32) 0 0) ∧ Below w.heap.size w w' := by
  go_enter Try.func9, Try.ntmps9
  go_wp2
  go_returns
  exact ⟨rfl, (Below.refl _ _).alloc (Nat.le_refl _) _⟩
theorem of_char_hi (x : Int) (h0 : 0 ≤ x) (h1 : x < 18446744073709551616) (h8 : x % 8 = 4) (lo : x / 8 % 32 = 7) (hc : 57343 < x / 8 / 32) (hm : x / 8 / 32 ≤ 1114111) (w : World) :
    Calls Try.prog 9 #[.int .u64 x] w fun e w' => e = .returned (thing 4 0 (x / 8 / 32) 0 0) ∧ Below w.heap.size w w' := by
  have hd : ¬ x / 8 / 32 < 55296 := by omega
  go_enter Try.func9, Try.ntmps9
  go_wp2
  go_returns
  exact ⟨rfl, (Below.refl _ _).alloc (Nat.le_refl _) _⟩
theorem of_char (x : Int) (h0 : 0 ≤ x) (h1 : x < 18446744073709551616) (h8 : x % 8 = 4) (lo : x / 8 % 32 = 7) (hc : charB (x / 8 / 32) = true) (w : World) :
    Calls Try.prog 9 #[.int .u64 x] w fun e w' => e = .returned (thing 4 0 (x / 8 / 32) 0 0) ∧ Below w.heap.size w w' := by
  rcases charB_parts _ hc with h | ⟨h, hm⟩
  · exact of_char_lo x h0 h1 h8 lo h w
  · exact of_char_hi x h0 h1 h8 lo h hm w
theorem of_head (x : Int) (h0 : 0 ≤ x) (h1 : x < 18446744073709551616) (h8 : x % 8 = 5) (k0 : 1 ≤ x / 8 % 32) (k1 : x / 8 % 32 ≤ 13) (n1 : x / 8 / 32 % 256 ≤ 62) (w : World) :
    Calls Try.prog 9 #[.int .u64 x] w fun e w' => e = .returned (thing 5 (x / 8 % 32) (x / 8 / 32 % 256) 0 (x / 8 / 32 / 256)) ∧ Below w.heap.size w w' := by
  go_enter Try.func9, Try.ntmps9
  go_wp2
  go_returns
  exact ⟨rfl, (Below.refl _ _).alloc (Nat.le_refl _) _⟩
set_option maxHeartbeats 1000000 in
theorem of_none_addr (x : Int) (h0 : 0 ≤ x) (h1 : x < 18446744073709551616) (h8 : x % 8 = 1 ∨ x % 8 = 2 ∨ x % 8 = 3 ∨ x % 8 = 6) (hl : 65536 ≤ x / 8) (w : World) :
    Calls Try.prog 9 #[.int .u64 x] w fun e w' => e = .returned (thing 0 0 0 0 0) ∧ Below w.heap.size w w' := by
  rcases h8 with h8 | h8 | h8 | h8
  all_goals
    go_enter Try.func9, Try.ntmps9
    go_wp2
    go_returns
    exact ⟨rfl, (Below.refl _ _).alloc (Nat.le_refl _) _⟩
theorem of_none_seven (x : Int) (h0 : 0 ≤ x) (h1 : x < 18446744073709551616) (h8 : x % 8 = 7) (w : World) :
    Calls Try.prog 9 #[.int .u64 x] w fun e w' => e = .returned (thing 0 0 0 0 0) ∧ Below w.heap.size w w' := by
  go_enter Try.func9, Try.ntmps9
  go_wp2
  go_returns
  exact ⟨rfl, (Below.refl _ _).alloc (Nat.le_refl _) _⟩
theorem of_none_big (x : Int) (h0 : 0 ≤ x) (h1 : x < 18446744073709551616) (h8 : x % 8 = 4) (lo : x / 8 % 32 = 7) (hc : 1114111 < x / 8 / 32) (w : World) :
    Calls Try.prog 9 #[.int .u64 x] w fun e w' => e = .returned (thing 0 0 0 0 0) ∧ Below w.heap.size w w' := by
  go_enter Try.func9, Try.ntmps9
  go_wp2
  go_returns
  exact ⟨rfl, (Below.refl _ _).alloc (Nat.le_refl _) _⟩
theorem of_none_sur (x : Int) (h0 : 0 ≤ x) (h1 : x < 18446744073709551616) (h8 : x % 8 = 4) (lo : x / 8 % 32 = 7) (ha : 55296 ≤ x / 8 / 32) (hb : x / 8 / 32 ≤ 57343) (w : World) :
    Calls Try.prog 9 #[.int .u64 x] w fun e w' => e = .returned (thing 0 0 0 0 0) ∧ Below w.heap.size w w' := by
  go_enter Try.func9, Try.ntmps9
  go_wp2
  go_returns
  exact ⟨rfl, (Below.refl _ _).alloc (Nat.le_refl _) _⟩
theorem of_none_above (x : Int) (h0 : 0 ≤ x) (h1 : x < 18446744073709551616) (h8 : x % 8 = 4) (lo : x / 8 % 32 < 7) (ha : 0 < x / 8 / 32) (w : World) :
    Calls Try.prog 9 #[.int .u64 x] w fun e w' => e = .returned (thing 0 0 0 0 0) ∧ Below w.heap.size w w' := by
  have e7 : (x / 8 % 32 == 7) = false := by rw [beq_eq_false_iff_ne]; omega
  have e0 : (x / 8 / 32 == 0) = false := by rw [beq_eq_false_iff_ne]; omega
  go_enter Try.func9, Try.ntmps9
  go_wp2
  go_returns
  exact ⟨rfl, (Below.refl _ _).alloc (Nat.le_refl _) _⟩
theorem of_none_low (x : Int) (h0 : 0 ≤ x) (h1 : x < 18446744073709551616) (h8 : x % 8 = 4) (lo : 7 < x / 8 % 32) (w : World) :
    Calls Try.prog 9 #[.int .u64 x] w fun e w' => e = .returned (thing 0 0 0 0 0) ∧ Below w.heap.size w w' := by
  have e7 : (x / 8 % 32 == 7) = false := by rw [beq_eq_false_iff_ne]; omega
  go_enter Try.func9, Try.ntmps9
  go_wp2
  go_returns
  exact ⟨rfl, (Below.refl _ _).alloc (Nat.le_refl _) _⟩
theorem of_none_k0 (x : Int) (h0 : 0 ≤ x) (h1 : x < 18446744073709551616) (h8 : x % 8 = 5) (lo : x / 8 % 32 < 1) (w : World) :
    Calls Try.prog 9 #[.int .u64 x] w fun e w' => e = .returned (thing 0 0 0 0 0) ∧ Below w.heap.size w w' := by
  go_enter Try.func9, Try.ntmps9
  go_wp2
  go_returns
  exact ⟨rfl, (Below.refl _ _).alloc (Nat.le_refl _) _⟩
theorem of_none_k1 (x : Int) (h0 : 0 ≤ x) (h1 : x < 18446744073709551616) (h8 : x % 8 = 5) (lo : 13 < x / 8 % 32) (w : World) :
    Calls Try.prog 9 #[.int .u64 x] w fun e w' => e = .returned (thing 0 0 0 0 0) ∧ Below w.heap.size w w' := by
  go_enter Try.func9, Try.ntmps9
  go_wp2
  go_returns
  exact ⟨rfl, (Below.refl _ _).alloc (Nat.le_refl _) _⟩
theorem of_none_n1 (x : Int) (h0 : 0 ≤ x) (h1 : x < 18446744073709551616) (h8 : x % 8 = 5) (k0 : 1 ≤ x / 8 % 32) (k1 : x / 8 % 32 ≤ 13) (lo : 62 < x / 8 / 32 % 256) (w : World) :
    Calls Try.prog 9 #[.int .u64 x] w fun e w' => e = .returned (thing 0 0 0 0 0) ∧ Below w.heap.size w w' := by
  go_enter Try.func9, Try.ntmps9
  go_wp2
  go_returns
  exact ⟨rfl, (Below.refl _ _).alloc (Nat.le_refl _) _⟩
theorem of_none (x : Int) (h0 : 0 ≤ x) (h1 : x < 18446744073709551616) (h4 : x % 8 = 4 → (x / 8 % 32 = 7 ∧ charB (x / 8 / 32) = false) ∨ (x / 8 % 32 < 7 ∧ 0 < x / 8 / 32) ∨ 7 < x / 8 % 32)
      (h5 : x % 8 = 5 → headB (x / 8 % 32) (x / 8 / 32 % 256) (x / 8 / 32 / 256) = false) (h3 : x % 8 = 1 ∨ x % 8 = 2 ∨ x % 8 = 3 ∨ x % 8 = 6 → 65536 ≤ x / 8) (h00 : x % 8 ≠ 0) (w : World) :
    Calls Try.prog 9 #[.int .u64 x] w fun e w' => e = .returned (thing 0 0 0 0 0) ∧ Below w.heap.size w w' := by
  by_cases a : x % 8 = 4
  · rcases h4 a with ⟨b, c⟩ | ⟨b, c⟩ | b
    · rcases charB_not _ c with d | ⟨d, f⟩
      · exact of_none_big x h0 h1 a b d w
      · exact of_none_sur x h0 h1 a b d f w
    · exact of_none_above x h0 h1 a b c w
    · exact of_none_low x h0 h1 a b w
  by_cases b : x % 8 = 5
  · by_cases c : x / 8 % 32 < 1
    · exact of_none_k0 x h0 h1 b c w
    by_cases d : 13 < x / 8 % 32
    · exact of_none_k1 x h0 h1 b d w
    · have f := headB_not _ _ _ (by omega) (h5 b)
      exact of_none_n1 x h0 h1 b (by omega) (by omega) (by omega) w
  by_cases c : x % 8 = 7
  · exact of_none_seven x h0 h1 c w
  · exact of_none_addr x h0 h1 (by omega) (h3 (by omega)) w
end Go.Proofs.Ytlpogdhdfopioaa
