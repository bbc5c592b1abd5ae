import Derived.Test.YtlpogdhdfopioaaB
import Derived.WalkKit
import Derived.Handy
import Derived.Below
import Derived.OneCell
import Derived.Lib.Hide
import Derived.Deep.QuietTactic
import Derived.BigQuiet
namespace Go.Proofs.Ytlpogdhdfopioaa
open Go.RowKit
theorem orN (x y : Int) (i : Nat) (hx : 0 ≤ x) (h8 : x % 2 ^ i = 0) (h1 : x < 18446744073709551616) (hy : 0 ≤ y) (hy1 : y < 2 ^ i) (hy2 : y < 18446744073709551616) : bits .or .u64 x y = x + y := bits_join .u64 64 (by decide) wraps_u64 i x y hx h8 h1 hy hy1 hy2
/-- a fixnum's word -/
def fixW (x : Int) : Int := x * 8 % 18446744073709551616
theorem fix_yes (x : Int) (h0 : -1152921504606846976 ≤ x) (h1 : x ≤ 1152921504606846975) (w : World) :
    Calls Try.prog 18 #[.int .i64 x] w fun e w' => e = .returned (.tuple #[.int .u64 (fixW x), .int .i64 0]) ∧ w' = w := by
  have H := Lib.hid (show x % 18446744073709551616 * 8 % 18446744073709551616 + 0 = fixW x by unfold fixW; omega)
  go_enter Try.func18, Try.ntmps18
  go_wp2_with fail
  rw [IntKind.wrap_u64]
  refine (tagged_any _ 0 (by omega) (by omega) (by decide) (by decide) _).mono ?_
  rintro e w' ⟨rfl, rfl⟩
  rw [H.out]
  go_wp2
  go_ret2
  exact ⟨rfl, rfl⟩
theorem fix_no (x : Int) (h : x < -1152921504606846976 ∨ 1152921504606846975 < x) (w : World) :
    Calls Try.prog 18 #[.int .i64 x] w fun e w' => e = .returned (.tuple #[.int .u64 0, .int .i64 4]) ∧ w' = w := by
  by_cases h1 : x < -1152921504606846976
  · clear h
    go_enter Try.func18, Try.ntmps18
    go_wp2_with fail
    go_ret2
    exact ⟨rfl, rfl⟩
  · have h2 : 1152921504606846975 < x := by omega
    clear h
    go_enter Try.func18, Try.ntmps18
    go_wp2_with fail
    go_ret2
    exact ⟨rfl, rfl⟩
theorem char_yes (c : Int) (h0 : 0 ≤ c) (h1 : c ≤ 1114111) (hk : charB c = true) (w : World) :
    Calls Try.prog 21 #[.int .i32 c] w fun e w' => e = .returned (.tuple #[.int .u64 (c * 256 + 60), .int .i64 0]) ∧ w' = w := by
  have eo : bits .or .u64 (c * 32) 7 = c * 32 + 7 := orN (c * 32) 7 5 (by omega) (by omega) (by omega) (by omega) (by omega) (by omega)
  have H := Lib.hid (show (c * 32 + 7) * 8 % 18446744073709551616 + 4 = c * 256 + 60 by omega)
  go_enter Try.func21, Try.ntmps21
  go_wp2_with (go_at_call 30; refine (isChar_any _ _).mono ?_; rintro e w' ⟨rfl, rfl⟩)
  refine (tagged_any (c * 32 + 7) 4 (by omega) (by omega) (by decide) (by decide) _).mono ?_
  rintro e w' ⟨rfl, rfl⟩
  rw [H.out]
  go_wp2
  go_ret2
  exact ⟨rfl, rfl⟩
theorem char_no (c : Int) (hk : charB (c % 18446744073709551616) = false) (w : World) :
    Calls Try.prog 21 #[.int .i32 c] w fun e w' => e = .returned (.tuple #[.int .u64 0, .int .i64 4]) ∧ w' = w := by
  rw [← IntKind.wrap_u64] at hk
  go_enter Try.func21, Try.ntmps21
  go_wp2_with (go_at_call 30; refine (isChar_any _ _).mono ?_; rintro e w' ⟨rfl, rfl⟩)
  go_ret2
  exact ⟨rfl, rfl⟩

theorem what_at (t : Int) (ht : t = 1 ∨ t = 2 ∨ t = 3 ∨ t = 6) : whatN t = 4 := by
  rcases ht with rfl | rfl | rfl | rfl <;> decide
theorem what_at_no (t : Int) (h0 : 0 ≤ t) (h8 : t < 8) (ht : ¬(t = 1 ∨ t = 2 ∨ t = 3 ∨ t = 6)) : (whatN t != 4) = true := by
  have : t = 0 ∨ t = 4 ∨ t = 5 ∨ t = 7 := by omega
  rcases this with rfl | rfl | rfl | rfl <;> decide
theorem at_yes (t a : Int) (ht : t = 1 ∨ t = 2 ∨ t = 3 ∨ t = 6) (h0 : 0 ≤ a) (h1 : a < 65536) (w : World) :
    Calls Try.prog 23 #[.int .i64 t, .int .i64 a] w fun e w' => e = .returned (.tuple #[.int .u64 (a * 8 + t), .int .i64 0]) ∧ Below w.heap.size w w' := by
  have hk := what_at t ht
  have t0 : 0 ≤ t := by omega
  have t8 : t < 8 := by omega
  have H := Lib.hid (show a * 8 % 18446744073709551616 + t = a * 8 + t by omega)
  have e8 : (t % 8 != t) = false := by rw [bne_eq_false_iff_eq]; omega
  have e9 : (whatN t != 4) = false := by rw [hk]; decide
  clear ht hk
  go_enter Try.func23, Try.ntmps23
  go_wp2_with (first | (go_at_call 15; refine (tag_any _ (by omega) (by omega) _).mono ?_; rintro e w' ⟨rfl, rfl⟩) | (go_at_call 27; refine (what_any _ (by omega) (by omega) _).mono ?_; rintro e w' ⟨rfl, hb⟩))
  refine (tagged_any a t (by omega) (by omega) (by omega) (by omega) _).mono ?_
  rintro e w' ⟨rfl, rfl⟩
  rw [H.out]
  go_wp2
  go_ret2
  exact ⟨rfl, hb⟩
theorem at_addr (t a : Int) (ht : t = 1 ∨ t = 2 ∨ t = 3 ∨ t = 6) (h1 : a < 0 ∨ 65536 ≤ a) (w : World) :
    Calls Try.prog 23 #[.int .i64 t, .int .i64 a] w fun e w' => e = .returned (.tuple #[.int .u64 0, .int .i64 18]) ∧ Below w.heap.size w w' := by
  have hk := what_at t ht
  have t0 : 0 ≤ t := by omega
  have t8 : t < 8 := by omega
  have e8 : (t % 8 != t) = false := by rw [bne_eq_false_iff_eq]; omega
  have e9 : (whatN t != 4) = false := by rw [hk]; decide
  clear ht hk
  by_cases ha : a < 0
  · clear h1
    go_enter Try.func23, Try.ntmps23
    go_wp2_with (first | (go_at_call 15; refine (tag_any _ (by omega) (by omega) _).mono ?_; rintro e w' ⟨rfl, rfl⟩) | (go_at_call 27; refine (what_any _ (by omega) (by omega) _).mono ?_; rintro e w' ⟨rfl, hb⟩))
    go_ret2
    exact ⟨rfl, hb⟩
  · have hb : 65536 ≤ a := by omega
    clear h1
    go_enter Try.func23, Try.ntmps23
    go_wp2_with (first | (go_at_call 15; refine (tag_any _ (by omega) (by omega) _).mono ?_; rintro e w' ⟨rfl, rfl⟩) | (go_at_call 27; refine (what_any _ (by omega) (by omega) _).mono ?_; rintro e w' ⟨rfl, hb⟩))
    go_ret2
    exact ⟨rfl, hb⟩
theorem at_tag (t a : Int) (lo : -9223372036854775808 ≤ t) (hi : t ≤ 9223372036854775807) (ht : ¬(t = 1 ∨ t = 2 ∨ t = 3 ∨ t = 6)) (w : World) :
    Calls Try.prog 23 #[.int .i64 t, .int .i64 a] w fun e w' => e = .returned (.tuple #[.int .u64 0, .int .i64 1]) ∧ Below w.heap.size w w' := by
  by_cases h8 : 0 ≤ t ∧ t < 8
  · obtain ⟨t0, t8⟩ := h8
    have e8 : (t % 8 != t) = false := by rw [bne_eq_false_iff_eq]; omega
    have e9 := what_at_no t t0 t8 ht
    clear ht
    go_enter Try.func23, Try.ntmps23
    go_wp2_with (first | (go_at_call 15; refine (tag_any _ (by omega) (by omega) _).mono ?_; rintro e w' ⟨rfl, rfl⟩) | (go_at_call 27; refine (what_any _ (by omega) (by omega) _).mono ?_; rintro e w' ⟨rfl, hb⟩))
    go_ret2
    exact ⟨rfl, hb⟩
  · have e8 : (IntKind.u64.wrap t % 8 != t) = true := by rw [IntKind.wrap_u64, bne_iff_ne]; omega
    have u0 : 0 ≤ IntKind.u64.wrap t := by rw [IntKind.wrap_u64]; omega
    have u1 : IntKind.u64.wrap t < 18446744073709551616 := by rw [IntKind.wrap_u64]; omega
    clear ht h8
    go_enter Try.func23, Try.ntmps23
    go_wp2_with (go_at_call 15; refine (tag_any _ u0 u1 _).mono ?_; rintro e w' ⟨rfl, rfl⟩)
    go_ret2
    exact ⟨rfl, Below.refl _ _⟩
theorem header_yes (k n m : Int) (k0 : 1 ≤ k) (k1 : k ≤ 13) (n0 : 0 ≤ n) (n1 : n ≤ 62) (m0 : 0 ≤ m) (m1 : m < 281474976710656) (w : World) :
    Calls Try.prog 24 #[.int .i64 k, .int .i64 n, .int .u64 m] w fun e w' => e = .returned (.tuple #[.int .u64 (m * 65536 + n * 256 + k * 8 + 5), .int .i64 0]) ∧ w' = w := by
  have eh : headB k n m = true := by simp [headB, k0, k1, n1, m1]
  have eo : bits .or .u64 (m * 256) n = m * 256 + n := orN (m * 256) n 8 (by omega) (by omega) (by omega) (by omega) (by omega) (by omega)
  have eo2 : bits .or .u64 ((m * 256 + n) * 32) k = (m * 256 + n) * 32 + k := orN ((m * 256 + n) * 32) k 5 (by omega) (by omega) (by omega) (by omega) (by omega) (by omega)
  have H := Lib.hid (show ((m * 256 + n) * 32 + k) * 8 % 18446744073709551616 + 5 = m * 65536 + n * 256 + k * 8 + 5 by omega)
  go_enter Try.func24, Try.ntmps24
  go_wp2_with (go_at_call 31; refine (isHeader_any _ _ _ _).mono ?_; rintro e w' ⟨rfl, rfl⟩)
  refine (tagged_any ((m * 256 + n) * 32 + k) 5 (by omega) (by omega) (by decide) (by decide) _).mono ?_
  rintro e w' ⟨rfl, rfl⟩
  rw [H.out]
  go_wp2
  go_ret2
  exact ⟨rfl, rfl⟩
theorem header_no (k n m : Int) (hk : headB (IntKind.u64.wrap k) (IntKind.u64.wrap n) m = false) (w : World) :
    Calls Try.prog 24 #[.int .i64 k, .int .i64 n, .int .u64 m] w fun e w' => e = .returned (.tuple #[.int .u64 0, .int .i64 1]) ∧ w' = w := by
  go_enter Try.func24, Try.ntmps24
  go_wp2_with (go_at_call 31; refine (isHeader_any _ _ _ _).mono ?_; rintro e w' ⟨rfl, rfl⟩)
  go_ret2
  exact ⟨rfl, rfl⟩
theorem awake_any (w : World) : Calls Try.prog 17 #[] w fun e w' => e = .returned (.bool true) ∧ Below w.heap.size w w' := by
  have f1 : fixW (-1) = 18446744073709551608 := by decide
  go_enter Try.func17, Try.ntmps17
  go_wp2_with (first | (go_at_call 21; refine (char_yes 97 (by decide) (by decide) (by decide) _).mono ?_; rintro e w' ⟨rfl, rfl⟩) | (go_at_call 23; refine (at_yes 1 5 (by decide) (by decide) (by decide) _).mono ?_; rintro e w' ⟨rfl, hb⟩) | (go_at_call 24; refine (header_yes 1 3 0 (by decide) (by decide) (by decide) (by decide) (by decide) (by decide) _).mono ?_; rintro e w' ⟨rfl, rfl⟩) | (go_at_call 18; (first | (with_reducible refine (fix_yes (-1) (by decide) (by decide) _).mono ?_) | (with_reducible refine (fix_no 1152921504606846976 (by decide) _).mono ?_)); rintro e w' ⟨rfl, rfl⟩) | (go_at_call 16; refine (truth_any _ _).mono ?_; rintro e w' ⟨rfl, rfl⟩))
  go_ret
  exact ⟨rfl, hb⟩
end Go.Proofs.Ytlpogdhdfopioaa
