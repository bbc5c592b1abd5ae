import Derived.Test.YtlpogdhdfopioaaC
import Derived.WalkKit
import Derived.Handy
import Derived.Below
import Derived.OneCell
import Derived.Lib.Hide
import Derived.Deep.QuietTactic
import Derived.BigQuiet
namespace Go.Proofs.Ytlpogdhdfopioaa
open Go.RowKit
theorem ret_int {k : IntKind} {a b : Int} (h : a = b) : Ending.returned (.int k a) = .returned (.int k b) := by rw [h]
def pw (k : Nat) : Int := 2 ^ k
theorem pw_succ (k : Nat) : pw k * 2 = pw (k + 1) := by unfold pw; rw [Int.pow_succ]
theorem pw_pos (k : Nat) : 0 < pw k := by unfold pw; exact_mod_cast Nat.two_pow_pos k
theorem pw_le (k : Nat) (h : k ≤ 62) : pw k ≤ 4611686018427387904 := by
  unfold pw
  have := Nat.pow_le_pow_right (n := 2) (by decide) h
  have e : (2 : Int) ^ 62 = 4611686018427387904 := by decide
  rw [← e]
  exact_mod_cast this
theorem power_any (n : Nat) (hn : n ≤ 63) (w : World) :
    Calls Try.prog 26 #[.int .i64 (n : Int)] w fun e w' => e = .returned (.int .u64 (pw n)) ∧ w = w' := by
  go_enter Try.func26, Try.ntmps26
  go_wp2
  go_loop [3, 4] (fun x i => ∃ k : Nat, k ≤ n ∧ i = .int .i64 (k : Int) ∧ x = .int .u64 (pw k)) (fun _ i => n - (intOf i).toNat)
  case atStart => exact ⟨0, Nat.zero_le _, rfl, rfl⟩
  case round =>
    obtain ⟨k, hk, rfl, rfl⟩ := hrel
    by_cases hlt : k < n
    · have h1 := pw_pos k
      have h2 := pw_le k (by omega)
      go_wp2
      go_round
      case rel => exact ⟨k + 1, by omega, by go_num, by rw [pw_succ]⟩
      case measure => simp [intOf]; omega
    · obtain rfl : k = n := by omega
      go_wp2
      go_ret
      exact ⟨rfl, rfl⟩
theorem power_at (n : Int) (k : Nat) (hn : n = (k : Int)) (hk : k ≤ 63) (p : Int) (hp : pw k = p) (w : World) :
    Calls Try.prog 26 #[.int .i64 n] w fun e w' => e = .returned (.int .u64 p) ∧ w = w' := by
  subst hn; subst hp
  exact power_any k hk w
theorem power_to (n : Int) (k : Nat) (hn : n = (k : Int)) (hk : k ≤ 63) (p : Int) (hp : pw k = p) (w : World) :
    Calls Try.prog 26 #[.int .i64 n] w fun e w' => e = .returned (.int .u64 p) ∧ w' = w :=
  (power_at n k hn hk p hp w).mono fun _ _ h => ⟨h.1, h.2.symm⟩
theorem word_fix (x : Int) (lo : -1152921504606846976 ≤ x) (hi : x ≤ 1152921504606846975) (w : World) :
    Calls Try.prog 20 #[.agg #[.int .i64 1, .int .i64 0, .int .i64 0, .int .i64 x, .int .u64 0]] w fun e w' => e = .returned (.int .u64 (fixW x)) ∧ Below w.heap.size w w' := by
  by_cases hx : x < 0
  · have H := Lib.hid (show (2305843009213693952 + x) * 8 = fixW x by unfold fixW; omega)
    go_enter Try.func20, Try.ntmps20
    go_wp2
    go_quiet ((go_at_call 26; exact Calls.quiet_of_same (power_to 61 61 rfl (by decide) 2305843009213693952 (by decide) _)))
    go_wp2
    go_ret
    exact ⟨ret_int H.out, below_drewN ((Below.refl _ _).alloc (Nat.le_refl _) _) _⟩
  · have H := Lib.hid (show x * 8 = fixW x by unfold fixW; omega)
    go_enter Try.func20, Try.ntmps20
    go_wp2
    go_ret
    exact ⟨ret_int H.out, (Below.refl _ _).alloc (Nat.le_refl _) _⟩
theorem word_addr (t a : Int) (t0 : 0 ≤ t) (t1 : t < 8) (a0 : 0 ≤ a) (a1 : a < 65536) (w : World) :
    Calls Try.prog 20 #[.agg #[.int .i64 2, .int .i64 t, .int .i64 a, .int .i64 0, .int .u64 0]] w fun e w' => e = .returned (.int .u64 (a * 8 + t)) ∧ Below w.heap.size w w' := by
  go_enter Try.func20, Try.ntmps20
  go_wp2
  go_ret
  exact ⟨rfl, (Below.refl _ _).alloc (Nat.le_refl _) _⟩
theorem word_char (c : Int) (c0 : 0 ≤ c) (c1 : c ≤ 1114111) (w : World) :
    Calls Try.prog 20 #[.agg #[.int .i64 4, .int .i64 0, .int .i64 c, .int .i64 0, .int .u64 0]] w fun e w' => e = .returned (.int .u64 (c * 256 + 60)) ∧ Below w.heap.size w w' := by
  have H := Lib.hid (show c * 256 + 56 + 4 = c * 256 + 60 by omega)
  go_enter Try.func20, Try.ntmps20
  go_wp2
  go_ret
  exact ⟨ret_int H.out, (Below.refl _ _).alloc (Nat.le_refl _) _⟩
theorem word_head (k n m : Int) (k0 : 0 ≤ k) (k1 : k ≤ 13) (n0 : 0 ≤ n) (n1 : n ≤ 62) (m0 : 0 ≤ m) (m1 : m < 281474976710656) (w : World) :
    Calls Try.prog 20 #[.agg #[.int .i64 5, .int .i64 k, .int .i64 n, .int .i64 0, .int .u64 m]] w fun e w' => e = .returned (.int .u64 (m * 65536 + n * 256 + k * 8 + 5)) ∧ Below w.heap.size w w' := by
  go_enter Try.func20, Try.ntmps20
  go_wp2
  go_quiet ((go_at_call 26; exact Calls.quiet_of_same (power_to 16 16 rfl (by decide) 65536 (by decide) _)))
  go_wp2
  go_ret
  exact ⟨rfl, below_drewN ((Below.refl _ _).alloc (Nat.le_refl _) _) _⟩
theorem fixes_yes (x : Int) (h0 : -1152921504606846976 ≤ x) (h1 : x < 1152921504606846976) (w : World) :
    Calls Try.prog 19 #[.int .i64 x] w fun e w' => e = .returned (.bool true) ∧ w' = w := by
  go_enter Try.func19, Try.ntmps19
  go_wp2_with (go_at_call 26; refine (power_to 60 60 rfl (by decide) 1152921504606846976 (by decide) _).mono ?_; rintro e w' ⟨rfl, rfl⟩)
  go_ret
  exact ⟨rfl, rfl⟩
theorem fixes_no (x : Int) (h : x < -1152921504606846976 ∨ 1152921504606846976 ≤ x) (w : World) :
    Calls Try.prog 19 #[.int .i64 x] w fun e w' => e = .returned (.bool false) ∧ w' = w := by
  by_cases hx : x < -1152921504606846976
  · clear h
    go_enter Try.func19, Try.ntmps19
    go_wp2_with (go_at_call 26; refine (power_to 60 60 rfl (by decide) 1152921504606846976 (by decide) _).mono ?_; rintro e w' ⟨rfl, rfl⟩)
    go_ret
    exact ⟨rfl, rfl⟩
  · have hy : 1152921504606846976 ≤ x := by omega
    have hd : decide (x < 1152921504606846976) = false := by simp; omega
    clear h
    go_enter Try.func19, Try.ntmps19
    go_wp2_with (go_at_call 26; refine (power_to 60 60 rfl (by decide) 1152921504606846976 (by decide) _).mono ?_; rintro e w' ⟨rfl, rfl⟩)
    go_ret
    exact ⟨rfl, rfl⟩
/-- is a rune a character? -/
def runeB (c : Int) : Bool := decide (0 ≤ c) && decide (c ≤ 1114111) && (decide (c < 55296) || decide (57343 < c))
theorem letter_any (c : Int) (w : World) : Calls Try.prog 22 #[.int .i32 c] w fun e w' => e = .returned (.bool (runeB c)) ∧ w' = w := by
  by_cases h1 : 0 ≤ c
  · by_cases h2 : c ≤ 1114111
    · by_cases h3 : c < 55296
      · have hc : runeB c = true := by simp [runeB, h1, h2, h3]
        rw [hc]
        clear hc
        go_enter Try.func22, Try.ntmps22
        go_wp2
        go_ret
        exact ⟨rfl, rfl⟩
      · by_cases h4 : 57343 < c
        · have hc : runeB c = true := by simp [runeB, h1, h2, h4]
          rw [hc]
          clear hc
          go_enter Try.func22, Try.ntmps22
          go_wp2
          go_ret
          exact ⟨rfl, rfl⟩
        · have hc : runeB c = false := by simp [runeB, h3, h4]
          rw [hc]
          clear hc
          go_enter Try.func22, Try.ntmps22
          go_wp2
          go_ret
          exact ⟨rfl, rfl⟩
    · have hc : runeB c = false := by simp [runeB, h2]
      rw [hc]
      clear hc
      go_enter Try.func22, Try.ntmps22
      go_wp2
      go_ret
      exact ⟨rfl, rfl⟩
  · have hc : runeB c = false := by simp [runeB, h1]
    rw [hc]
    clear hc
    go_enter Try.func22, Try.ntmps22
    go_wp2
    go_ret
    exact ⟨rfl, rfl⟩
end Go.Proofs.Ytlpogdhdfopioaa
