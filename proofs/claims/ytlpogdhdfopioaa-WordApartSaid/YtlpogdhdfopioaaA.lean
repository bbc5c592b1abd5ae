import Derived.Test.YtlpogdhdfopioaaProg
import Derived.WalkKit
import Derived.Handy
import Derived.Below
import Derived.OneCell

import Derived.Lib.Hide
import Derived.Deep.QuietTactic
import Derived.BigQuiet
import Derived.WalkSmall
namespace Go.Proofs.Ytlpogdhdfopioaa
open Go.RowKit
theorem wraps_u64 (n : Int) (h₀ : 0 ≤ n) (h₁ : n < 2 ^ 64) : IntKind.u64.wrap n = n := by rw [IntKind.wrap_u64]; omega
theorem and7 (x : Int) (h₀ : 0 ≤ x) (h₁ : x < 18446744073709551616) : bits .and .u64 x 7 = x % 8 := bits_mask .u64 64 (by decide) wraps_u64 3 (by decide) x h₀ h₁
theorem or3 (x y : Int) (hx : 0 ≤ x) (h8 : x % 8 = 0) (h1 : x < 18446744073709551616) (hy : 0 ≤ y) (hy1 : y < 8) : bits .or .u64 x y = x + y := bits_join .u64 64 (by decide) wraps_u64 3 x y hx h8 h1 hy hy1 (by omega)
theorem and_mask (x : Int) (n : Nat) (hn : n ≤ 64) (h₀ : 0 ≤ x) (h₁ : x < 18446744073709551616) : bits .and .u64 x (2 ^ n - 1) = x % 2 ^ n := bits_mask .u64 64 (by decide) wraps_u64 n hn x h₀ h₁

theorem tag_any (x : Int) (h0 : 0 ≤ x) (h1 : x < 18446744073709551616) (w : World) :
    Calls Try.prog 15 #[.int .u64 x] w fun e w' => e = .returned (.int .i64 (x % 8)) ∧ w = w' := by
  have e1 := and7 x h0 h1
  go_enter Try.func15, Try.ntmps15
  go_wp2
  go_ret
  exact ⟨rfl, rfl⟩

/-- what a call of the closure leaves -/
structure Cut (w w' : World) (b : Nat) (y : Int) : Prop where
  here : w'.heap[b]? = some (.cells #[.int .u64 y] 22 (0, 0))
  below : Below b w w'
  size : w'.heap.size = w.heap.size

theorem mask_eq (x n : Int) (h0 : 0 ≤ x) (h1 : x < 18446744073709551616) (hn : 0 ≤ n) (hn1 : n ≤ 63) :
    bits .and .u64 x (IntKind.u64.wrap (IntKind.u64.wrap (2 ^ n.toNat) - 1)) = x % 2 ^ n.toNat := by
  obtain ⟨k, rfl⟩ := Int.eq_ofNat_of_zero_le hn
  have hk : k ≤ 63 := by omega
  have hp : (2 : Int) ^ k ≤ 2 ^ 63 := by
    have := Nat.pow_le_pow_right (n := 2) (by decide) hk
    exact_mod_cast this
  have hp0 : (1 : Int) ≤ 2 ^ k := by
    have := Nat.one_le_two_pow (n := k)
    exact_mod_cast this
  have e : (2 : Int) ^ 63 = 9223372036854775808 := by decide
  rw [e] at hp
  rw [Int.toNat_natCast, wraps_u64 (2 ^ k) (by omega) (by omega), wraps_u64 (2 ^ k - 1) (by omega) (by omega), and_mask x k (by omega) h0 h1]

theorem cut_any (x n : Int) (h0 : 0 ≤ x) (h1 : x < 18446744073709551616) (b : Nat) (w : World) (hb : w.heap[b]? = some (.cells #[.int .u64 x] 22 (0, 0))) (hn : 0 ≤ n) (hn1 : n ≤ 63) :
    Calls Try.prog 33 #[.int .i64 n, .pointer (some ⟨b, 0, none⟩)] w fun e w' => e = .returned (.int .u64 (x % 2 ^ n.toNat)) ∧ Cut w w' b (x / 2 ^ n.toNat) := by
  have hc := cell_of_one hb
  have hf := free_of_one hb
  have em := mask_eq x n h0 h1 hn hn1
  go_enter Try.func33, Try.ntmps33
  go_wp2
  go_quiet (fail)
  go_wp2
  go_ret
  refine ⟨rfl, one_setCell (w := w.drewN nq) hb, (below_drewN (Below.refl b w) nq).setCell (p := ⟨b, 0, none⟩) (Nat.le_refl b) _, by simp⟩

theorem rest_any (x : Int) (w : World) :
    Calls Try.prog 28 #[.int .u64 x] w fun e w' => e = .returned (.func (Fn.func 33) #[] #[.pointer (some ⟨w.heap.size, 0, none⟩)]) ∧ w' = w.alloc (.cells #[.int .u64 (x / 8)] 22 (0, 0)) := by
  go_enter Try.func28, Try.ntmps28
  go_wp2
  go_ret
  exact ⟨rfl, rfl⟩

/-- is a number a character's? -/
def charB (n : Int) : Bool := decide (n < 55296) || (decide (57343 < n) && decide (n ≤ 1114111))
theorem isChar_any (n : Int) (w : World) : Calls Try.prog 30 #[.int .u64 n] w fun e w' => e = .returned (.bool (charB n)) ∧ w' = w := by
  by_cases h1 : n < 55296
  · have hc : charB n = true := by simp [charB, h1]
    rw [hc]
    clear hc
    go_enter Try.func30, Try.ntmps30
    go_wp2
    go_ret
    exact ⟨rfl, rfl⟩
  · by_cases h2 : 57343 < n
    · by_cases h3 : n ≤ 1114111
      · have hc : charB n = true := by simp [charB, h1, h2, h3]
        rw [hc]
        clear hc
        go_enter Try.func30, Try.ntmps30
        go_wp2
        go_ret
        exact ⟨rfl, rfl⟩
      · have hc : charB n = false := by simp [charB, h1, h2, h3]
        rw [hc]
        clear hc
        go_enter Try.func30, Try.ntmps30
        go_wp2
        go_ret
        exact ⟨rfl, rfl⟩
    · have hc : charB n = false := by simp [charB, h1, h2]
      rw [hc]
      clear hc
      go_enter Try.func30, Try.ntmps30
      go_wp2
      go_ret
      exact ⟨rfl, rfl⟩

/-- are these the parts of a header? -/
def headB (k n m : Int) : Bool := decide (1 ≤ k) && decide (k ≤ 13) && decide (n ≤ 62) && decide (m < 281474976710656)
theorem isHeader_any (k n m : Int) (w : World) : Calls Try.prog 31 #[.int .u64 k, .int .u64 n, .int .u64 m] w fun e w' => e = .returned (.bool (headB k n m)) ∧ w' = w := by
  by_cases h1 : 1 ≤ k
  · by_cases h2 : k ≤ 13
    · by_cases h3 : n ≤ 62
      · by_cases h4 : m < 281474976710656
        · have hc : headB k n m = true := by simp [headB, h1, h2, h3, h4]
          rw [hc]
          clear hc
          go_enter Try.func31, Try.ntmps31
          go_wp2
          go_ret
          exact ⟨rfl, rfl⟩
        · have hc : headB k n m = false := by simp [headB, h1, h2, h3, h4]
          rw [hc]
          clear hc
          go_enter Try.func31, Try.ntmps31
          go_wp2
          go_ret
          exact ⟨rfl, rfl⟩
      · have hc : headB k n m = false := by simp [headB, h1, h2, h3]
        rw [hc]
        clear hc
        go_enter Try.func31, Try.ntmps31
        go_wp2
        go_ret
        exact ⟨rfl, rfl⟩
    · have hc : headB k n m = false := by simp [headB, h1, h2]
      rw [hc]
      clear hc
      go_enter Try.func31, Try.ntmps31
      go_wp2
      go_ret
      exact ⟨rfl, rfl⟩
  · have hc : headB k n m = false := by simp [headB, h1]
    rw [hc]
    clear hc
    go_enter Try.func31, Try.ntmps31
    go_wp2
    go_ret
    exact ⟨rfl, rfl⟩

/-- what a word of the tag 4 stands for -/
def constN (lo hi : Int) : Int := if lo = 7 ∧ charB hi = true then 3 else if lo < 7 ∧ hi = 0 then 2 else 0
theorem whatConst_any (lo hi : Int) (w : World) : Calls Try.prog 32 #[.int .u64 lo, .int .u64 hi] w fun e w' => e = .returned (.int .i64 (constN lo hi)) ∧ w' = w := by
  by_cases h1 : lo = 7
  · subst h1
    cases hb : charB hi
    · have hc : constN 7 hi = 0 := by simp [constN, hb]
      rw [hc]
      clear hc
      go_enter Try.func32, Try.ntmps32
      go_wp2_with (go_at_call 30; refine (isChar_any _ _).mono ?_; rintro e w' ⟨rfl, rfl⟩)
      go_ret
      exact ⟨rfl, rfl⟩
    · have hc : constN 7 hi = 3 := by simp [constN, hb]
      rw [hc]
      clear hc
      go_enter Try.func32, Try.ntmps32
      go_wp2_with (go_at_call 30; refine (isChar_any _ _).mono ?_; rintro e w' ⟨rfl, rfl⟩)
      go_ret
      exact ⟨rfl, rfl⟩
  · have h1' : (lo == 7) = false := by simpa using h1
    by_cases h2 : lo < 7
    · by_cases h3 : hi = 0
      · have hc : constN lo hi = 2 := by simp [constN, h1, h2, h3]
        rw [hc]
        clear hc
        have h3' : (hi == 0) = true := by simpa using h3
        clear h1 h3
        go_enter Try.func32, Try.ntmps32
        go_wp2
        go_ret
        exact ⟨rfl, rfl⟩
      · have hc : constN lo hi = 0 := by simp [constN, h1, h3]
        rw [hc]
        clear hc
        have h3' : (hi == 0) = false := by simpa using h3
        clear h1 h3
        go_enter Try.func32, Try.ntmps32
        go_wp2
        go_ret
        exact ⟨rfl, rfl⟩
    · have hc : constN lo hi = 0 := by simp [constN, h1, h2]
      rw [hc]
      clear hc h1
      go_enter Try.func32, Try.ntmps32
      go_wp2
      go_ret
      exact ⟨rfl, rfl⟩

theorem tagged_any (r t : Int) (_h0 : 0 ≤ r) (_h1 : r < 18446744073709551616) (ht : 0 ≤ t) (ht1 : t < 8) (w : World) :
    Calls Try.prog 29 #[.int .u64 r, .int .i64 t] w fun e w' => e = .returned (.int .u64 (r * 8 % 18446744073709551616 + t)) ∧ w' = w := by
  have e1 : bits BinOp.or IntKind.u64 (IntKind.u64.wrap (r * 8)) t = r * 8 % 18446744073709551616 + t := by
    rw [IntKind.wrap_u64]; exact or3 (r * 8 % 18446744073709551616) t (by omega) (by omega) (by omega) ht ht1
  go_enter Try.func29, Try.ntmps29
  go_wp2
  go_ret
  exact ⟨rfl, rfl⟩

theorem cut_to (x n p r q : Int) (hp : (2 : Int) ^ n.toNat = p) (hr : x % p = r) (hq : x / p = q) (h0 : 0 ≤ x) (h1 : x < 18446744073709551616) (b : Nat) (w : World) (hb : w.heap[b]? = some (.cells #[.int .u64 x] 22 (0, 0))) (hn : 0 ≤ n) (hn1 : n ≤ 63) :
    Calls Try.prog 33 #[.int .i64 n, .pointer (some ⟨b, 0, none⟩)] w fun e w' => e = .returned (.int .u64 r) ∧ Cut w w' b q := by
  subst hr; subst hq; subst hp
  exact cut_any x n h0 h1 b w hb hn hn1

/-- what a word stands for -/
def whatN (x : Int) : Int :=
  if x % 8 = 0 then 1
  else if x % 8 = 4 then constN (x / 8 % 32) (x / 8 / 32)
  else if x % 8 = 5 then (if headB (x / 8 % 32) (x / 8 / 32 % 256) (x / 8 / 32 / 256) = true then 5 else 0)
  else if x % 8 = 7 then 0
  else if x / 8 < 65536 then 4 else 0

theorem below_cut {W w w' : World} {b : Nat} {y : Int} (h : Below W.heap.size W w) (hb : W.heap.size ≤ b) (hc : Cut w w' b y) : Below W.heap.size W w' :=
  h.trans (hc.below.mono hb)

theorem what_fix (x : Int) (h0 : 0 ≤ x) (h1 : x < 18446744073709551616) (h8 : x % 8 = 0) (w : World) :
    Calls Try.prog 27 #[.int .u64 x] w fun e w' => e = .returned (.int .i64 1) ∧ Below w.heap.size w w' := by
  have e1 := and7 x h0 h1
  go_enter Try.func27, Try.ntmps27
  go_wp2_with (first | (go_at_call 28; refine (rest_any _ _).mono ?_; rintro e w' ⟨rfl, rfl⟩) | (go_at_call 15; go_in))
  go_ret
  exact ⟨rfl, by go_grown⟩
theorem what_seven (x : Int) (h0 : 0 ≤ x) (h1 : x < 18446744073709551616) (h8 : x % 8 = 7) (w : World) :
    Calls Try.prog 27 #[.int .u64 x] w fun e w' => e = .returned (.int .i64 0) ∧ Below w.heap.size w w' := by
  have e1 := and7 x h0 h1
  go_enter Try.func27, Try.ntmps27
  go_wp2_with (first | (go_at_call 28; refine (rest_any _ _).mono ?_; rintro e w' ⟨rfl, rfl⟩) | (go_at_call 15; go_in))
  go_ret
  exact ⟨rfl, by go_grown⟩
set_option maxHeartbeats 1600000 in
theorem what_addr (x : Int) (h0 : 0 ≤ x) (h1 : x < 18446744073709551616) (h8 : x % 8 = 1 ∨ x % 8 = 2 ∨ x % 8 = 3 ∨ x % 8 = 6) (w : World) :
    Calls Try.prog 27 #[.int .u64 x] w fun e w' => e = .returned (.int .i64 (if x / 8 < 65536 then 4 else 0)) ∧ Below w.heap.size w w' := by
  have e1 := and7 x h0 h1
  by_cases hl : x / 8 < 65536
  · rw [if_pos hl]
    rcases h8 with h8 | h8 | h8 | h8
    all_goals
      go_enter Try.func27, Try.ntmps27
      go_wp2_with (first | (go_at_call 28; refine (rest_any _ _).mono ?_; rintro e w' ⟨rfl, rfl⟩) | (go_at_call 15; go_in))
      refine (cut_to (x / 8) 61 2305843009213693952 (x / 8) 0 (by decide) (by omega) (by omega) (by omega) (by omega) w.heap.size _ (heap_alloc_new _ _) (by decide) (by decide)).mono ?_
      rintro e w' ⟨rfl, hc⟩
      go_wp2
      go_ret
      exact ⟨rfl, below_cut (by go_grown) (Nat.le_refl _) hc⟩
  · rw [if_neg hl]
    rcases h8 with h8 | h8 | h8 | h8
    all_goals
      go_enter Try.func27, Try.ntmps27
      go_wp2_with (first | (go_at_call 28; refine (rest_any _ _).mono ?_; rintro e w' ⟨rfl, rfl⟩) | (go_at_call 15; go_in))
      refine (cut_to (x / 8) 61 2305843009213693952 (x / 8) 0 (by decide) (by omega) (by omega) (by omega) (by omega) w.heap.size _ (heap_alloc_new _ _) (by decide) (by decide)).mono ?_
      rintro e w' ⟨rfl, hc⟩
      go_wp2
      go_ret
      exact ⟨rfl, below_cut (by go_grown) (Nat.le_refl _) hc⟩
theorem what_const (x : Int) (h0 : 0 ≤ x) (h1 : x < 18446744073709551616) (h8 : x % 8 = 4) (w : World) :
    Calls Try.prog 27 #[.int .u64 x] w fun e w' => e = .returned (.int .i64 (constN (x / 8 % 32) (x / 8 / 32))) ∧ Below w.heap.size w w' := by
  have e1 := and7 x h0 h1
  go_enter Try.func27, Try.ntmps27
  go_wp2_with (first | (go_at_call 28; refine (rest_any _ _).mono ?_; rintro e w' ⟨rfl, rfl⟩) | (go_at_call 15; go_in))
  refine (cut_to (x / 8) 5 32 (x / 8 % 32) (x / 8 / 32) (by decide) rfl rfl (by omega) (by omega) w.heap.size _ (heap_alloc_new _ _) (by decide) (by decide)).mono ?_
  rintro e w1 ⟨rfl, hc⟩
  go_wp2_with fail
  refine (cut_to (x / 8 / 32) 56 72057594037927936 (x / 8 / 32) 0 (by decide) (by omega) (by omega) (by omega) (by omega) w.heap.size _ hc.here (by decide) (by decide)).mono ?_
  rintro e w2 ⟨rfl, hc2⟩
  go_wp2_with (go_at_call 32; refine (whatConst_any _ _ _).mono ?_; rintro e w' ⟨rfl, rfl⟩)
  go_ret
  exact ⟨rfl, below_cut (below_cut (by go_grown) (Nat.le_refl _) hc) (Nat.le_refl _) hc2⟩
set_option maxHeartbeats 1600000 in
theorem what_header (x : Int) (h0 : 0 ≤ x) (h1 : x < 18446744073709551616) (h8 : x % 8 = 5) (w : World) :
    Calls Try.prog 27 #[.int .u64 x] w fun e w' => e = .returned (.int .i64 (if headB (x / 8 % 32) (x / 8 / 32 % 256) (x / 8 / 32 / 256) = true then 5 else 0)) ∧ Below w.heap.size w w' := by
  have e1 := and7 x h0 h1
  cases hh : headB (x / 8 % 32) (x / 8 / 32 % 256) (x / 8 / 32 / 256)
  all_goals
    go_enter Try.func27, Try.ntmps27
    go_wp2_with (first | (go_at_call 28; refine (rest_any _ _).mono ?_; rintro e w' ⟨rfl, rfl⟩) | (go_at_call 15; go_in))
    refine (cut_to (x / 8) 5 32 (x / 8 % 32) (x / 8 / 32) (by decide) rfl rfl (by omega) (by omega) w.heap.size _ (heap_alloc_new _ _) (by decide) (by decide)).mono ?_
    rintro e w1 ⟨rfl, hc⟩
    go_wp2_with fail
    refine (cut_to (x / 8 / 32) 8 256 (x / 8 / 32 % 256) (x / 8 / 32 / 256) (by decide) rfl rfl (by omega) (by omega) w.heap.size _ hc.here (by decide) (by decide)).mono ?_
    rintro e w2 ⟨rfl, hc2⟩
    go_wp2_with fail
    refine (cut_to (x / 8 / 32 / 256) 48 281474976710656 (x / 8 / 32 / 256) 0 (by decide) (by omega) (by omega) (by omega) (by omega) w.heap.size _ hc2.here (by decide) (by decide)).mono ?_
    rintro e w3 ⟨rfl, hc3⟩
    go_wp2_with (go_at_call 31; refine (isHeader_any _ _ _ _).mono ?_; rintro e w' ⟨rfl, rfl⟩)
    go_ret
    exact ⟨rfl, below_cut (below_cut (below_cut (by go_grown) (Nat.le_refl _) hc) (Nat.le_refl _) hc2) (Nat.le_refl _) hc3⟩
theorem what_any (x : Int) (h0 : 0 ≤ x) (h1 : x < 18446744073709551616) (w : World) :
    Calls Try.prog 27 #[.int .u64 x] w fun e w' => e = .returned (.int .i64 (whatN x)) ∧ Below w.heap.size w w' := by
  unfold whatN
  by_cases a : x % 8 = 0
  · rw [if_pos a]; exact what_fix x h0 h1 a w
  rw [if_neg a]
  by_cases b : x % 8 = 4
  · rw [if_pos b]; exact what_const x h0 h1 b w
  rw [if_neg b]
  by_cases c : x % 8 = 5
  · rw [if_pos c]; exact what_header x h0 h1 c w
  rw [if_neg c]
  by_cases d : x % 8 = 7
  · rw [if_pos d]; exact what_seven x h0 h1 d w
  rw [if_neg d]
  exact what_addr x h0 h1 (by omega) w
end Go.Proofs.Ytlpogdhdfopioaa
