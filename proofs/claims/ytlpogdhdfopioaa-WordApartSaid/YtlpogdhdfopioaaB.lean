import Derived.Test.YtlpogdhdfopioaaA
import Derived.WalkKit
import Derived.Handy
import Derived.Below
import Derived.OneCell
import Derived.Lib.Hide
import Derived.Deep.QuietTactic
import Derived.BigQuiet
namespace Go.Proofs.Ytlpogdhdfopioaa
open Go.RowKit
/-- a fixnum's value -/
def fixV (x : Int) : Int := ((x + 9223372036854775808) % 18446744073709551616 - 9223372036854775808) / 8

theorem int_yes (x : Int) (h0 : 0 ≤ x) (h1 : x < 18446744073709551616) (hk : whatN x = 1) (w : World) :
    Calls Try.prog 10 #[.int .u64 x] w fun e w' => e = .returned (.tuple #[.int .i64 (fixV x), .bool true]) ∧ Below w.heap.size w w' := by
  have e1 : wrap64 x / 8 = fixV x := by unfold wrap64 fixV; rfl
  go_enter Try.func10, Try.ntmps10
  go_wp2_with (go_at_call 27; refine (what_any _ h0 h1 _).mono ?_; rintro e w' ⟨rfl, hb⟩)
  go_ret2
  exact ⟨rfl, hb⟩
theorem int_no (x : Int) (h0 : 0 ≤ x) (h1 : x < 18446744073709551616) (hk : (whatN x != 1) = true) (w : World) :
    Calls Try.prog 10 #[.int .u64 x] w fun e w' => e = .returned (.tuple #[.int .i64 0, .bool false]) ∧ Below w.heap.size w w' := by
  go_enter Try.func10, Try.ntmps10
  go_wp2_with (go_at_call 27; refine (what_any _ h0 h1 _).mono ?_; rintro e w' ⟨rfl, hb⟩)
  go_ret2
  exact ⟨rfl, hb⟩

theorem rune_yes (x : Int) (h0 : 0 ≤ x) (h1 : x < 18446744073709551616) (hk : whatN x = 3) (hm : x / 8 / 32 ≤ 1114111) (w : World) :
    Calls Try.prog 11 #[.int .u64 x] w fun e w' => e = .returned (.tuple #[.int .i32 (x / 8 / 32), .bool true]) ∧ Below w.heap.size w w' := by
  go_enter Try.func11, Try.ntmps11
  go_wp2_with (go_at_call 27; refine (what_any _ h0 h1 _).mono ?_; rintro e w1 ⟨rfl, hb⟩)
  refine (rest_any _ _).mono ?_
  rintro e w2 ⟨rfl, rfl⟩
  have hz := hb.size
  go_wp2_with fail
  refine (cut_to (x / 8) 5 32 (x / 8 % 32) (x / 8 / 32) (by decide) rfl rfl (by omega) (by omega) w1.heap.size _ (heap_alloc_new _ _) (by decide) (by decide)).mono ?_
  rintro e w2 ⟨rfl, hc⟩
  go_wp2_with fail
  refine (cut_to (x / 8 / 32) 56 72057594037927936 (x / 8 / 32) 0 (by decide) (by omega) (by omega) (by omega) (by omega) w1.heap.size _ hc.here (by decide) (by decide)).mono ?_
  rintro e w3 ⟨rfl, hc2⟩
  go_wp2_with fail
  go_ret2
  exact ⟨rfl, below_cut (below_cut (hb.alloc (by omega) _) hz hc) hz hc2⟩
theorem rune_no (x : Int) (h0 : 0 ≤ x) (h1 : x < 18446744073709551616) (hk : (whatN x != 3) = true) (w : World) :
    Calls Try.prog 11 #[.int .u64 x] w fun e w' => e = .returned (.tuple #[.int .i32 0, .bool false]) ∧ Below w.heap.size w w' := by
  go_enter Try.func11, Try.ntmps11
  go_wp2_with (go_at_call 27; refine (what_any _ h0 h1 _).mono ?_; rintro e w' ⟨rfl, hb⟩)
  go_ret2
  exact ⟨rfl, hb⟩
theorem addr_yes (x : Int) (h0 : 0 ≤ x) (h1 : x < 18446744073709551616) (hk : whatN x = 4) (hm : x / 8 < 65536) (w : World) :
    Calls Try.prog 12 #[.int .u64 x] w fun e w' => e = .returned (.tuple #[.int .i64 (x / 8), .bool true]) ∧ Below w.heap.size w w' := by
  go_enter Try.func12, Try.ntmps12
  go_wp2_with (go_at_call 27; refine (what_any _ h0 h1 _).mono ?_; rintro e w1 ⟨rfl, hb⟩)
  refine (rest_any _ _).mono ?_
  rintro e w2 ⟨rfl, rfl⟩
  have hz := hb.size
  go_wp2_with fail
  refine (cut_to (x / 8) 61 2305843009213693952 (x / 8) 0 (by decide) (by omega) (by omega) (by omega) (by omega) w1.heap.size _ (heap_alloc_new _ _) (by decide) (by decide)).mono ?_
  rintro e w2 ⟨rfl, hc⟩
  go_wp2_with fail
  go_ret2
  exact ⟨rfl, below_cut (hb.alloc (by omega) _) hz hc⟩
theorem addr_no (x : Int) (h0 : 0 ≤ x) (h1 : x < 18446744073709551616) (hk : (whatN x != 4) = true) (w : World) :
    Calls Try.prog 12 #[.int .u64 x] w fun e w' => e = .returned (.tuple #[.int .i64 0, .bool false]) ∧ Below w.heap.size w w' := by
  go_enter Try.func12, Try.ntmps12
  go_wp2_with (go_at_call 27; refine (what_any _ h0 h1 _).mono ?_; rintro e w' ⟨rfl, hb⟩)
  go_ret2
  exact ⟨rfl, hb⟩
theorem head_yes (x : Int) (h0 : 0 ≤ x) (h1 : x < 18446744073709551616) (hk : whatN x = 5) (w : World) :
    Calls Try.prog 13 #[.int .u64 x] w fun e w' => e = .returned (.tuple #[.int .i64 (x / 8 % 32), .int .i64 (x / 8 / 32 % 256), .int .u64 (x / 8 / 32 / 256), .bool true]) ∧ Below w.heap.size w w' := by
  go_enter Try.func13, Try.ntmps13
  go_wp2_with (go_at_call 27; refine (what_any _ h0 h1 _).mono ?_; rintro e w1 ⟨rfl, hb⟩)
  refine (rest_any _ _).mono ?_
  rintro e w2 ⟨rfl, rfl⟩
  have hz := hb.size
  go_wp2_with fail
  refine (cut_to (x / 8) 5 32 (x / 8 % 32) (x / 8 / 32) (by decide) rfl rfl (by omega) (by omega) w1.heap.size _ (heap_alloc_new _ _) (by decide) (by decide)).mono ?_
  rintro e w2 ⟨rfl, hc⟩
  go_wp2_with fail
  refine (cut_to (x / 8 / 32) 8 256 (x / 8 / 32 % 256) (x / 8 / 32 / 256) (by decide) rfl rfl (by omega) (by omega) w1.heap.size _ hc.here (by decide) (by decide)).mono ?_
  rintro e w3 ⟨rfl, hc2⟩
  go_wp2_with fail
  refine (cut_to (x / 8 / 32 / 256) 48 281474976710656 (x / 8 / 32 / 256) 0 (by decide) (by omega) (by omega) (by omega) (by omega) w1.heap.size _ hc2.here (by decide) (by decide)).mono ?_
  rintro e w4 ⟨rfl, hc3⟩
  go_wp2_with fail
  go_returns
  exact ⟨rfl, below_cut (below_cut (below_cut (hb.alloc (by omega) _) hz hc) hz hc2) hz hc3⟩
theorem head_no (x : Int) (h0 : 0 ≤ x) (h1 : x < 18446744073709551616) (hk : (whatN x != 5) = true) (w : World) :
    Calls Try.prog 13 #[.int .u64 x] w fun e w' => e = .returned (.tuple #[.int .i64 0, .int .i64 0, .int .u64 0, .bool false]) ∧ Below w.heap.size w w' := by
  go_enter Try.func13, Try.ntmps13
  go_wp2_with (go_at_call 27; refine (what_any _ h0 h1 _).mono ?_; rintro e w' ⟨rfl, hb⟩)
  go_returns
  exact ⟨rfl, hb⟩
theorem may_any (x : Int) (h0 : 0 ≤ x) (h1 : x < 18446744073709551616) (b : Bool) (hk : (whatN x != 0) = b) (w : World) :
    Calls Try.prog 14 #[.int .u64 x] w fun e w' => e = .returned (.bool b) ∧ Below w.heap.size w w' := by
  go_enter Try.func14, Try.ntmps14
  go_wp2_with (go_at_call 27; refine (what_any _ h0 h1 _).mono ?_; rintro e w' ⟨rfl, hb⟩)
  go_ret
  exact ⟨rfl, hb⟩
theorem truth_any (x : Int) (w : World) :
    Calls Try.prog 16 #[.int .u64 x] w fun e w' => e = .returned (.bool (x != 4)) ∧ w' = w := by
  go_enter Try.func16, Try.ntmps16
  go_wp2
  go_ret
  exact ⟨rfl, rfl⟩
end Go.Proofs.Ytlpogdhdfopioaa
