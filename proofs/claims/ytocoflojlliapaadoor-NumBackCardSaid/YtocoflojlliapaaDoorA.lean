import Derived.Test.YtocoflojlliapaaDoorProg
import Derived.Test.YtocoflojlliapaaDoorP0
import Derived.Test.YtocoflojlliapaaDoorM5
import Derived.WalkKit
import Derived.Handy
import Derived.OneCell
import Derived.Outline
import Derived.Lib.Hide
import Derived.BigQuiet
import Derived.StillTailTactics
set_option linter.unusedVariables false
namespace Go.Proofs.YtocoflojlliapaaDoor
open Go.RowKit
def lenOf (v : Value) : Nat := match v with | .slice _ n _ => n | _ => 0
set_option maxHeartbeats 400000 in
theorem trim_any (A : Option Addr) (xs : List Nat) (c : Nat) (B : Nat) (w : World) (hx : Lim .u32 B w A xs) (hc : xs.length ≤ c) (hl : xs.length ≤ 140737488355328) :
    Calls Tryd.prog 54 #[.slice A xs.length c] w fun e w' => e = .returned (.slice A (trimL xs).length c) ∧ w = w' := by
  go_enter Tryd.func54, Tryd.ntmps54
  go_wp2
  go_loop [0] (fun l => ∃ k : Nat, k ≤ xs.length ∧ l = .slice A k c ∧ trimL (xs.take k) = trimL xs) (fun l => lenOf l)
  case atStart => exact ⟨xs.length, Nat.le_refl _, rfl, by rw [List.take_length]⟩
  case round =>
    obtain ⟨k, hk, rfl, ht⟩ := hrel
    have HT := Lib.hid ht
    clear ht
    by_cases h0 : k = 0
    · subst h0
      go_wp2
      go_ret
      have := HT.out
      rw [← this]
      exact ⟨rfl, rfl⟩
    · obtain ⟨ad, rfl, hb, hcell⟩ := hx.at (i := k - 1) (by omega)
      by_cases hz : xs[k - 1]'(by omega) = 0
      · rw [hz] at hcell
        go_wp2
        go_round
        case rel => exact ⟨k - 1, by omega, by go_num, by
          rw [← HT.out, show xs.take k = xs.take (k - 1) ++ [0] by
            rw [← hz, ← take_snoc xs (k - 1) (by omega), show k - 1 + 1 = k by omega], trimL_zero]⟩
        case measure => simp [lenOf]; omega
      · go_wp2
        go_ret
        have e : xs.take k = xs.take (k - 1) ++ [xs[k - 1]'(by omega)] := by rw [← take_snoc xs (k - 1) (by omega), show k - 1 + 1 = k by omega]
        have := HT.out
        rw [← this, e, trimL_last hz, ← e]
        simp
        omega

set_option maxHeartbeats 400000 in
theorem limb_any (A : Option Addr) (xs : List Nat) (c i : Nat) (B : Nat) (w : World) (hx : Lim .u32 B w A xs) (hl : xs.length ≤ 140737488355328) (hi : i ≤ 140737488355328) :
    Calls Tryd.prog 56 #[.slice A xs.length c, .int .i64 i] w fun e w' => e = .returned (.int .u32 (lmb xs i : Nat)) ∧ w = w' := by
  by_cases h : i < xs.length
  · obtain ⟨ad, rfl, hb, hcell⟩ := hx.at h
    have H := Lib.hid (lmb_in h)
    go_enter Tryd.func56, Tryd.ntmps56
    go_wp2
    go_ret
    rw [H.out]
    exact ⟨rfl, rfl⟩
  · have H := Lib.hid (lmb_out (xs := xs) (i := i) (by omega))
    go_enter Tryd.func56, Tryd.ntmps56
    go_wp2
    go_ret
    rw [H.out]
    exact ⟨rfl, rfl⟩
set_option maxHeartbeats 400000 in
theorem add32 (x y c : Nat) (x1 : x < 4294967296) (y1 : y < 4294967296) (c1 : c < 4294967296) (w : World) :
    Calls Tryd.prog 91 #[.int .u32 x, .int .u32 y, .int .u32 c] w fun e w' => e = .returned (.tuple #[.int .u32 (addLo x y c : Nat), .int .u32 (addHi x y c : Nat)]) ∧ w = w' := by
  have H1 := Lib.hid (show ((x : Int) + y + c) % 4294967296 = (addLo x y c : Nat) by unfold addLo; omega)
  have H2 := Lib.hid (show ((x : Int) + y + c) / 4294967296 = (addHi x y c : Nat) by unfold addHi; omega)
  go_enter Tryd.func91, Tryd.ntmps91
  go_wp2
  go_ret2
  rw [← H1.out, ← H2.out]
  exact ⟨rfl, rfl⟩
set_option maxHeartbeats 400000 in
theorem sub32 (x y b : Nat) (x1 : x < 4294967296) (y1 : y < 4294967296) (b1 : b ≤ 1) (w : World) :
    Calls Tryd.prog 82 #[.int .u32 x, .int .u32 y, .int .u32 b] w fun e w' => e = .returned (.tuple #[.int .u32 (subLo x y b : Nat), .int .u32 (subHi x y b : Nat)]) ∧ w = w' := by
  have H1 := Lib.hid (subLo_int x y b x1 y1 b1)
  have H2 := Lib.hid (sub32_bits x y b x1 y1 b1)
  go_enter Tryd.func82, Tryd.ntmps82
  go_wp2
  go_ret2
  rw [← H2.out, ← H1.out]
  exact ⟨rfl, rfl⟩
set_option maxHeartbeats 400000 in
theorem mul32 (x y : Nat) (x1 : x < 4294967296) (y1 : y < 4294967296) (w : World) :
    Calls Tryd.prog 101 #[.int .u32 x, .int .u32 y] w fun e w' => e = .returned (.tuple #[.int .u32 (mulHi x y : Nat), .int .u32 (mulLo x y : Nat)]) ∧ w = w' := by
  have h0 := mul_sq x1 y1
  have h1 : (x : Int) * y ≤ 18446744065119617025 := by
    rw [← Int.natCast_mul]
    omega
  have h2 : 0 ≤ (x : Int) * y := by
    rw [← Int.natCast_mul]
    omega
  have H1 := Lib.hid (show ((x : Int) * y) % 4294967296 = (mulLo x y : Nat) by unfold mulLo; rw [← Int.natCast_mul]; omega)
  have H2 := Lib.hid (show ((x : Int) * y) / 4294967296 = (mulHi x y : Nat) by unfold mulHi; rw [← Int.natCast_mul]; omega)
  clear h0
  go_enter Tryd.func101, Tryd.ntmps101
  go_wp2
  go_ret2
  rw [← H1.out, ← H2.out]
  exact ⟨rfl, rfl⟩
def divLo (h l y : Nat) : Nat := (h * 4294967296 + l) / y
def divHi (h l y : Nat) : Nat := (h * 4294967296 + l) % y
theorem wraps_u64 (n : Int) (h₀ : 0 ≤ n) (h₁ : n < 2 ^ 64) : IntKind.u64.wrap n = n := by rw [IntKind.wrap_u64]; omega
set_option maxHeartbeats 400000 in
theorem div32i (h l y z : Int) (h0 : 0 ≤ h) (hy : h < y) (y1 : y < 4294967296) (l0 : 0 ≤ l) (l1 : l < 4294967296) (eo : bits .or .u64 (h * 4294967296) l = z) (z0 : 0 ≤ z) (z1 : z ≤ 18446744073709551615)
    (q0 : 0 ≤ z / y) (q1 : z / y < 4294967296) (r0 : 0 ≤ z % y) (r1 : z % y < 4294967296) (e0 : (y != 0) = true) (w : World) :
    Calls Tryd.prog 83 #[.int .u32 h, .int .u32 l, .int .u32 y] w fun e w' => e = .returned (.tuple #[.int .u32 (z / y), .int .u32 (z % y)]) ∧ ∃ n, w' = w.drewN n := by
  go_enter Tryd.func83, Tryd.ntmps83
  go_wp2
  go_quiet (fail)
  go_wp2
  go_ret2
  exact ⟨rfl, _, rfl⟩
theorem div32 (h l y : Nat) (hy : h < y) (y1 : y < 4294967296) (l1 : l < 4294967296) (w : World) :
    Calls Tryd.prog 83 #[.int .u32 h, .int .u32 l, .int .u32 y] w fun e w' => e = .returned (.tuple #[.int .u32 (divLo h l y : Nat), .int .u32 (divHi h l y : Nat)]) ∧ ∃ n, w' = w.drewN n := by
  have eo : bits .or .u64 ((h : Int) * 4294967296) l = (h : Int) * 4294967296 + l := bits_join .u64 64 (by decide) wraps_u64 32 _ _ (by omega) (by omega) (by omega) (by omega) (by omega) (by omega)
  have hq : (h * 4294967296 + l) / y < 4294967296 := by
    rw [Nat.div_lt_iff_lt_mul (by omega)]
    have : (h + 1) * 4294967296 ≤ y * 4294967296 := Nat.mul_le_mul_right _ hy
    rw [Nat.mul_comm y] at this
    omega
  have hr : (h * 4294967296 + l) % y < y := Nat.mod_lt _ (by omega)
  have e1 : (h : Int) * 4294967296 + l = ((h * 4294967296 + l : Nat) : Int) := by omega
  rw [e1] at eo
  have hz : h * 4294967296 + l < 18446744073709551616 := by omega
  have k1 : ((h * 4294967296 + l : Nat) : Int) / y = (divLo h l y : Nat) := by unfold divLo; exact (Int.natCast_ediv _ _).symm
  have k2 : ((h * 4294967296 + l : Nat) : Int) % y = (divHi h l y : Nat) := by unfold divHi; exact (Int.natCast_emod _ _).symm
  have b1 : divLo h l y < 4294967296 := hq
  have b2 : divHi h l y < y := hr
  have := div32i h l y _ (by omega) (by omega) (by omega) (by omega) (by omega) eo (by omega) (by omega) (by rw [k1]; omega) (by rw [k1]; omega) (by rw [k2]; omega) (by rw [k2]; omega) (by rw [bne_iff_ne]; omega) w
  rw [k1, k2] at this
  exact this
end Go.Proofs.YtocoflojlliapaaDoor
