/- The document's differences of rows of bits, and its sum of two values. -/
import Derived.Test.YtocoflojlliapaaDoorS1
import Derived.Deep.RegionHeld3
set_option linter.unusedVariables false
namespace Go.Proofs.YtocoflojlliapaaDoor
open Go.RowKit
/-- the difference by now -/
def Mi (xs ys : List Nat) (i k : Nat) (os : List Nat) : Prop := os.length = i ∧ Low 2 os ∧ k ≤ 1 ∧ val 2 os + val 2 (ys.take i) = val 2 (xs.take i) + 2 ^ i * k
theorem Mi.zero (xs ys : List Nat) : Mi xs ys 0 0 [] := ⟨rfl, Low.nil, by omega, by simp [val]⟩
theorem Mi.next {xs ys os : List Nat} {i k x y d k' : Nat} (h : Mi xs ys i k os) (hx : lmb xs i = x) (hy : lmb ys i = y) (hd : d + y + k = x + 2 * k') (d1 : d < 2) (h1 : k' ≤ 1) : Mi xs ys (i + 1) k' (os ++ [d]) := by
  obtain ⟨e1, e2, e3, e4⟩ := h
  refine ⟨by simp [e1], e2.append (Low.cons d1 Low.nil), h1, ?_⟩
  rw [val_snoc, e1, vtake, vtake, hx, hy, Nat.pow_succ]
  exact sub_step e4 hd
theorem Mi.done {xs ys os : List Nat} {i k a b : Nat} (h : Mi xs ys i k os) (hx : xs.length = i) (lx : Low 2 xs) (ly : Low 2 ys) (va : val 2 xs = a) (vb : val 2 ys = b) (hab : b ≤ a) : val 2 os = a - b := by
  obtain ⟨e1, e2, e3, e4⟩ := h
  rw [List.take_of_length_le (by omega : xs.length ≤ i), va] at e4
  have h1 := val_lt (by decide) lx
  rw [hx, va] at h1
  have h2 := val_lt (by decide) e2
  rw [e1] at h2
  have h3 : val 2 (ys.take i) = b := by
    rcases Nat.lt_or_ge i ys.length with h | h
    · have h4 := val_take_drop 2 ys i (by omega)
      rw [vb] at h4
      rcases Nat.eq_zero_or_pos (val 2 (ys.drop i)) with h5 | h5
      · rw [h5] at h4; omega
      · have : 2 ^ i * 1 ≤ 2 ^ i * val 2 (ys.drop i) := Nat.mul_le_mul_left _ h5
        omega
    · rw [List.take_of_length_le h, vb]
  rw [h3] at e4
  rcases Nat.lt_or_ge k 1 with hk | hk
  · have : k = 0 := by omega
    subst this
    omega
  · have : k = 1 := by omega
    subst this
    omega
set_option maxHeartbeats 1600000 in
theorem minusB (A1 A2 : Option Addr) (n1 c1 n2 c2 a b : Nat) (w : World) (h1 : Bit w A1 n1 c1 a) (h2 : Bit w A2 n2 c2 b) (l1 : n1 ≤ 100000) (l2 : n2 ≤ 100000) (hab : b ≤ a) :
    Calls Tryd.prog 60 #[.slice A1 n1 c1, .slice A2 n2 c2] w fun e w' => ∃ B d, e = .returned (.slice B (bl (a - b)) d) ∧ Bit w' B (bl (a - b)) d (a - b) ∧ Fro w.heap.size B (bl (a - b)) ∧ Below w.heap.size w w' := by
  obtain ⟨xs, x1, x2, x3, x4, x5⟩ := h1
  obtain ⟨ys, y1, y2, y3, y4, y5⟩ := h2
  have HX := Lib.hid (And.intro x2 (And.intro x3 x4))
  have HY := Lib.hid (And.intro y2 (And.intro y3 y4))
  have X3 := Lib.hid x3
  have Y3 := Lib.hid y3
  have HAB := Lib.hid hab
  clear x2 x3 x4 x5 y2 y3 y4 y5 hab
  go_enter Tryd.func60, Tryd.ntmps60
  go_wp2
  go_loopw [5, 6, 7] (fun ov cv iv wr => ∃ (i k : Nat) (os : List Nat) (B : Option Addr) (d : Nat), i ≤ n1 ∧ k ≤ 1 ∧ iv = .int .i64 i ∧ cv = .int .i64 k ∧ ov = .slice B i d ∧ wr.ownsRow w.heap.size 5 1 (.slice B i d) i (cl .u8 os) ∧ Hid (Mi xs ys i k os) ∧ Below w.heap.size w wr) (fun _ _ iv _ => n1 - (intOf iv).toNat)
  case atStart => exact ⟨0, 0, [], none, 0, by omega, by omega, rfl, rfl, rfl, own_nil, Lib.hid (Mi.zero xs ys), Below.refl _ _⟩
  case round =>
    obtain ⟨i, k, os, B, d, hi, hk, rfl, rfl, rfl, hown, hP, hbel⟩ := hrel
    have BX := fun V (hV : Below w.heap.size w V) => Lib.hid (bit_at A1 xs n1 c1 i w.heap.size V (x1.below hV) X3 (by omega) (by omega) _ (Lib.hid rfl) (bit_lt HX.out.1 i))
    have BY := fun V (hV : Below w.heap.size w V) => Lib.hid (bit_at A2 ys n2 c2 i w.heap.size V (y1.below hV) Y3 (by omega) (by omega) _ (Lib.hid rfl) (bit_lt HY.out.1 i))
    obtain ⟨x, hx⟩ : ∃ x, lmb xs i = x := ⟨_, rfl⟩
    obtain ⟨y, hy⟩ : ∃ y, lmb ys i = y := ⟨_, rfl⟩
    have ex : x ≤ 1 := by rw [← hx]; exact bit_lt HX.out.1 i
    have ey : y ≤ 1 := by rw [← hy]; exact bit_lt HY.out.1 i
    rw [hx] at BX
    rw [hy] at BY
    by_cases hlt : i < n1
    · have HP := Lib.hid (And.intro hx hy)
      clear hx hy
      rcases (show (x = 0 ∨ x = 1) by omega) with rfl | rfl <;> rcases (show (y = 0 ∨ y = 1) by omega) with rfl | rfl <;> rcases (show (k = 0 ∨ k = 1) by omega) with rfl | rfl
      all_goals
        go_wp2_with (first
          | (go_at_call 74; (with_reducible refine ((BX _ hbel).out).mono ?_); rintro e w' ⟨rfl, rfl⟩)
          | (go_at_call 74; (with_reducible refine ((BY _ hbel).out).mono ?_); rintro e w' ⟨rfl, rfl⟩)
          | (at_builtin; refine app_any (k := .u8) 28 5 1 Tryd.underlying28 u8_info (by decide) _ rfl _ _ rfl rfl w.heap.size (.slice B i d) i _ rfl (hown.alloc _) _ (some ⟨wr.heap.size, 0, none⟩) 1 1 [0] rfl (one_lim .u8 wr 5 0) (Lib.hid rfl) (by omega) (by have := hbel.size; simp; omega) ?_; intro v3 w3 hown3 hgr3; refine Hid.out ?_)
          | (at_builtin; refine app_any (k := .u8) 28 5 1 Tryd.underlying28 u8_info (by decide) _ rfl _ _ rfl rfl w.heap.size (.slice B i d) i _ rfl (hown.alloc _) _ (some ⟨wr.heap.size, 0, none⟩) 1 1 [1] rfl (one_lim .u8 wr 5 1) (Lib.hid rfl) (by omega) (by have := hbel.size; simp; omega) ?_; intro v3 w3 hown3 hgr3; refine Hid.out ?_))
        refine Lib.hid ?_
        obtain ⟨B3, d3, rfl⟩ := own_slice hown3
        have hb3 : Below w.heap.size w w3 := (below_al hbel _).grown hgr3 (below_al hbel _).size (own_ge hown)
        clear hgr3
        go_wp2
        go_roundw
        case rel => first
          | exact ⟨i + 1, 0, _, B3, d3, by omega, by omega, by go_num, rfl, rfl, hown3, Lib.hid (hP.out.next HP.out.1 HP.out.2 (k' := 0) rfl (by omega) (by omega)), hb3⟩
          | exact ⟨i + 1, 1, _, B3, d3, by omega, by omega, by go_num, rfl, rfl, hown3, Lib.hid (hP.out.next HP.out.1 HP.out.2 (k' := 1) rfl (by omega) (by omega)), hb3⟩
        case measure => simp [intOf]; omega
    · obtain rfl : n1 = i := by omega
      have HV : Hid (val 2 os = a - b ∧ Low 2 os ∧ os.length = n1) := Lib.hid ⟨hP.out.done X3.out HX.out.1 HY.out.1 HX.out.2.2 HY.out.2.2 HAB.out, hP.out.2.1, hP.out.1⟩
      have HBit : Bit wr B n1 d (a - b) := ⟨os, by have h := Lim.of_own (by rw [HV.out.2.2]; exact hown); exact h, HV.out.2.1, HV.out.2.2, HV.out.1, own_cap hown⟩
      clear hx hy BX BY
      go_wp2_with (go_at_call 78; refine (cut_bit B n1 d (a - b) _ HBit (by omega)).mono ?_; rintro e w' ⟨rfl, rfl⟩)
      go_ret
      exact ⟨B, d, rfl, HBit.trim, (Fro.of_own hown).cut HBit.le, hbel⟩
end Go.Proofs.YtocoflojlliapaaDoor
