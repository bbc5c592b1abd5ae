import Derived.Test.YtocoflojlliapaaDoorM3
import Derived.Laws.BitsAllLaws
set_option linter.unusedVariables false
namespace Go.Proofs.YtocoflojlliapaaDoor
/-- the base -/
abbrev Bs : Nat := 4294967296
def addLo (x y c : Nat) : Nat := (x + y + c) % 4294967296
def addHi (x y c : Nat) : Nat := (x + y + c) / 4294967296
def subLo (x y b : Nat) : Nat := (x + 4294967296 * (if x < y + b then 1 else 0)) - y - b
def subHi (x y b : Nat) : Nat := if x < y + b then 1 else 0
def mulLo (x y : Nat) : Nat := x * y % 4294967296
def mulHi (x y : Nat) : Nat := x * y / 4294967296
def lmb (xs : List Nat) (i : Nat) : Nat := xs.getD i 0
def cmpN (m n : Nat) : Int := if m < n then -1 else if n < m then 1 else 0
theorem addLo_lt (x y c : Nat) : addLo x y c < 4294967296 := Nat.mod_lt _ (by decide)
theorem addHi_le (x y c : Nat) (hx : x < 4294967296) (hy : y < 4294967296) (hc : c ≤ 1) : addHi x y c ≤ 1 := by unfold addHi; omega
theorem add_eq (x y c : Nat) : x + y + c = addLo x y c + 4294967296 * addHi x y c := by unfold addLo addHi; omega
theorem subHi_le (x y b : Nat) : subHi x y b ≤ 1 := by unfold subHi; split <;> omega
theorem sub_eq (x y b : Nat) (hx : x < 4294967296) (hy : y < 4294967296) (hb : b ≤ 1) : subLo x y b + y + b = x + 4294967296 * subHi x y b := by unfold subLo subHi; split <;> omega
theorem subLo_lt (x y b : Nat) (hx : x < 4294967296) (hy : y < 4294967296) (hb : b ≤ 1) : subLo x y b < 4294967296 := by unfold subLo; split <;> omega
theorem mulLo_lt (x y : Nat) : mulLo x y < 4294967296 := Nat.mod_lt _ (by decide)
theorem mul_sq {x y : Nat} (hx : x < 4294967296) (hy : y < 4294967296) : x * y ≤ 18446744065119617025 := by
  have h1 : x * y ≤ 4294967295 * 4294967295 := Nat.mul_le_mul (by omega) (by omega)
  omega
theorem mulHi_lt (x y : Nat) (hx : x < 4294967296) (hy : y < 4294967296) : mulHi x y < 4294967295 := by
  have := mul_sq hx hy
  unfold mulHi
  omega
theorem mul_eq (x y : Nat) : x * y = mulLo x y + 4294967296 * mulHi x y := by unfold mulLo mulHi; omega
theorem lmb_lt {xs : List Nat} (h : Low 4294967296 xs) (i : Nat) : lmb xs i < 4294967296 := h.getD (by decide) i
theorem lmb_in {xs : List Nat} {i : Nat} (h : i < xs.length) : lmb xs i = xs[i] := by
  unfold lmb
  rw [List.getD_eq_getElem?_getD, List.getElem?_eq_getElem h]
  rfl
theorem lmb_out {xs : List Nat} {i : Nat} (h : xs.length ≤ i) : lmb xs i = 0 := by
  unfold lmb
  rw [List.getD_eq_getElem?_getD, List.getElem?_eq_none h]
  rfl
theorem val_take_lmb (xs : List Nat) (i : Nat) : val 4294967296 (xs.take (i + 1)) = val 4294967296 (xs.take i) + 4294967296 ^ i * lmb xs i := by
  rcases Nat.lt_or_ge i xs.length with h | h
  · rw [lmb_in h]
    exact val_take_succ _ xs i h
  · rw [lmb_out h, List.take_of_length_le (by omega), List.take_of_length_le h]
    simp
theorem cmpN_lt {m n : Nat} (h : m < n) : cmpN m n = -1 := by unfold cmpN; rw [if_pos h]
theorem cmpN_gt {m n : Nat} (h : n < m) : cmpN m n = 1 := by unfold cmpN; rw [if_neg (by omega), if_pos h]
theorem cmpN_self (m : Nat) : cmpN m m = 0 := by unfold cmpN; rw [if_neg (by omega), if_neg (by omega)]
/-- the highest place at which two rows differ decides -/
theorem val_cmp {b : Nat} (hb : 2 ≤ b) {xs ys : List Nat} {p : Nat} (hx : Low b xs) (hy : Low b ys) (hl : xs.length = ys.length) (hp : p < xs.length) (hd : xs.drop (p + 1) = ys.drop (p + 1))
    (h : xs[p] < ys[p]'(by omega)) : val b xs < val b ys := by
  rw [val_take_drop b xs (p + 1) (by omega), val_take_drop b ys (p + 1) (by omega), hd, val_take_succ b xs p hp, val_take_succ b ys p (by omega)]
  have h1 := val_lt hb (hx.take p)
  rw [List.length_take, Nat.min_eq_left (by omega)] at h1
  have h2 : b ^ p * (xs[p] + 1) ≤ b ^ p * ys[p]'(by omega) := Nat.mul_le_mul_left _ h
  rw [Nat.mul_add, Nat.mul_one] at h2
  omega
theorem len_lt_val {b : Nat} (hb : 2 ≤ b) {m n : Nat} (h : (digs b m).length < (digs b n).length) : m < n := by
  rcases Nat.lt_or_ge m n with h1 | h1
  · exact h1
  · have := digs_len_mono hb h1
    omega
/-- the borrow's bits -/
theorem top_bit (x : Nat) (h : x < 4294967296) : x / 2147483648 = if x.testBit 31 then 1 else 0 := by
  have e : x.testBit 31 = decide (x / 2 ^ 31 % 2 = 1) := Nat.testBit_eq_decide_div_mod_eq
  rw [e]
  have : (2 : Nat) ^ 31 = 2147483648 := by decide
  rw [this]
  have h2 : x / 2147483648 = 0 ∨ x / 2147483648 = 1 := by omega
  rcases h2 with h2 | h2 <;> rw [h2] <;> simp
theorem top_yes (x : Nat) (h : x < 4294967296) : x.testBit 31 = decide (2147483648 ≤ x) := by
  have := top_bit x h
  by_cases h1 : 2147483648 ≤ x
  · have h2 : x / 2147483648 = 1 := by omega
    rw [h2] at this
    cases hb : x.testBit 31
    · rw [hb] at this
      simp at this
    · simp [h1]
  · have h2 : x / 2147483648 = 0 := by omega
    rw [h2] at this
    cases hb : x.testBit 31
    · simp [h1]
    · rw [hb] at this
      simp at this
theorem borrow_bits (x y b : Nat) (hx : x < 4294967296) (hy : y < 4294967296) (hb : b ≤ 1) :
    (((4294967295 ^^^ x) &&& y) ||| ((4294967295 ^^^ (x ^^^ y)) &&& subLo x y b)) / 2147483648 = subHi x y b := by
  have hd := subLo_lt x y b hx hy hb
  have h1 : 4294967295 ^^^ x < 2 ^ 32 := Nat.xor_lt_two_pow (by decide) hx
  have h2 : x ^^^ y < 2 ^ 32 := Nat.xor_lt_two_pow hx hy
  have h3 : 4294967295 ^^^ (x ^^^ y) < 2 ^ 32 := Nat.xor_lt_two_pow (by decide) h2
  have h4 : (((4294967295 ^^^ x) &&& y) ||| ((4294967295 ^^^ (x ^^^ y)) &&& subLo x y b)) < 2 ^ 32 := Nat.or_lt_two_pow (Nat.and_lt_two_pow _ hy) (Nat.and_lt_two_pow _ hd)
  rw [top_bit _ h4]
  simp only [Nat.testBit_or, Nat.testBit_and, Nat.testBit_xor]
  have e31 : Nat.testBit 4294967295 31 = true := by decide
  rw [e31, top_yes x hx, top_yes y hy, top_yes _ hd]
  have e := sub_eq x y b hx hy hb
  have hh := subHi_le x y b
  by_cases p : 2147483648 ≤ x <;> by_cases q : 2147483648 ≤ y <;> by_cases r : 2147483648 ≤ subLo x y b <;> simp [p, q, r] <;> omega
theorem sub32_bits (x y b : Nat) (hx : x < 4294967296) (hy : y < 4294967296) (hb : b ≤ 1) :
    bits BinOp.or IntKind.u32 (bits BinOp.and IntKind.u32 (bits BinOp.xor IntKind.u32 IntKind.u32.max (x : Int)) (y : Int))
      (bits BinOp.and IntKind.u32 (bits BinOp.xor IntKind.u32 IntKind.u32.max (bits BinOp.xor IntKind.u32 (x : Int) (y : Int))) (subLo x y b : Int)) / 2147483648 = (subHi x y b : Int) := by
  have hd := subLo_lt x y b hx hy hb
  have h1 : 4294967295 ^^^ x < 4294967296 := Nat.xor_lt_two_pow (n := 32) (by decide) hx
  have h2 : x ^^^ y < 4294967296 := Nat.xor_lt_two_pow (n := 32) hx hy
  have h3 : 4294967295 ^^^ (x ^^^ y) < 4294967296 := Nat.xor_lt_two_pow (n := 32) (by decide) h2
  have hm : IntKind.u32.max = ((4294967295 : Nat) : Int) := by decide
  rw [hm, u32_xor_nat x y hx hy, u32_xor_nat _ x (by decide) hx, u32_xor_nat _ _ (by decide) h2, u32_and_nat _ y h1 hy, u32_and_nat _ _ h3 hd,
    u32_or_nat _ _ (Nat.and_lt_two_pow (n := 32) _ hy) (Nat.and_lt_two_pow (n := 32) _ hd), ← borrow_bits x y b hx hy hb]
  exact (Int.natCast_ediv _ _).symm
theorem subLo_int (x y b : Nat) (hx : x < 4294967296) (hy : y < 4294967296) (hb : b ≤ 1) : ((x : Int) - y - b) % 4294967296 = (subLo x y b : Int) := by
  have e := sub_eq x y b hx hy hb
  have hd := subLo_lt x y b hx hy hb
  have hh := subHi_le x y b
  omega
end Go.Proofs.YtocoflojlliapaaDoor
