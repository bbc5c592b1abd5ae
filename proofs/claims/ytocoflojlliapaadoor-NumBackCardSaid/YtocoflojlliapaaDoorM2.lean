import Derived.Test.YtocoflojlliapaaDoorM1
set_option linter.unusedVariables false
namespace Go.Proofs.YtocoflojlliapaaDoor
/-- one limb of a sum -/
theorem add_step {p v c vx vy xi yi d c' B : Nat} (h : v + p * c = vx + vy) (e : xi + yi + c = d + B * c') : (v + p * d) + (p * B) * c' = (vx + p * xi) + (vy + p * yi) := by
  have : p * (xi + yi + c) = p * (d + B * c') := by rw [e]
  grind
/-- one limb of a difference -/
theorem sub_step {p v c vx vy xi yi d c' B : Nat} (h : v + vy = vx + p * c) (e : d + yi + c = xi + B * c') : (v + p * d) + (vy + p * yi) = (vx + p * xi) + (p * B) * c' := by
  have : p * (d + yi + c) = p * (xi + B * c') := by rw [e]
  grind
/-- one limb of a row of a product -/
theorem mul_step {p v c o vy a yi oi d c' B q r : Nat} (h : v + p * c = o + q * a * vy) (hq : p = q * r) (e : a * yi + oi + c = d + B * c') : (v + p * d) + (p * B) * c' = (o + p * oi) + q * a * (vy + r * yi) := by
  have : p * (a * yi + oi + c) = p * (d + B * c') := by rw [e]
  subst hq
  grind
/-- one limb of a quotient by a limb -/
theorem div_step {y q l xp Q L V B : Nat} (h : V = y * Q + L) (e : L * B + xp = y * q + l) : xp + B * V = y * (q + B * Q) + l := by
  subst h
  grind
/-- one limb of what is taken off -/
theorem off_step {p v c w vy yi wi d c' k B : Nat} (h : v + k * vy = w + p * c) (e : d + k * yi + c = wi + B * c') : (v + p * d) + k * (vy + p * yi) = (w + p * wi) + (p * B) * c' := by
  have : p * (d + k * yi + c) = p * (wi + B * c') := by rw [e]
  grind

/-- GUESS -/
theorem guess_low {Y W B h n w t P q : Nat} (hP : 0 < P) (hY : h * B * P + n * P ≤ Y) (hW : W < (t * B + w + 1) * P) (hq : q * Y ≤ W) : q * (h * B + n) ≤ t * B + w := by
  have h1 : q * (h * B + n) * P ≤ q * Y := by
    have : q * (h * B + n) * P = q * (h * B * P + n * P) := by grind
    rw [this]
    exact Nat.mul_le_mul_left q hY
  have h2 : q * (h * B + n) * P < (t * B + w + 1) * P := by omega
  have := Nat.lt_of_mul_lt_mul_right h2
  omega
theorem guess_top {h B n w t q : Nat} (hw : w < B) (hq : q * (h * B + n) ≤ t * B + w) : q * h ≤ t := by
  have h1 : q * h * B ≤ q * (h * B + n) := by
    have : q * (h * B + n) = q * h * B + q * n := by grind
    omega
  have h2 : q * h * B < (t + 1) * B := by
    have : (t + 1) * B = t * B + B := by grind
    omega
  have := Nat.lt_of_mul_lt_mul_right h2
  omega
/-- what is above the quotient by the test is above it -/
theorem guess_down {h B n w t q p l : Nat} (hq : q * (h * B + n) ≤ t * B + w) (hpl : p * h + l = t) (hp : l * B + w < p * n) : q < p := by
  have h1 : t * B + w < p * (h * B + n) := by
    have : p * (h * B + n) = p * h * B + p * n := by grind
    have h2 : t * B = p * h * B + l * B := by rw [← hpl]; grind
    omega
  have h2 : q * (h * B + n) < p * (h * B + n) := by omega
  exact Nat.lt_of_mul_lt_mul_right h2
/-- the guess is one too great at most: the test by two limbs -/
theorem guess_up1 {Y W B h n w t P q p l : Nat} (hP : 0 < P) (hYh : Y < (h * B + n + 1) * P) (hW : (t * B + w) * P ≤ W) (hB : B * P ≤ Y) (hpB : p < B) (hpl : p * h + l = t) (hp : p * n ≤ l * B + w)
    (hq : W < (q + 1) * Y) : p ≤ q + 1 := by
  have h1 : p * (h * B + n) ≤ t * B + w := by
    have : p * (h * B + n) = p * h * B + p * n := by grind
    have h2 : t * B = p * h * B + l * B := by rw [← hpl]; grind
    omega
  have h2 : p * Y ≤ p * ((h * B + n + 1) * P) := Nat.mul_le_mul_left p (by omega)
  have h3 : p * ((h * B + n + 1) * P) = p * (h * B + n) * P + p * P := by grind
  have h4 : p * (h * B + n) * P ≤ (t * B + w) * P := Nat.mul_le_mul_right P h1
  have h5 : p * P < B * P := Nat.mul_lt_mul_of_pos_right hpB hP
  have h6 : p * Y < (q + 2) * Y := by
    have : (q + 2) * Y = (q + 1) * Y + Y := by grind
    omega
  have := Nat.lt_of_mul_lt_mul_right h6
  omega
theorem guess_up2 {Y W B h n w t P q p l : Nat} (hP : 0 < P) (hn : n < B) (hYh : Y < (h * B + n + 1) * P) (hW : (t * B + w) * P ≤ W) (hpB : p < B) (hpl : p * h + l = t) (hl : B ≤ l)
    (hq : W < (q + 1) * Y) : p ≤ q := by
  have h2 : p * Y ≤ p * ((h * B + B) * P) := Nat.mul_le_mul_left p (Nat.le_trans (Nat.le_of_lt hYh) (Nat.mul_le_mul_right P (by omega)))
  have h3 : p * ((h * B + B) * P) = (p * h + p) * B * P := by grind
  have h4 : (p * h + p) * B * P ≤ (p * h + l) * B * P := Nat.mul_le_mul_right P (Nat.mul_le_mul_right B (by omega))
  have h5 : (p * h + l) * B * P ≤ (t * B + w) * P := by
    rw [hpl]
    exact Nat.mul_le_mul_right P (by omega)
  have h6 : p * Y < (q + 1) * Y := by omega
  have := Nat.lt_of_mul_lt_mul_right h6
  omega
theorem guess_part {B h t p l w1 w2 : Nat} (ht : t = w1 * B + w2) (hw1 : w1 ≤ h) (hw2 : w2 < B) (hpl : p * h + l = t) (hl : B ≤ l) : p < B := by
  have h1 : p * h < B * h := by
    have : w1 * B ≤ h * B := Nat.mul_le_mul_right B hw1
    have e : h * B = B * h := Nat.mul_comm h B
    omega
  exact Nat.lt_of_mul_lt_mul_right h1
end Go.Proofs.YtocoflojlliapaaDoor
