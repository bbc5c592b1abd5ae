import Derived.Test.YtocoflojlliapaaDoorM2
set_option linter.unusedVariables false
namespace Go.Proofs.YtocoflojlliapaaDoor
/-- one limb of a long quotient: what was left, with one limb more -/
theorem long_step {a r R Y P B Q q u N : Nat} (h : a + P * r + P * B * R + Y * (P * B) * Q = N) (e : r + B * R = q * Y + u) : a + P * u + Y * P * (q + B * Q) = N := by
  have : P * (r + B * R) = P * (q * Y + u) := by rw [e]
  grind
theorem long_small {r R Y B : Nat} (hr : r < B) (hR : R < Y) : r + B * R < B * Y := by
  have : B * (R + 1) ≤ B * Y := Nat.mul_le_mul_left B hR
  grind
theorem quo_lt {W Y B : Nat} (h : W < B * Y) (hY : 0 < Y) : W / Y < B := (Nat.div_lt_iff_lt_mul hY).2 h
/-- what is left when too much is taken, and put back -/
theorem off_back {W Y q : Nat} (hY : 0 < Y) (hq : q = W / Y) : W < (q + 1) * Y := by
  subst hq
  have := Nat.lt_mul_div_succ W hY
  rw [Nat.mul_comm] at this
  exact this
/-- what takeOff leaves, where it was not too much -/
theorem left_fits {v w wn Pn c p Y W : Nat} (hv : v + p * Y = w + Pn * c) (hvl : v < Pn) (hW : W = w + Pn * wn) (hY : Y ≤ Pn) (hge : c ≤ wn) (hpq : W < (p + 1) * Y) : v = W - p * Y ∧ p * Y ≤ W := by
  have h1 : Pn * c ≤ Pn * wn := Nat.mul_le_mul_left _ hge
  have h2 : p * Y ≤ W := by omega
  rcases Nat.lt_or_ge c wn with hlt | hge'
  · exfalso
    have h3 : Pn * (c + 1) ≤ Pn * wn := Nat.mul_le_mul_left _ hlt
    have h4 : Pn * (c + 1) = Pn * c + Pn := by grind
    have h5 : (p + 1) * Y = p * Y + Y := by grind
    omega
  · have : c = wn := by omega
    subst this
    exact ⟨by omega, h2⟩
/-- the sign of what takeOff comes to -/
theorem off_lt {v w wn Pn c p Y W : Nat} (hv : v + p * Y = w + Pn * c) (hvl : v < Pn) (hW : W = w + Pn * wn) : W < p * Y ↔ wn < c := by
  constructor
  · intro h
    rcases Nat.lt_or_ge wn c with h1 | h1
    · exact h1
    · have : Pn * c ≤ Pn * wn := Nat.mul_le_mul_left _ h1
      omega
  · intro h
    have h1 : Pn * (wn + 1) ≤ Pn * c := Nat.mul_le_mul_left _ h
    have h2 : Pn * (wn + 1) = Pn * wn + Pn := by grind
    omega
/-- what is left when what was too much is put back -/
theorem left_back {v w wn Pn c p Y W x k q : Nat} (hv : v + p * Y = w + Pn * c) (hvl : v < Pn) (hW : W = w + Pn * wn) (hx : x + Pn * k = v + Y) (hxl : x < Pn) (hYP : Y ≤ Pn) (hlt : wn < c) (hp : p = q + 1) (hq : q * Y ≤ W) :
    x = W - q * Y := by
  subst hp
  have e1 : (q + 1) * Y = q * Y + Y := by grind
  have e2 : Pn * (wn + 1) ≤ Pn * c := Nat.mul_le_mul_left _ hlt
  have e3 : Pn * (wn + 1) = Pn * wn + Pn := by grind
  -- W - q Y = x + Pn (k - c + wn): both below Pn
  have e4 : x + Pn * k + Pn * wn + q * Y = W + Pn * c := by omega
  have e5 : W < (q + 1) * Y := by
    rw [e1]
    omega
  have h6 : k + wn = c := by
    rcases Nat.lt_trichotomy (k + wn) c with h | h | h
    · exfalso
      have : Pn * (k + wn + 1) ≤ Pn * c := Nat.mul_le_mul_left _ h
      have e6 : Pn * (k + wn + 1) = Pn * k + Pn * wn + Pn := by grind
      omega
    · exact h
    · exfalso
      have : Pn * (c + 1) ≤ Pn * (k + wn) := Nat.mul_le_mul_left _ h
      have e6 : Pn * (c + 1) = Pn * c + Pn := by grind
      have e7 : Pn * (k + wn) = Pn * k + Pn * wn := by grind
      omega
  have e7 : Pn * (k + wn) = Pn * k + Pn * wn := by grind
  rw [h6] at e7
  omega
/-- the quotient and the rest of what both were made greater by -/
theorem by_factor {X y f Q R : Nat} (hf : 0 < f) (h : R + y * f * Q = X * f) (hR : R < y * f) : Q = X / y ∧ R / f = X % y := by
  have hy : 0 < y := by
    rcases Nat.eq_zero_or_pos y with h0 | h0
    · subst h0
      simp at hR
    · exact h0
  have hQ : Q = X / y := by
    have h1 : X * f / (y * f) = Q := by
      rw [← h, Nat.add_mul_div_left _ _ (Nat.mul_pos hy hf), Nat.div_eq_of_lt hR, Nat.zero_add]
    rw [Nat.mul_div_mul_right _ _ hf] at h1
    exact h1.symm
  refine ⟨hQ, ?_⟩
  have hm := Nat.div_add_mod X y
  have h2 : R = (X % y) * f := by
    have : X * f = (y * Q + X % y) * f := by rw [hQ, hm]
    grind
  rw [h2, Nat.mul_div_cancel _ hf]
/-- by's highest limb, and the next -/
theorem val_top2 {b : Nat} (l : List Nat) (n : Nat) (hl : l.length = n + 2) : val b l = val b (l.take n) + b ^ n * (l.getD n 0 + b * l.getD (n + 1) 0) := by
  have h1 := val_take_drop b l n (by omega)
  have h2 : l.drop n = [l.getD n 0, l.getD (n + 1) 0] := by
    have a1 : l[n]? = some (l[n]'(by omega)) := List.getElem?_eq_getElem (by omega)
    have a2 : l[n + 1]? = some (l[n + 1]'(by omega)) := List.getElem?_eq_getElem (by omega)
    rw [List.getD_eq_getElem?_getD, List.getD_eq_getElem?_getD, a1, a2]
    apply List.ext_getElem
    · simp [hl]
    · intro i h3 h4
      simp at h4
      rcases i with _ | _ | i
      · simp
      · simp
      · omega
  rw [h1, h2]
  simp [val]
/-- the limbs behind a place, one of which is written -/
theorem val_set (b : Nat) : ∀ (l : List Nat) (k x : Nat), k < l.length → val b (l.set k x) + b ^ k * l.getD k 0 = val b l + b ^ k * x
  | [], k, x, h => absurd h (by simp)
  | y :: l, 0, x, h => by simp [val]; omega
  | y :: l, k + 1, x, h => by
    have ih := val_set b l k x (by simpa using h)
    simp only [List.set_cons_succ, val, List.getD_cons_succ, Nat.pow_succ]
    have : b * (val b (l.set k x) + b ^ k * l.getD k 0) = b * (val b l + b ^ k * x) := by rw [ih]
    grind
theorem val_rev_snoc (b : Nat) (l : List Nat) (x : Nat) : val b (l ++ [x]).reverse = x + b * val b l.reverse := by simp [val]
theorem Low.rev {b : Nat} {l : List Nat} (h : Low b l) : Low b l.reverse := fun y hy => h y (by simpa using hy)
end Go.Proofs.YtocoflojlliapaaDoor
