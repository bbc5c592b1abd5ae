import Derived.Test.YtocoflojlliapaaDoorM3
import Derived.Lib.ItoaNum
set_option linter.unusedVariables false
namespace Go.Proofs.YtocoflojlliapaaDoor
open Go.Lib
theorem dec_small {u : Nat} (h : u < 10) : decDigits u = [UInt8.ofNat (48 + u)] := by rw [decDigits, dif_pos h]
theorem dec_big {u : Nat} (h : 10 ≤ u) : decDigits u = decDigits (u / 10) ++ [UInt8.ofNat (48 + u % 10)] := by rw [decDigits, dif_neg (by omega)]
/-- k digits of g, noughts ahead -/
def padL : Nat → Nat → List UInt8
  | 0, _ => []
  | k + 1, g => padL k (g / 10) ++ [UInt8.ofNat (48 + g % 10)]
theorem padL_len : ∀ (k g : Nat), (padL k g).length = k
  | 0, _ => rfl
  | k + 1, g => by simp [padL, padL_len k]
theorem dec_pad (h : Nat) (hh : 1 ≤ h) : ∀ (k g : Nat), g < 10 ^ k → decDigits (h * 10 ^ k + g) = decDigits h ++ padL k g
  | 0, g, hg => by
    have : g = 0 := by simpa using hg
    subst this
    simp [padL]
  | k + 1, g, hg => by
    have hp : 1 ≤ 10 ^ k := Nat.one_le_pow _ _ (by decide)
    have h1 : h * 10 ^ (k + 1) = h * 10 ^ k * 10 := by rw [Nat.pow_succ, Nat.mul_assoc]
    have h2 : h * 1 ≤ h * 10 ^ k := Nat.mul_le_mul_left h hp
    rw [Nat.pow_succ] at hg
    rw [dec_big (by omega), show (h * 10 ^ (k + 1) + g) / 10 = h * 10 ^ k + g / 10 by omega, dec_pad h hh k (g / 10) (by omega), show (h * 10 ^ (k + 1) + g) % 10 = g % 10 by omega]
    simp [padL]
theorem padL_dec : ∀ (k g : Nat), g < 10 ^ (k + 1) → padL (k + 1) g = List.replicate (k + 1 - (decDigits g).length) 48 ++ decDigits g
  | 0, g, hg => by
    have : g < 10 := by simpa using hg
    rw [dec_small this]
    simp [padL, Nat.mod_eq_of_lt this]
  | k + 1, g, hg => by
    by_cases hs : g < 10
    · rw [dec_small hs]
      have ih := padL_dec k (g / 10) (by rw [Nat.pow_succ] at hg; omega)
      rw [show g / 10 = 0 by omega, dec_small (by omega)] at ih
      rw [padL, show g / 10 = 0 by omega, ih, Nat.mod_eq_of_lt hs]
      simp [List.replicate_succ']
    · have ih := padL_dec k (g / 10) (by rw [Nat.pow_succ] at hg; omega)
      rw [padL, ih, dec_big (u := g) (by omega)]
      simp
theorem dec_len_le (k g : Nat) (hg : g < 10 ^ (k + 1)) : (decDigits g).length ≤ k + 1 := by
  have := congrArg List.length (padL_dec k g hg)
  rw [padL_len] at this
  simp at this
  omega
theorem dec_len_pos (g : Nat) : 1 ≤ (decDigits g).length := by rw [decDigits_length]; exact nDigits_pos g
/-- what decimal digits come to -/
def decVal (l : List UInt8) : Nat := l.foldl (fun v c => v * 10 + (c.toNat - 48)) 0
theorem decVal_snoc (l : List UInt8) (c : UInt8) : decVal (l ++ [c]) = decVal l * 10 + (c.toNat - 48) := by simp [decVal]
theorem dec_byte {d : Nat} (h : d < 10) : (UInt8.ofNat (48 + d)).toNat = 48 + d := by simp; omega
theorem decVal_dec (n : Nat) : decVal (decDigits n) = n := by
  induction n using Nat.strongRecOn with
  | _ n ih =>
    by_cases h : n < 10
    · rw [dec_small h]
      have := dec_byte h
      simp [decVal]
      omega
    · rw [dec_big (by omega), decVal_snoc, ih _ (by omega), dec_byte (by omega)]
      omega
theorem decVal_fold (l : List UInt8) : ∀ v : Nat, l.foldl (fun v c => v * 10 + (c.toNat - 48)) v = v * 10 ^ l.length + decVal l := by
  have key : ∀ (l : List UInt8) (v : Nat), l.foldl (fun v c => v * 10 + (c.toNat - 48)) v = v * 10 ^ l.length + l.foldl (fun v c => v * 10 + (c.toNat - 48)) 0 := by
    intro l
    induction l with
    | nil => intro v; simp
    | cons c l ih =>
      intro v
      simp only [List.foldl_cons, List.length_cons]
      rw [ih, ih (0 * 10 + (c.toNat - 48)), Nat.pow_succ]
      grind
  exact key l
theorem decVal_append (l m : List UInt8) : decVal (l ++ m) = decVal l * 10 ^ m.length + decVal m := by
  unfold decVal
  rw [List.foldl_append]
  exact decVal_fold m _
theorem decVal_noughts (k : Nat) (l : List UInt8) : decVal (List.replicate k 48 ++ l) = decVal l := by
  rw [decVal_append]
  have : decVal (List.replicate k 48) = 0 := by
    induction k with
    | zero => rfl
    | succ k ih =>
      rw [List.replicate_succ', decVal_snoc, ih]
      rfl
  rw [this]
  simp
def isDig (l : List UInt8) : Prop := ∀ c ∈ l, 48 ≤ c.toNat ∧ c.toNat ≤ 57
theorem dec_isDig (n : Nat) : isDig (decDigits n) := by
  induction n using Nat.strongRecOn with
  | _ n ih =>
    by_cases h : n < 10
    · rw [dec_small h]
      intro c hc
      have := dec_byte h
      simp only [List.mem_singleton] at hc
      subst hc
      omega
    · rw [dec_big (by omega)]
      intro c hc
      rcases List.mem_append.1 hc with hc | hc
      · exact ih _ (by omega) c hc
      · have := dec_byte (d := n % 10) (by omega)
        simp only [List.mem_singleton] at hc
        subst hc
        omega
end Go.Proofs.YtocoflojlliapaaDoor
