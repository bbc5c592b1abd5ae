import Derived.Test.YtocoflojlliapaaDoorR3
set_option linter.unusedVariables false
namespace Go.Proofs.YtocoflojlliapaaDoor
open Go.RowKit
/-- the limbs by now: of the first i bits -/
def Nm (bs : List Nat) (i : Nat) (ms : List Nat) : Prop := ms.length = (i + 31) / 32 ∧ Low 4294967296 ms ∧ val 4294967296 ms = val 2 (bs.take i)
theorem Nm.zero (bs : List Nat) : Nm bs 0 [] := ⟨rfl, Low.nil, by simp [val]⟩
theorem pow_split (i : Nat) : (2 : Nat) ^ i = 4294967296 ^ (i / 32) * 2 ^ (i % 32) := by
  rw [← pow32, ← Nat.pow_add, Nat.div_add_mod]
theorem Nm.top {bs ms : List Nat} {i : Nat} (h : Nm bs i ms) (hb : Low 2 bs) (hi : i ≤ bs.length) {l : Nat} (hl : ms[i / 32]? = some l) : l < 2 ^ (i % 32) := by
  obtain ⟨h1, h2, h3⟩ := h
  have hlt : i / 32 < ms.length := by
    rcases Nat.lt_or_ge (i / 32) ms.length with h | h
    · exact h
    · rw [List.getElem?_eq_none h] at hl
      cases hl
  have hv : val 2 (bs.take i) < 2 ^ i := by
    have := val_lt (b := 2) (by decide) (hb.take i)
    rwa [List.length_take, Nat.min_eq_left hi] at this
  rw [List.getElem?_eq_getElem hlt] at hl
  injection hl with hl
  have h4 := val_take_drop 4294967296 ms (i / 32) (by omega)
  rw [List.drop_eq_getElem_cons hlt, hl] at h4
  simp only [val] at h4
  rw [← h3, pow_split] at hv
  have h5 : 4294967296 ^ (i / 32) * l < 4294967296 ^ (i / 32) * 2 ^ (i % 32) := by
    rw [Nat.mul_add] at h4
    omega
  exact Nat.lt_of_mul_lt_mul_left h5
/-- a limb more, of nought, where one begins -/
theorem Nm.more {bs ms : List Nat} {i : Nat} (h : Nm bs i ms) (h0 : i % 32 = 0) : (ms ++ [0]).length = i / 32 + 1 ∧ Low 4294967296 (ms ++ [0]) ∧ val 4294967296 (ms ++ [0]) = val 2 (bs.take i) ∧ (ms ++ [0])[i / 32]? = some 0 := by
  obtain ⟨h1, h2, h3⟩ := h
  have hl : ms.length = i / 32 := by omega
  refine ⟨by simp [hl], h2.append (Low.cons (by decide) Low.nil), by rw [val_snoc, h3]; simp, ?_⟩
  rw [List.getElem?_append_right (by omega), hl]
  simp
/-- a bit more -/
theorem Nm.bit {bs ms : List Nat} {i l : Nat} (h1 : ms.length = i / 32 + 1) (h2 : Low 4294967296 ms) (h3 : val 4294967296 ms = val 2 (bs.take i)) (hl : ms[i / 32]? = some l) (hlt : l < 2 ^ (i % 32)) (hi : i < bs.length) (hb : bs[i] = 1) :
    Nm bs (i + 1) (ms.set (i / 32) (l + 2 ^ (i % 32))) ∧ l + 2 ^ (i % 32) < 4294967296 := by
  have h5 : (2 : Nat) ^ (i % 32) ≤ 2 ^ 31 := Nat.pow_le_pow_right (by decide) (by omega)
  have h6 : l + 2 ^ (i % 32) < 4294967296 := by
    have : (2 : Nat) ^ 31 = 2147483648 := by decide
    omega
  refine ⟨⟨by simp [h1]; omega, h2.set h6, ?_⟩, h6⟩
  have hk : i / 32 < ms.length := by omega
  have hv := val_set 4294967296 ms (i / 32) (l + 2 ^ (i % 32)) hk
  rw [List.getD_eq_getElem?_getD, hl, Option.getD_some, Nat.mul_add, ← pow_split, h3] at hv
  rw [val_take_succ 2 bs i hi, hb]
  omega
theorem Nm.nobit {bs ms : List Nat} {i : Nat} (h1 : ms.length = i / 32 + 1) (h2 : Low 4294967296 ms) (h3 : val 4294967296 ms = val 2 (bs.take i)) (hi : i < bs.length) (hb : bs[i] = 0) : Nm bs (i + 1) ms := by
  refine ⟨by omega, h2, ?_⟩
  rw [val_take_succ 2 bs i hi, hb, h3]
  simp
theorem Nm.same {bs ms : List Nat} {i : Nat} (h : Nm bs i ms) (h0 : i % 32 ≠ 0) : ms.length = i / 32 + 1 := by
  have := h.1
  omega
/-- at the end the limbs are the value's -/
theorem Nm.done {ms : List Nat} {N : Nat} (h : Nm (digs 2 N) (digs 2 N).length ms) : ms = digs 4294967296 N := by
  obtain ⟨h1, h2, h3⟩ := h
  rw [List.take_length, digs_val (by decide)] at h3
  have h4 : trimL ms = digs 4294967296 N := by rw [← digs_of (by decide) h2, h3]
  have h5 : ms.length ≤ (digs 4294967296 N).length := by
    by_cases hN : N = 0
    · subst hN
      simp [digs_zero] at h1 ⊢
      omega
    · rcases Nat.lt_or_ge (digs 4294967296 N).length ms.length with h | h
      · exfalso
        have h6 := digs_lt_pow (b := 4294967296) (by decide) N
        have h7 := digs_pow (b := 2) (by decide) N hN
        rw [← pow32] at h6
        have h8 : (2 : Nat) ^ (32 * (digs 4294967296 N).length) ≤ 2 ^ ((digs 2 N).length - 1) := Nat.pow_le_pow_right (by decide) (by omega)
        omega
      · exact h
  have h9 := trimL_take ms
  rw [h4, List.take_of_length_le h5] at h9
  exact h9.symm
end Go.Proofs.YtocoflojlliapaaDoor
