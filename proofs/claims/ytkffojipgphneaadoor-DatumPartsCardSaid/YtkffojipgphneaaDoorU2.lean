/- How deep a list is, and how much is in it: plain. -/
import Derived.Test.YtkffojipgphneaaDoorU1
import Derived.Test.YtkffojipgphneaaDoorL1
set_option linter.unusedVariables false
namespace Go.Proofs.YtkffojipgphneaaDoor
open Go Go.RowKit
theorem rch_shift (k l s : Int) : rch k (l + s) = rch k l + s := by unfold rch; split <;> omega
theorem dpF_max : ∀ (f : F) (m n pk l : Int), dpF (max m n) pk l f = max m (dpF n pk l f) := by
  intro f
  induction f with
  | nil => exact fun _ _ _ _ => rfl
  | cons d k r ihk ihr =>
    intro m n pk l
    simp only [dpF]
    rw [show max (max m n) (rch d.k (l + stp pk (r.len == 0) d.k)) = max m (max n (rch d.k (l + stp pk (r.len == 0) d.k))) by omega, ihk, ihr]
theorem dpF_shift : ∀ (f : F) (m pk l s : Int), dpF (m + s) pk (l + s) f = dpF m pk l f + s := by
  intro f
  induction f with
  | nil => exact fun _ _ _ _ => rfl
  | cons d k r ihk ihr =>
    intro m pk l s
    simp only [dpF]
    rw [show l + s + stp pk (r.len == 0) d.k = (l + stp pk (r.len == 0) d.k) + s by omega, rch_shift, show max (m + s) (rch d.k (l + stp pk (r.len == 0) d.k) + s) = max m (rch d.k (l + stp pk (r.len == 0) d.k)) + s by omega, ihk, ihr]
theorem rch_nn (k : Int) : 0 ≤ rch k 0 := by unfold rch; split <;> omega
theorem dpD_nn (d : D) (f : F) : 0 ≤ dpD d f := by
  have := dpF_le f d.k (max 0 (rch d.k 0)) 0
  unfold dpD
  omega
def dpL : F → Int
  | .nil => 0
  | .cons d k r => max (dpD d k + 1) (dpL r)
theorem dpL_nn (f : F) : 0 ≤ dpL f := by
  cases f with
  | nil => exact Int.le_refl _
  | cons d k r => have := dpD_nn d k; simp only [dpL]; omega
theorem dpD_up (d : D) (k : F) : dpF (max 0 (rch d.k (0 + 1))) d.k (0 + 1) k = dpD d k + 1 := by
  have h := dpF_shift k (max 0 (rch d.k 0)) d.k 0 1
  rw [rch_shift]
  have h0 := rch_nn d.k
  rw [show max 0 (rch d.k 0 + 1) = max 0 (rch d.k 0) + 1 by omega, h]
  rfl
theorem dpD_lst (fl : F) : dpD (lstD fl) (lstF fl) = dpL fl := by
  induction fl with
  | nil => simp [lstD, lstF, nilD, dpD, dpF, dpL, rch]
  | cons d k r _ ih =>
    have e0 : rch 7 0 = 0 := by simp [rch]
    have e1 : stp 7 (F.len (.cons (lstD r) (lstF r) .nil) == 0) d.k = 1 := by simp [stp, F.len]
    have hp := dpD_nn d k
    have step : dpD (lstD (.cons d k r)) (lstF (.cons d k r)) = dpF (dpF (max (max 0 (rch 7 0)) (rch d.k (0 + stp 7 (F.len (.cons (lstD r) (lstF r) .nil) == 0) d.k))) d.k (0 + stp 7 (F.len (.cons (lstD r) (lstF r) .nil) == 0) d.k) k) 7 0 (.cons (lstD r) (lstF r) .nil) := rfl
    rw [step, e0, e1, show max (0 : Int) 0 = 0 by omega, dpD_up]
    simp only [dpL, dpF]
    cases r with
    | nil =>
      simp only [lstD, lstF, nilD, F.len, dpF, dpL, stp, rch]
      simp
      omega
    | cons d1 k1 r1 =>
      have e2 : stp 7 (F.nil.len == 0) (lstD (.cons d1 k1 r1)).k = 0 := by simp [stp, F.len, lstD, pairD]
      rw [e2]
      unfold dpD at ih
      rw [Int.zero_add]
      rw [show max (dpD d k + 1) (rch (lstD (.cons d1 k1 r1)).k 0) = max (dpD d k + 1) (max 0 (rch (lstD (.cons d1 k1 r1)).k 0)) by omega, dpF_max, ih]
theorem lst_cnt (fl : F) : (lstF fl).cnt = fl.cnt + fl.len := by
  induction fl with
  | nil => rfl
  | cons d k r _ ih => simp only [lstF, two, F.cnt, F.len, ih]; omega
theorem dpL_drop (f : F) (i : Nat) (h : i < f.len) : dpL (f.drop i) = max (dpD (f.nthD i) (f.nthK i) + 1) (dpL (f.drop (i + 1))) := by rw [F.drop_lt f i h]; rfl
/-- So far: the deepest, and how many. -/
def Deep (fl : F) (j : Nat) (M : Int) : Prop := 0 ≤ M ∧ M ≤ 200000 ∧ max M (dpL (fl.drop j)) = dpL fl
theorem Deep.start (fl : F) : Deep fl 0 0 := ⟨by omega, by omega, by rw [F.drop_zero]; have := dpL_nn fl; omega⟩
theorem Deep.next {fl : F} {j : Nat} {M : Int} (h : Deep fl j M) (hj : j < fl.len) (hb : dpD (fl.nthD j) (fl.nthK j) ≤ 199000) : Deep fl (j + 1) (max M (dpD (fl.nthD j) (fl.nthK j) + 1)) := by
  obtain ⟨h0, h1, h2⟩ := h
  rw [dpL_drop fl j hj] at h2
  have := dpD_nn (fl.nthD j) (fl.nthK j)
  exact ⟨by omega, by omega, by omega⟩
theorem Deep.done {fl : F} {M : Int} (h : Deep fl fl.len M) : M = dpL fl := by
  obtain ⟨h0, h1, h2⟩ := h
  rw [F.drop_len] at h2
  simp only [dpL] at h2
  omega
/-- No deeper than there are data in it. -/
theorem dpF_bd : ∀ (f : F) (m pk l : Int), 0 ≤ l → m ≤ l + 1 → dpF m pk l f ≤ l + f.cnt + 1 := by
  intro f
  induction f with
  | nil => intro m pk l h0 h1; simp only [dpF, F.cnt]; omega
  | cons d k r ihk ihr =>
    intro m pk l h0 h1
    simp only [dpF, F.cnt]
    have hs := stp_cases pk (r.len == 0) d.k
    generalize stp pk (r.len == 0) d.k = s at *
    have hr : rch d.k (l + s) ≤ l + s + 1 := by unfold rch; split <;> omega
    have hm := dpF_max r (dpF (max m (rch d.k (l + s))) d.k (l + s) k) (l + 1) pk l
    have hk := ihk (max m (rch d.k (l + s))) d.k (l + s) (by omega) (by omega)
    have hr2 := ihr (l + 1) pk l h0 (by omega)
    have hle : dpF (dpF (max m (rch d.k (l + s))) d.k (l + s) k) pk l r ≤ dpF (max (dpF (max m (rch d.k (l + s))) d.k (l + s) k) (l + 1)) pk l r := dpF_mono _ _ _ _ _ _ (by omega) (by omega)
    omega
theorem dpD_bd (d : D) (f : F) : dpD d f ≤ f.cnt + 1 := by
  have h : rch d.k 0 ≤ 1 := by unfold rch; split <;> omega
  have := dpF_bd f (max 0 (rch d.k 0)) d.k 0 (by omega) (by omega)
  unfold dpD
  omega
end Go.Proofs.YtkffojipgphneaaDoor
