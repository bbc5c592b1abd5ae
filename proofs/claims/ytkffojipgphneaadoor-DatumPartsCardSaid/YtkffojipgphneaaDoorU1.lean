/- What is in a datum: plain. -/
import Derived.Test.YtkffojipgphneaaDoorV1
set_option linter.unusedVariables false
set_option linter.unusedSimpArgs false
namespace Go.Proofs.YtkffojipgphneaaDoor
open Go Go.RowKit
theorem rch_mono {k l l' : Int} (h : l ≤ l') : rch k l ≤ rch k l' := by unfold rch; split <;> omega
theorem mayF_mono : ∀ (f : F) (pk l l' : Int), l ≤ l' → mayF pk l' f = true → mayF pk l f = true := by
  intro f
  induction f with
  | nil => exact fun _ _ _ _ h => h
  | cons d k r ihk ihr =>
    intro pk l l' hl h
    simp only [mayF, Bool.and_eq_true, decide_eq_true_eq] at h ⊢
    have h1 : l + stp pk (r.len == 0) d.k ≤ l' + stp pk (r.len == 0) d.k := by omega
    exact ⟨⟨Int.le_trans (rch_mono h1) h.1.1, h.1.2⟩, ihk _ _ _ h1 h.2.1, ihr _ _ _ hl h.2.2⟩
theorem mayF_nth : ∀ (f : F) (pk l : Int) (i : Nat), 0 ≤ l → i < f.len → mayF pk l f = true → mayD (f.nthD i) (f.nthK i) = true := by
  intro f
  induction f with
  | nil => intro pk l i _ h; simp [F.len] at h
  | cons d k r _ ih =>
    intro pk l i hl hi h
    simp only [mayF, Bool.and_eq_true, decide_eq_true_eq] at h
    have h1 : 0 ≤ l + stp pk (r.len == 0) d.k := by rcases stp_cases pk (r.len == 0) d.k with e | e <;> omega
    cases i with
    | zero =>
      simp only [F.nthD, F.nthK, mayD, Bool.and_eq_true, decide_eq_true_eq]
      exact ⟨⟨decide_eq_true (Int.le_trans (rch_mono h1) h.1.1), h.1.2⟩, mayF_mono _ _ _ _ h1 h.2.1⟩
    | succ i =>
      simp only [F.len] at hi
      exact ih _ _ _ hl (by omega) h.2.2
theorem mayD_nth {d : D} {f : F} {i : Nat} (hi : i < f.len) (h : mayD d f = true) : mayD (f.nthD i) (f.nthK i) = true := by
  simp only [mayD, Bool.and_eq_true] at h
  exact mayF_nth f _ _ i (Int.le_refl _) hi h.2
theorem dpF_mono : ∀ (f : F) (pk m m' l l' : Int), m ≤ m' → l ≤ l' → dpF m pk l f ≤ dpF m' pk l' f := by
  intro f
  induction f with
  | nil => exact fun _ _ _ _ _ h _ => h
  | cons d k r ihk ihr =>
    intro pk m m' l l' hm hl
    simp only [dpF]
    have h1 : l + stp pk (r.len == 0) d.k ≤ l' + stp pk (r.len == 0) d.k := by omega
    have h2 := rch_mono (k := d.k) h1
    exact ihr _ _ _ _ _ (ihk _ _ _ _ _ (by omega) h1) hl
theorem dpF_le : ∀ (f : F) (pk m l : Int), m ≤ dpF m pk l f := by
  intro f
  induction f with
  | nil => exact fun _ _ _ => Int.le_refl _
  | cons d k r ihk ihr =>
    intro pk m l
    simp only [dpF]
    exact Int.le_trans (Int.le_trans (by omega) (ihk _ _ _)) (ihr _ _ _)
theorem dpF_nth : ∀ (f : F) (pk m l : Int) (i : Nat), 0 ≤ m → 0 ≤ l → i < f.len → dpD (f.nthD i) (f.nthK i) ≤ dpF m pk l f := by
  intro f
  induction f with
  | nil => intro pk m l i _ _ h; simp [F.len] at h
  | cons d k r _ ih =>
    intro pk m l i hm hl hi
    have h1 : 0 ≤ l + stp pk (r.len == 0) d.k := by rcases stp_cases pk (r.len == 0) d.k with e | e <;> omega
    have h2 := rch_mono (k := d.k) h1
    cases i with
    | zero =>
      simp only [F.nthD, F.nthK, dpD, dpF]
      exact Int.le_trans (dpF_mono _ _ _ _ _ _ (by omega) h1) (dpF_le _ _ _ _)
    | succ i =>
      simp only [F.len] at hi
      simp only [F.nthD, F.nthK, dpF]
      refine ih _ _ _ i ?_ hl (by omega)
      exact Int.le_trans (by omega) (dpF_le k _ _ _)
theorem dpD_nth {d : D} {f : F} {i : Nat} (hi : i < f.len) : dpD (f.nthD i) (f.nthK i) ≤ dpD d f := dpF_nth f _ _ _ i (by omega) (Int.le_refl _) hi
theorem not_same_nth {d : D} {f : F} {i : Nat} (hi : i < f.len) : sameD (f.nthD i) (f.nthK i) d f = false := by
  cases h : sameD (f.nthD i) (f.nthK i) d f
  · rfl
  · simp only [sameD, Bool.and_eq_true] at h
    have h1 := sameF_cnt _ _ h.2
    have h2 := F.nth_cnt f i hi
    omega
/-- what the first i count -/
def cntTo (f : F) (i : Nat) : Nat := f.cnt - (f.drop i).cnt
theorem cntTo_zero (f : F) : cntTo f 0 = 0 := by simp [cntTo, F.drop_zero]
theorem cntTo_succ (f : F) (i : Nat) (h : i < f.len) : cntTo f (i + 1) = cntTo f i + ((f.nthK i).cnt + 1) := by
  have h1 := F.cnt_drop f i h
  have h2 := F.cnt_drop_le f i
  unfold cntTo
  omega
theorem cntTo_len (f : F) : cntTo f f.len = f.cnt := by simp [cntTo, F.drop_len, F.cnt]
end Go.Proofs.YtkffojipgphneaaDoor
