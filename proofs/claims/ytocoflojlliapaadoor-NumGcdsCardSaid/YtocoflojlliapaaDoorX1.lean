/- Knuth's division: what its rounds keep. -/
import Derived.Test.YtocoflojlliapaaDoorW3
set_option linter.unusedVariables false
namespace Go.Proofs.YtocoflojlliapaaDoor
open Go.RowKit
/-- divided by now: the places from k on are done -/
def Dv (N f b n : Nat) (ys xs : List Nat) (k : Nat) (ps : List Nat) : Prop :=
  Low 4294967296 xs ∧ sv xs k n < b * f ∧ sv xs 0 k + 4294967296 ^ k * (sv xs k n + b * f * val 4294967296 ps.reverse) = N * f ∧ Low 4294967296 ps
theorem Dv.start {N f b na n : Nat} {ys xs : List Nat} (hl : xs.length = na + 1) (hlow : Low 4294967296 xs) (hv : val 4294967296 xs = N * f) (hn : n ≤ na) (hn1 : 1 ≤ n) (hN : N < 4294967296 ^ na) (hb : 4294967296 ^ (n - 1) ≤ b) (hf : 0 < f) :
    Dv N f b n ys xs (na - n + 1) [] := by
  have hs := sv_split xs 0 (na - n + 1) n
  rw [Nat.zero_add, show na - n + 1 + n = xs.length by omega, sv_all, hv] at hs
  refine ⟨hlow, ?_, ?_, Low.nil⟩
  · have h1 : 4294967296 ^ (na - n + 1) * sv xs (na - n + 1) n ≤ N * f := by omega
    have h2 : N * f < 4294967296 ^ na * f := Nat.mul_lt_mul_of_pos_right hN hf
    have h3 : 4294967296 ^ na = 4294967296 ^ (na - n + 1) * 4294967296 ^ (n - 1) := by rw [← Nat.pow_add]; congr 1; omega
    have h4 : 4294967296 ^ (na - n + 1) * 4294967296 ^ (n - 1) * f ≤ 4294967296 ^ (na - n + 1) * (b * f) := by
      rw [Nat.mul_assoc]
      exact Nat.mul_le_mul_left _ (Nat.mul_le_mul_right _ hb)
    rw [h3] at h2
    exact Nat.lt_of_mul_lt_mul_left (a := 4294967296 ^ (na - n + 1)) (by omega)
  · rw [hs]
    simp [val]
theorem Dv.win {N f b n k : Nat} {ys xs ps : List Nat} (h : Dv N f b n ys xs (k + 1) ps) : sv xs k (n + 1) = lmb xs k + 4294967296 * sv xs (k + 1) n ∧ sv xs k (n + 1) < 4294967296 * (b * f) ∧ sv xs k (n + 1) = sv xs k n + 4294967296 ^ n * lmb xs (k + n) := by
  have h1 : sv xs k (n + 1) = lmb xs k + 4294967296 * sv xs (k + 1) n := by
    rw [Nat.add_comm n 1, sv_split xs k 1 n]
    simp [sv]
  refine ⟨h1, ?_, rfl⟩
  rw [h1]
  exact long_small (lmb_lt h.1 k) h.2.1
/-- one more place is done -/
theorem Dv.next {N f b n k q : Nat} {ys xs zs ps : List Nat} (h : Dv N f b n ys xs (k + 1) ps) (hz : Low 4294967296 zs) (hj : ∀ j, j < k → lmb zs j = lmb xs j) (hq : q = sv xs k (n + 1) / (b * f)) (hv : sv zs k n = sv xs k (n + 1) - q * (b * f)) (hb : 0 < b * f) :
    Dv N f b n ys zs k (ps ++ [q]) := by
  obtain ⟨e1, e2, e3⟩ := h.win
  have hq1 : q < 4294967296 := by rw [hq]; exact quo_lt e2 hb
  have hdm := Nat.div_add_mod (sv xs k (n + 1)) (b * f)
  have hu : sv zs k n = sv xs k (n + 1) % (b * f) := by
    rw [hv, hq]
    rw [Nat.mul_comm (sv xs k (n + 1) / (b * f))]
    omega
  refine ⟨hz, by rw [hu]; exact Nat.mod_lt _ hb, ?_, h.2.2.2.append (Low.cons hq1 Low.nil)⟩
  have h3 := h.2.2.1
  rw [sv_succ, Nat.zero_add] at h3
  rw [val_rev_snoc, sv_congr (zs := xs) (o := 0) (i := k) (fun j _ h2 => hj j (by omega)), ← h3]
  have h4 : sv xs k (n + 1) = q * (b * f) + sv zs k n := by rw [hu, hq, Nat.mul_comm]; exact hdm.symm
  have h5 : lmb xs k + 4294967296 * sv xs (k + 1) n = q * (b * f) + sv zs k n := by rw [← e1, h4]
  rw [Nat.pow_succ]
  have h6 : 4294967296 ^ k * (lmb xs k + 4294967296 * sv xs (k + 1) n) = 4294967296 ^ k * (q * (b * f) + sv zs k n) := by rw [h5]
  grind
theorem Dv.done {N f b n : Nat} {ys xs ps : List Nat} (h : Dv N f b n ys xs 0 ps) (hf : 0 < f) : val 4294967296 ps.reverse = N / b ∧ sv xs 0 n / f = N % b := by
  have h3 := h.2.2.1
  simp [sv] at h3
  exact by_factor hf (by rw [← h3]) h.2.1
/-- what the guess stands on, of a window -/
theorem Dv.gs {N f b k kk : Nat} {ys xs ps : List Nat} (h : Dv N f b (k + 2) ys xs (kk + 1) ps) (hy : ys.length = k + 2) (hyl : Low 4294967296 ys) (hyv : val 4294967296 ys = b * f) (h0 : 0 < lmb ys (k + 1)) (hb : 0 < b * f) :
    Gs (b * f) (sv xs kk (k + 2 + 1)) (lmb ys (k + 1)) (lmb ys k) (lmb xs (kk + (k + 2)) * 4294967296 + lmb xs (kk + (k + 1))) (lmb xs (kk + k)) (sv xs kk (k + 2 + 1) / (b * f)) k (lmb xs (kk + (k + 2))) (lmb xs (kk + (k + 1))) := by
  obtain ⟨e1, e2, e3⟩ := h.win
  have hlow := h.1
  have t := val_top2 (b := 4294967296) ys k hy
  rw [hyv] at t
  have tl := val_lt (by decide) (hyl.take k)
  rw [List.length_take, Nat.min_eq_left (by omega)] at tl
  have s1 : sv xs kk (k + 2 + 1) = sv xs kk k + 4294967296 ^ k * lmb xs (kk + k) + 4294967296 ^ k * 4294967296 * lmb xs (kk + (k + 1)) + 4294967296 ^ k * 4294967296 * 4294967296 * lmb xs (kk + (k + 2)) := by
    rw [sv_succ, sv_succ, sv_succ, Nat.pow_succ, Nat.pow_succ, Nat.pow_succ]
  have s2 := sv_lt hlow kk k
  have el : ∀ i, ys.getD i 0 = lmb ys i := fun i => rfl
  rw [el, el] at t
  refine ⟨lmb_lt hyl _, lmb_lt hyl _, lmb_lt hlow _, lmb_lt hlow _, lmb_lt hlow _, h0, rfl, ?_, ?_, ?_, ?_, ?_, Nat.div_mul_le_self _ _, off_back hb rfl, quo_lt e2 hb⟩
  · -- the highest limb is no greater than by's
    rcases Nat.lt_or_ge (lmb ys (k + 1)) (lmb xs (kk + (k + 2))) with hlt | hge
    · exfalso
      have h3 : 4294967296 ^ k * 4294967296 * 4294967296 * (lmb ys (k + 1) + 1) ≤ 4294967296 ^ k * 4294967296 * 4294967296 * lmb xs (kk + (k + 2)) := Nat.mul_le_mul_left _ hlt
      have h4 : 4294967296 * (b * f) < 4294967296 ^ k * 4294967296 * 4294967296 * (lmb ys (k + 1) + 1) := by
        have h5 := lmb_lt hyl k
        have h6 : 4294967296 ^ k * (lmb ys k + 1) ≤ 4294967296 ^ k * 4294967296 := Nat.mul_le_mul_left _ h5
        have h7 : 4294967296 ^ k * (lmb ys k + 1) = 4294967296 ^ k * lmb ys k + 4294967296 ^ k := by grind
        have h8 : 4294967296 ^ k * (lmb ys k + 4294967296 * lmb ys (k + 1)) = 4294967296 ^ k * lmb ys k + 4294967296 ^ k * 4294967296 * lmb ys (k + 1) := by grind
        have h9 : 4294967296 ^ k * 4294967296 * (lmb ys (k + 1) + 1) = 4294967296 ^ k * 4294967296 * lmb ys (k + 1) + 4294967296 ^ k * 4294967296 := by grind
        have h10 : b * f < 4294967296 ^ k * 4294967296 * (lmb ys (k + 1) + 1) := by omega
        have h11 : 4294967296 ^ k * 4294967296 * 4294967296 * (lmb ys (k + 1) + 1) = 4294967296 * (4294967296 ^ k * 4294967296 * (lmb ys (k + 1) + 1)) := by grind
        omega
      omega
    · exact hge
  · rw [t]
    have : lmb ys (k + 1) * 4294967296 * 4294967296 ^ k + lmb ys k * 4294967296 ^ k = 4294967296 ^ k * (lmb ys k + 4294967296 * lmb ys (k + 1)) := by grind
    omega
  · rw [t]
    have : (lmb ys (k + 1) * 4294967296 + lmb ys k + 1) * 4294967296 ^ k = 4294967296 ^ k * (lmb ys k + 4294967296 * lmb ys (k + 1)) + 4294967296 ^ k := by grind
    omega
  · rw [s1]
    have : ((lmb xs (kk + (k + 2)) * 4294967296 + lmb xs (kk + (k + 1))) * 4294967296 + lmb xs (kk + k)) * 4294967296 ^ k = 4294967296 ^ k * lmb xs (kk + k) + 4294967296 ^ k * 4294967296 * lmb xs (kk + (k + 1)) + 4294967296 ^ k * 4294967296 * 4294967296 * lmb xs (kk + (k + 2)) := by grind
    omega
  · rw [s1]
    have : ((lmb xs (kk + (k + 2)) * 4294967296 + lmb xs (kk + (k + 1))) * 4294967296 + lmb xs (kk + k) + 1) * 4294967296 ^ k = 4294967296 ^ k * lmb xs (kk + k) + 4294967296 ^ k * 4294967296 * lmb xs (kk + (k + 1)) + 4294967296 ^ k * 4294967296 * 4294967296 * lmb xs (kk + (k + 2)) + 4294967296 ^ k := by grind
    omega
end Go.Proofs.YtocoflojlliapaaDoor
