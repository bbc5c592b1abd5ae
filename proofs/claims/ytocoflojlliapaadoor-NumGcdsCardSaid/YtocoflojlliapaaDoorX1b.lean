/- A round of Knuth's division: the two ways. -/
import Derived.Test.YtocoflojlliapaaDoorX1
set_option linter.unusedVariables false
namespace Go.Proofs.YtocoflojlliapaaDoor
open Go.RowKit
theorem Dv.fits {N f b n p pq q cc bb : Nat} {ys xs zs ps : List Nat} (h : Dv N f b n ys xs (p + 1) ps) (hy : ys.length = n) (hyl : Low 4294967296 ys) (hyv : val 4294967296 ys = b * f) (hb : 0 < b * f) (hq : q = sv xs p (n + 1) / (b * f)) (hpq : q ≤ pq)
    (ht : Tk xs ys pq p n cc bb zs) (hge : ¬ lmb xs (p + n) < cc + bb) : Dv N f b n ys zs p (ps ++ [pq]) ∧ zs.length = xs.length := by
  obtain ⟨e1, e2, e3, e4, e5, e6⟩ := ht
  rw [List.take_of_length_le (by omega), hyv] at e6
  have hY : b * f ≤ 4294967296 ^ n := by
    have := val_lt (by decide) hyl
    rw [hyv, hy] at this
    omega
  have hqh : sv xs p (n + 1) < (q + 1) * (b * f) := off_back hb hq
  have h1 := left_fits e6 (sv_lt e2 p n) (h.win).2.2 hY (by omega) (Nat.lt_of_lt_of_le hqh (Nat.mul_le_mul_right _ (by omega)))
  have h2 : pq ≤ q := by rw [hq]; exact (Nat.le_div_iff_mul_le hb).2 h1.2
  have h3 : pq = q := by omega
  exact ⟨h.next e2 (fun j hj => e5 j (.inl hj)) (by rw [h3]; exact hq) h1.1 hb, e1⟩
theorem Dv.back {N f b n p pq q cc bb k2 : Nat} {ys xs zs vs ps : List Nat} (h : Dv N f b n ys xs (p + 1) ps) (hy : ys.length = n) (hyl : Low 4294967296 ys) (hyv : val 4294967296 ys = b * f) (hb : 0 < b * f) (hq : q = sv xs p (n + 1) / (b * f)) (hpq : q ≤ pq) (hpq2 : pq ≤ q + 1)
    (ht : Tk xs ys pq p n cc bb zs) (hlt : lmb xs (p + n) < cc + bb) (hk : Pb zs ys p n k2 vs) : Dv N f b n ys vs p (ps ++ [pq - 1]) ∧ vs.length = xs.length := by
  obtain ⟨e1, e2, e3, e4, e5, e6⟩ := ht
  obtain ⟨g1, g2, g3, g4, g5⟩ := hk
  rw [List.take_of_length_le (by omega), hyv] at e6 g5
  have hY : b * f ≤ 4294967296 ^ n := by
    have := val_lt (by decide) hyl
    rw [hyv, hy] at this
    omega
  have h1 := (off_lt e6 (sv_lt e2 p n) (h.win).2.2).2 hlt
  have hql : q * (b * f) ≤ sv xs p (n + 1) := by rw [hq]; exact Nat.div_mul_le_self _ _
  have h2 : pq = q + 1 := by
    rcases Nat.lt_or_ge q pq with h3 | h3
    · omega
    · have : pq = q := by omega
      rw [this] at h1
      omega
  have h4 := left_back e6 (sv_lt e2 p n) (h.win).2.2 g5 (sv_lt g2 p n) hY hlt h2 hql
  exact ⟨h.next g2 (fun j hj => (g4 j (.inl hj)).trans (e5 j (.inl hj))) (by rw [h2]; exact hq) (by rw [h2]; exact h4) hb, by rw [g1, e1]⟩
theorem Dv.pos {N f b n p pq cc bb : Nat} {ys xs zs ps : List Nat} (h : Dv N f b n ys xs (p + 1) ps) (hy : ys.length = n) (hyv : val 4294967296 ys = b * f) (ht : Tk xs ys pq p n cc bb zs) (hlt : lmb xs (p + n) < cc + bb) : 1 ≤ pq := by
  obtain ⟨e1, e2, e3, e4, e5, e6⟩ := ht
  rw [List.take_of_length_le (by omega), hyv] at e6
  have h1 := (off_lt e6 (sv_lt e2 p n) (h.win).2.2).2 hlt
  rcases Nat.eq_zero_or_pos pq with h2 | h2
  · rw [h2] at h1; omega
  · exact h2
theorem Save.grown {g base : Nat} {Z w w' : World} {row : Option Nat} (h : Save g (g + 1) Z w) (hb : base = Z.heap.size) (hg : w.grownBy w' row) (hr : ∀ k, row = some k → base ≤ k) : Save g (g + 1) Z w' :=
  ⟨hg.os.trans h.os, hg.tape.trans h.tape, hg.output.trans h.output, Nat.le_trans h.size hg.size, fun k hk ho => (hg.block k (by have := h.size; omega) (fun e => by have := hr k e.symm; omega)).trans (h.block k hk ho)⟩
theorem Save.alloc {g : Nat} {Z w : World} (h : Save g (g + 1) Z w) (o : Obj) : Save g (g + 1) Z (w.alloc o) :=
  ⟨h.os, h.tape, h.output, by have := h.size; simp; omega, fun k hk ho => (Below.heap_alloc w o k (by have := h.size; omega)).trans (h.block k hk ho)⟩
end Go.Proofs.YtocoflojlliapaaDoor
