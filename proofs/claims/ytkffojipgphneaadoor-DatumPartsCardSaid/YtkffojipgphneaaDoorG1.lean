/- The document's Same of two numbers. -/
import Derived.Test.YtkffojipgphneaaDoorE1
set_option linter.unusedVariables false
set_option linter.unusedSimpArgs false
namespace Go.Proofs.YtkffojipgphneaaDoor
open Go Go.RowKit
def numB (g1 g2 : Bool) (xs ys : List Nat) : Bool := decide (g1 = g2 ∧ xs = ys)
theorem below_dr {B : Nat} {w W : World} (h : Below B w W) (n : Nat) : Below B w (W.drewN n) := ⟨h.os, h.tape, h.output, h.size, h.block⟩
set_option maxHeartbeats 1600000 in
theorem numsame_eq (g : Bool) (A1 A2 : Option Addr) (n c1 c2 : Nat) (xs ys : List Nat) (w : World) (hn1 : Hid (xs.length = n)) (hn2 : Hid (ys.length = n)) (m1 : MagAt (fun k => k < w.heap.size) w A1 xs) (m2 : MagAt (fun k => k < w.heap.size) w A2 ys) (h1 : n ≤ 35184372088832) (B : Bool) (hB : Hid (decide (xs = ys) = B)) :
    Calls Tryd.prog 21 #[.agg #[.bool g, .slice A1 n c1], .agg #[.bool g, .slice A2 n c2]] w fun e w' => e = .returned (.bool B) ∧ Below w.heap.size w w' := by
  obtain ⟨W, hW⟩ : ∃ W, W = (w.alloc (.cells #[.bool g, .slice A1 n c1] 24)).alloc (.cells #[.bool g, .slice A2 n c2] 24) := ⟨_, rfl⟩
  have hbW : Below w.heap.size w W := by rw [hW]; exact ((Below.refl _ _).alloc (Nat.le_refl _) _).alloc (by simp) _
  have hx1 : W.heap[w.heap.size]? = some (.cells #[.bool g, .slice A1 n c1] 24 (0, 0)) := by rw [hW]; exact (Below.heap_alloc _ _ _ (by simp)).trans (heap_alloc_new _ _)
  have hx2 : W.heap[w.heap.size + 1]? = some (.cells #[.bool g, .slice A2 n c2] 24 (0, 0)) := by
    rw [hW]
    have := heap_alloc_new (w.alloc (.cells #[.bool g, .slice A1 n c1] 24)) (.cells #[.bool g, .slice A2 n c2] 24)
    rwa [World.size_alloc] at this
  have k1 : W.cell? ⟨w.heap.size, 0, none⟩ = some (.bool g) := by simp [World.cell?, hx1]
  have k2 : W.cell? ⟨w.heap.size, 1, none⟩ = some (.slice A1 n c1) := by simp [World.cell?, hx1]
  have k3 : W.cell? ⟨w.heap.size + 1, 0, none⟩ = some (.bool g) := by simp [World.cell?, hx2]
  have k4 : W.cell? ⟨w.heap.size + 1, 1, none⟩ = some (.slice A2 n c2) := by simp [World.cell?, hx2]
  have M1 := m1.keep (Keep.of_below hbW)
  have M2 := m2.keep (Keep.of_below hbW)
  have hgg : (g != g) = false := by simp
  have hb : ((n : Int) != (n : Int)) = false := by simp
  clear hx1 hx2 m1 m2
  go_enter Tryd.func21, Tryd.ntmps21
  go_wp2_with fail
  rw [← hW]
  have HW := Lib.hid hW
  clear hW
  go_loopw [5] (fun i wr => ∃ k nd : Nat, k ≤ n ∧ i = .int .i64 (k : Nat) ∧ Hid (∀ j, j < k → xs[j]? = ys[j]?) ∧ wr = W.drewN nd) (fun i _ => n - (intOf i).toNat)
  case atStart => exact ⟨0, 0, Nat.zero_le _, rfl, fun j hj => absurd hj (by omega), rfl⟩
  case round =>
    obtain ⟨k, nd, hk, rfl, hE, rfl⟩ := hrel
    by_cases hlt : k < n
    · obtain ⟨a1, rfl, q1⟩ := M1.get (i := k) (by rw [hn1.out]; exact hlt)
      obtain ⟨a2, rfl, q2⟩ := M2.get (i := k) (by rw [hn2.out]; exact hlt)
      have hg : Hid (xs[k]? = ys[k]? ↔ (xs[k]'(by rw [hn1.out]; exact hlt) : Nat) = (ys[k]'(by rw [hn2.out]; exact hlt) : Nat)) := Lib.hid (by rw [List.getElem?_eq_getElem (by rw [hn1.out]; exact hlt), List.getElem?_eq_getElem (by rw [hn2.out]; exact hlt)]; simp)
      generalize (xs[k]'(by rw [hn1.out]; exact hlt) : Nat) = u at *
      generalize (ys[k]'(by rw [hn2.out]; exact hlt) : Nat) = v at *
      by_cases huv : u = v
      · subst huv
        have hbb : ((u : Int) != (u : Int)) = false := by simp
        go_wp2
        go_quiet (fail)
        go_wp2
        go_roundw
        case rel => exact ⟨k + 1, _, by omega, by go_num, fun j hj => by
          rcases Nat.lt_or_ge j k with h | h
          · exact hE.out j h
          · obtain rfl : j = k := by omega
            exact hg.out.2 trivial, rfl⟩
        case measure => simp [intOf]; omega
      · have hbb : ((u : Int) != (v : Int)) = true := by rw [bne_iff_ne]; omega
        have hBf : Hid (B = false) := Lib.hid (by
          rw [← hB.out, decide_eq_false_iff_not]
          intro e
          exact huv (hg.out.1 (by rw [e])))
        clear huv hg
        go_wp2
        go_quiet (fail)
        go_wp2
        go_ret
        exact ⟨by rw [hBf.out]; rfl, below_dr (below_dr hbW _) _⟩
    · obtain rfl : k = n := by omega
      have hBt : Hid (B = true) := Lib.hid (by
        rw [← hB.out, decide_eq_true_eq]
        apply List.ext_getElem?
        intro j
        rcases Nat.lt_or_ge j k with h | h
        · exact hE.out j h
        · rw [List.getElem?_eq_none (by rw [hn1.out]; exact h), List.getElem?_eq_none (by rw [hn2.out]; exact h)])
      go_wp2
      go_ret
      exact ⟨by rw [hBt.out]; rfl, below_dr hbW _⟩
set_option maxHeartbeats 800000 in
theorem numsame_sign (g1 g2 : Bool) (A1 A2 : Option Addr) (n m c1 c2 : Nat) (w : World) (hg : g1 ≠ g2) :
    Calls Tryd.prog 21 #[.agg #[.bool g1, .slice A1 n c1], .agg #[.bool g2, .slice A2 m c2]] w fun e w' => e = .returned (.bool false) ∧ Below w.heap.size w w' := by
  have hbW : Below w.heap.size w ((w.alloc (.cells #[.bool g1, .slice A1 n c1] 24)).alloc (.cells #[.bool g2, .slice A2 m c2] 24)) := ((Below.refl _ _).alloc (Nat.le_refl _) _).alloc (by simp) _
  cases g1 <;> cases g2
  · exact absurd rfl hg
  rotate_right
  · exact absurd rfl hg
  all_goals
    clear hg
    go_enter Tryd.func21, Tryd.ntmps21
    go_wp2
    go_ret
    exact ⟨rfl, hbW⟩
set_option maxHeartbeats 800000 in
theorem numsame_len (g : Bool) (A1 A2 : Option Addr) (n m c1 c2 : Nat) (w : World) (hne : n ≠ m) (h1 : n ≤ 35184372088832) (h2 : m ≤ 35184372088832) :
    Calls Tryd.prog 21 #[.agg #[.bool g, .slice A1 n c1], .agg #[.bool g, .slice A2 m c2]] w fun e w' => e = .returned (.bool false) ∧ Below w.heap.size w w' := by
  have hbW : Below w.heap.size w ((w.alloc (.cells #[.bool g, .slice A1 n c1] 24)).alloc (.cells #[.bool g, .slice A2 m c2] 24)) := ((Below.refl _ _).alloc (Nat.le_refl _) _).alloc (by simp) _
  have hgg : (g != g) = false := by simp
  have hb : ((n : Int) != (m : Int)) = true := by rw [bne_iff_ne]; omega
  clear hne
  go_enter Tryd.func21, Tryd.ntmps21
  go_wp2
  go_ret
  exact ⟨rfl, hbW⟩
theorem numsame_any (g1 g2 : Bool) (A1 A2 : Option Addr) (n m c1 c2 : Nat) (xs ys : List Nat) (w : World) (hn1 : Hid (xs.length = n)) (hn2 : Hid (ys.length = m)) (m1 : MagAt (fun k => k < w.heap.size) w A1 xs) (m2 : MagAt (fun k => k < w.heap.size) w A2 ys) (h1 : n ≤ 35184372088832) (h2 : m ≤ 35184372088832) (B : Bool) (hB : Hid (numB g1 g2 xs ys = B)) :
    Calls Tryd.prog 21 #[.agg #[.bool g1, .slice A1 n c1], .agg #[.bool g2, .slice A2 m c2]] w fun e w' => e = .returned (.bool B) ∧ Below w.heap.size w w' := by
  by_cases hg : g1 = g2
  · subst hg
    by_cases hnm : n = m
    · subst hnm
      exact numsame_eq g1 A1 A2 n c1 c2 xs ys w hn1 hn2 m1 m2 h1 B (Lib.hid (by rw [← hB.out]; simp [numB]))
    · have : B = false := by
        rw [← hB.out]
        simp only [numB, decide_eq_false_iff_not]
        rintro ⟨_, rfl⟩
        exact hnm (hn1.out.symm.trans hn2.out)
      subst this
      exact numsame_len g1 A1 A2 n m c1 c2 w hnm h1 h2
  · have : B = false := by rw [← hB.out]; simp [numB, hg]
    subst this
    exact numsame_sign g1 g2 A1 A2 n m c1 c2 w hg
end Go.Proofs.YtkffojipgphneaaDoor
