import Derived.Test.YtocoflojlliapaaDoorH3
import Derived.Test.YtocoflojlliapaaDoorL1
set_option linter.unusedVariables false
namespace Go.Proofs.YtocoflojlliapaaDoor
open Go.RowKit
/-- the number at A, by its sign and limbs, is z -/
def NumAt (w : World) (r : Bool) (A : Option Addr) (m c : Nat) (z : Int) : Prop := ∃ M, Mag w A m c M ∧ sg r M = z
theorem NumAt.below {w w' : World} {r : Bool} {A : Option Addr} {m c : Nat} {z : Int} (h : NumAt w r A m c z) (hb : Below w.heap.size w w') : NumAt w' r A m c z := by
  obtain ⟨M, hm, hs⟩ := h
  exact ⟨M, hm.below hb, hs⟩
theorem sg_abs {R : Bool} {N : Nat} {z : Int} (h : sg R N = z) : N = z.natAbs := by
  cases R
  · rw [sg_false] at h; omega
  · rw [sg_true] at h; omega
theorem Gives.yes {w w' : World} {e : Ending} {z : Int} (h : Gives w w' e z) (hfit : dl z.natAbs ≤ 48) :
    ∃ r A m c, e = .returned (.tuple #[.agg #[.bool r, .slice A m c], .int .i64 0]) ∧ NumAt w' r A m c z ∧ m ≤ 48 ∧ Below w.heap.size w w' := by
  obtain ⟨R, N, hs, hz⟩ := h
  have hN := sg_abs hz
  rw [← hN] at hfit
  obtain ⟨A, c, rfl, hf⟩ := hs.yes hfit
  exact ⟨_, A, _, c, rfl, ⟨N, (Mag.of_fresh hf).1, by rw [sg_signB]; exact hz⟩, hfit, hf.2⟩
theorem Gives.no {w w' : World} {e : Ending} {z : Int} (h : Gives w w' e z) (hbig : 48 < dl z.natAbs) :
    e = .returned (.tuple #[.agg #[.bool false, .slice none 0 0], .int .i64 6]) ∧ Below w.heap.size w w' := by
  obtain ⟨R, N, hs, hz⟩ := h
  rw [← sg_abs hz] at hbig
  exact hs.no hbig
theorem cmp_at {na nb : Bool} {A1 A2 : Option Addr} {n1 c1 n2 c2 : Nat} {x y : Int} (w : World) (h1 : NumAt w na A1 n1 c1 x) (h2 : NumAt w nb A2 n2 c2 y) (l1 : n1 ≤ 1000000) (l2 : n2 ≤ 1000000) :
    Calls Tryd.prog 31 #[.agg #[.bool na, .slice A1 n1 c1], .agg #[.bool nb, .slice A2 n2 c2]] w fun e w' => e = .returned (.int .i64 (cmpI x y)) ∧ Below w.heap.size w w' := by
  obtain ⟨a, m1, rfl⟩ := h1
  obtain ⟨b, m2, rfl⟩ := h2
  exact cmp_any na nb A1 A2 n1 c1 a n2 c2 b w m1 m2 l1 l2
theorem sign_at {r : Bool} {A : Option Addr} {m c : Nat} {x : Int} (w : World) (h : NumAt w r A m c x) (hl : m ≤ 35184372088832) :
    Calls Tryd.prog 27 #[.agg #[.bool r, .slice A m c]] w fun e w' => e = .returned (.int .i64 (cmpI x 0)) ∧ Below w.heap.size w w' := by
  obtain ⟨a, m1, rfl⟩ := h
  exact (sign_any r A m c a w m1 hl).mono fun e w' ⟨he, hw⟩ => ⟨he, by rw [← hw]; exact below_al (Below.refl _ _) _⟩
theorem add_at {na nb : Bool} {A1 A2 : Option Addr} {n1 c1 n2 c2 : Nat} {x y : Int} (w : World) (h1 : NumAt w na A1 n1 c1 x) (h2 : NumAt w nb A2 n2 c2 y) (l1 : n1 ≤ 1000) (l2 : n2 ≤ 1000) :
    Calls Tryd.prog 35 #[.agg #[.bool na, .slice A1 n1 c1], .agg #[.bool nb, .slice A2 n2 c2]] w fun e w' => Gives w w' e (x + y) := by
  obtain ⟨a, m1, rfl⟩ := h1
  obtain ⟨b, m2, rfl⟩ := h2
  exact add_any na nb A1 A2 n1 c1 a n2 c2 b w m1 m2 l1 l2
theorem sub_at {na nb : Bool} {A1 A2 : Option Addr} {n1 c1 n2 c2 : Nat} {x y : Int} (w : World) (h1 : NumAt w na A1 n1 c1 x) (h2 : NumAt w nb A2 n2 c2 y) (l1 : n1 ≤ 1000) (l2 : n2 ≤ 1000) :
    Calls Tryd.prog 36 #[.agg #[.bool na, .slice A1 n1 c1], .agg #[.bool nb, .slice A2 n2 c2]] w fun e w' => Gives w w' e (x - y) := by
  obtain ⟨a, m1, rfl⟩ := h1
  obtain ⟨b, m2, rfl⟩ := h2
  exact sub_any na nb A1 A2 n1 c1 a n2 c2 b w m1 m2 l1 l2
end Go.Proofs.YtocoflojlliapaaDoor
