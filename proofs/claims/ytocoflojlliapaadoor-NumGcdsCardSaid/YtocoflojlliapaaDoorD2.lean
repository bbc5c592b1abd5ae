/- NumDivides: what the walk wants. -/
import Derived.Test.YtocoflojlliapaaDoorD1
import Derived.Test.YtocoflojlliapaaDoorT3
import Derived.Test.YtocoflojlliapaaDoorY3
set_option linter.unusedVariables false
namespace Go.Proofs.YtocoflojlliapaaDoor
open Go.RowKit
theorem boxes3T (t : TypeId) (w : World) (a b a' b' a'' b'' : Value) : ∀ W, W = ((w.alloc (.cells #[a, b] t)).alloc (.cells #[a', b'] t)).alloc (.cells #[a'', b''] t) →
    Two W w.heap.size t a b ∧ Two W (w.heap.size + 1) t a' b' ∧ Two W (w.heap.size + 2) t a'' b'' ∧ Below w.heap.size w W := by
  rintro W rfl
  refine ⟨((Two.made w t a b).alloc _).alloc _, ?_, ?_, below_al (below_al (below_al (Below.refl _ _) _) _) _⟩
  · have := (Two.made (w.alloc (.cells #[a, b] t)) t a' b').alloc (.cells #[a'', b''] t)
    simpa using this
  · have := Two.made ((w.alloc (.cells #[a, b] t)).alloc (.cells #[a', b'] t)) t a'' b''
    simpa using this
theorem div_bl {x y : Int} {k : Nat} (h : bl x.natAbs ≤ k) : bl (Int.tdiv x y).natAbs ≤ k := by
  rw [Int.natAbs_tdiv]
  exact Nat.le_trans (bl_mono (Nat.div_le_self _ _)) h
theorem rem_bl {x y : Int} {k : Nat} (h : bl y.natAbs ≤ k) (hy : y ≠ 0) : bl (Int.tmod x y).natAbs ≤ k := by
  rw [Int.natAbs_tmod]
  exact Nat.le_trans (bl_mono (Nat.le_of_lt (Nat.mod_lt _ (by omega)))) h
theorem mod_bl {x y : Int} {k : Nat} (h : bl y.natAbs ≤ k) (hy : y ≠ 0) : bl (Int.fmod x y).natAbs ≤ k := by
  refine Nat.le_trans (bl_mono ?_) h
  rcases Int.lt_trichotomy y 0 with h | h | h
  · have e := Int.neg_fmod_neg (-x) (-y)
    rw [Int.neg_neg, Int.neg_neg] at e
    have h1 := Int.fmod_nonneg_of_pos (-x) (show (0 : Int) < -y by omega)
    have h2 := Int.fmod_lt_of_pos (-x) (show (0 : Int) < -y by omega)
    omega
  · exact absurd h hy
  · have h1 := Int.fmod_nonneg_of_pos x h
    have h2 := Int.fmod_lt_of_pos x h
    omega
theorem zero_at {f : FuncId} (hz : ZeroSaid f) (w : World) (r1 : Bool) (A1 : Option Addr) (n1 c1 : Nat) {r2 : Bool} {A2 : Option Addr} {n2 c2 : Nat} {y : Int} (h2 : NumAt w r2 A2 n2 c2 y) (hy : y = 0) (l2 : n2 ≤ 1000) :
    Calls Tryd.prog f #[.agg #[.bool r1, .slice A1 n1 c1], .agg #[.bool r2, .slice A2 n2 c2]] w fun e w' => e = .returned (.tuple #[.agg #[.bool false, .slice none 0 0], .int .i64 13]) ∧ Below w.heap.size w w' := by
  obtain ⟨M, hm, hs⟩ := h2
  have : M = 0 := by rw [sg_abs hs, hy]; rfl
  subst this
  exact hz r1 r2 A1 A2 n1 c1 n2 c2 w hm l2
end Go.Proofs.YtocoflojlliapaaDoor
