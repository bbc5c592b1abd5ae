import Derived.Test.YtocoflojlliapaaDoorF1
set_option linter.unusedVariables false
namespace Go.Proofs.YtocoflojlliapaaDoor
open Go.RowKit
def modN (na nb : Bool) (a b : Nat) : Nat := if na ≠ nb ∧ a % b ≠ 0 then b - a % b else a % b
theorem boxes3 (w : World) (a b a' b' a'' b'' : Value) : ∀ W, W = ((w.alloc (.cells #[a, b] 24)).alloc (.cells #[a', b'] 24)).alloc (.cells #[a'', b''] 24) →
    Two W w.heap.size 24 a b ∧ Two W (w.heap.size + 1) 24 a' b' ∧ Two W (w.heap.size + 2) 24 a'' b'' ∧ Below w.heap.size w W ∧ W.heap.size = w.heap.size + 3 := by
  rintro W rfl
  refine ⟨((Two.made w 24 a b).alloc _).alloc _, ?_, ?_, below_al (below_al (below_al (Below.refl _ _) _) _) _, by simp⟩
  · have := (Two.made (w.alloc (.cells #[a, b] 24)) 24 a' b').alloc (.cells #[a'', b''] 24)
    simpa using this
  · have := Two.made ((w.alloc (.cells #[a, b] 24)).alloc (.cells #[a', b'] 24)) 24 a'' b''
    simpa using this
theorem sign_nz {nb : Bool} {b : Nat} (hb : b ≠ 0) : (cmpI (sg nb b) 0 == 0) = false := by
  rw [beq_eq_false_iff_ne]
  rcases cmpI_sign (sg nb b) with ⟨h, _⟩ | ⟨_, h⟩ | ⟨h, _⟩
  · rw [h]; decide
  · cases nb
    · rw [sg_false] at h; omega
    · rw [sg_true] at h; omega
  · rw [h]; decide
theorem sign_z (nb : Bool) : cmpI (sg nb 0) 0 = 0 := cmpI_eq (sg_zero nb)
/-- the zero and its error, where b is 0 -/
def ZeroSaid (f : FuncId) : Prop := ∀ (na nb : Bool) (A1 A2 : Option Addr) (n1 c1 n2 c2 : Nat) (w : World), Mag w A2 n2 c2 0 → n2 ≤ 1000 →
    Calls Tryd.prog f #[.agg #[.bool na, .slice A1 n1 c1], .agg #[.bool nb, .slice A2 n2 c2]] w fun e w' => e = .returned (.tuple #[.agg #[.bool false, .slice none 0 0], .int .i64 13]) ∧ Below w.heap.size w w'
set_option maxHeartbeats 1600000 in
theorem quo_zero : ZeroSaid 40 := by
  intro na nb A1 A2 n1 c1 n2 c2 w h2 l2
  have S2 := fun W h => sign_any nb A2 n2 c2 0 W h (by omega)
  rw [sign_z] at S2
  have HS := fun W h => Lib.hid (S2 W h)
  clear S2
  have hm := ((h2.alloc (.cells #[.bool na, .slice A1 n1 c1] 24)).alloc (.cells #[.bool nb, .slice A2 n2 c2] 24)).alloc (.cells #[.bool false, .slice none 0 0] 24)
  go_enter Tryd.func40, Tryd.ntmps40
  go_wp2_with (go_at_call 27; refine ((HS _ hm).out).mono ?_; rintro e w' ⟨rfl, rfl⟩)
  exact bodyPost_ret (v := .tuple #[.agg #[.bool false, .slice none 0 0], .int .i64 13]) (by simp [results, Tryd.results40, go_sem]) rfl ⟨rfl, below_al (below_al (below_al (below_al (Below.refl _ _) _) _) _) _⟩
set_option maxHeartbeats 1600000 in
theorem rem_zero : ZeroSaid 41 := by
  intro na nb A1 A2 n1 c1 n2 c2 w h2 l2
  have S2 := fun W h => sign_any nb A2 n2 c2 0 W h (by omega)
  rw [sign_z] at S2
  have HS := fun W h => Lib.hid (S2 W h)
  clear S2
  have hm := ((h2.alloc (.cells #[.bool na, .slice A1 n1 c1] 24)).alloc (.cells #[.bool nb, .slice A2 n2 c2] 24)).alloc (.cells #[.bool false, .slice none 0 0] 24)
  go_enter Tryd.func41, Tryd.ntmps41
  go_wp2_with (go_at_call 27; refine ((HS _ hm).out).mono ?_; rintro e w' ⟨rfl, rfl⟩)
  exact bodyPost_ret (v := .tuple #[.agg #[.bool false, .slice none 0 0], .int .i64 13]) (by simp [results, Tryd.results41, go_sem]) rfl ⟨rfl, below_al (below_al (below_al (below_al (Below.refl _ _) _) _) _) _⟩
set_option maxHeartbeats 1600000 in
theorem mod_zero : ZeroSaid 42 := by
  intro na nb A1 A2 n1 c1 n2 c2 w h2 l2
  have S2 := fun W h => sign_any nb A2 n2 c2 0 W h (by omega)
  rw [sign_z] at S2
  have HS := fun W h => Lib.hid (S2 W h)
  clear S2
  have hm := ((h2.alloc (.cells #[.bool na, .slice A1 n1 c1] 24)).alloc (.cells #[.bool nb, .slice A2 n2 c2] 24)).alloc (.cells #[.bool false, .slice none 0 0] 24)
  go_enter Tryd.func42, Tryd.ntmps42
  go_wp2_with (go_at_call 27; refine ((HS _ hm).out).mono ?_; rintro e w' ⟨rfl, rfl⟩)
  exact bodyPost_ret (v := .tuple #[.agg #[.bool false, .slice none 0 0], .int .i64 13]) (by simp [results, Tryd.results42, go_sem]) rfl ⟨rfl, below_al (below_al (below_al (below_al (Below.refl _ _) _) _) _) _⟩
end Go.Proofs.YtocoflojlliapaaDoor
