/- datum.turned. -/
import Derived.Test.YtkffojipgphneaaDoorA
import Derived.Test.YtkffojipgphneaaDoorProg
import Derived.Outline
set_option linter.unusedVariables false
namespace Go.Proofs.YtkffojipgphneaaDoor
open Go Go.RowKit Go.Shelf
attribute [local go_sem] Oper.semAt_some
def down (m : Nat) : List Nat := (List.range m).reverse
theorem down_succ (m : Nat) : down (m + 1) = m :: down m := by simp [down, List.range_succ]
theorem down_zero : down 0 = [] := rfl
set_option maxRecDepth 100000 in
set_option maxHeartbeats 1000000 in
theorem turned1_gives (m : Nat) (A : Option Addr) (c bx : Nat) (w : World) (hc : w.cell? ⟨bx, 0, none⟩ = some (.slice A m c)) (hm : m ≤ 140737488355328) :
    Gives Tryd.prog 59 #[.pointer (some ⟨bx, 0, none⟩)] (fun i : Nat => #[Value.int .i64 i]) (down m) (fun _ _ => True) (fun V V' => V' = V) w := by
  intro l J Jx hJ hJx hY h0
  have h59 : Fence.wide.fn 59 := trivial
  refine callsIn_of_wp Tryd.func59 rfl h59 ?_ rfl
  simp only [Tryd.ntmps59, List.size_toArray, List.length_cons, List.length_nil, Nat.reduceAdd, Nat.reduceSub, Array.replicate_succ, Array.replicate_zero, List.push_toArray, List.append_toArray, List.nil_append, List.cons_append]
  gi_wp2
  gi_loopw [3] (fun p wr => ∃ (k : Nat) (pre : List Nat), k ≤ m ∧ p = .int .i64 ((k : Int) - 1) ∧ down m = pre ++ down k ∧ J pre wr)
    (fun p wr => (intOf p + 1).toNat)
  case atStart =>
    exact ⟨m, [], Nat.le_refl _, rfl, rfl, h0⟩
  case round =>
    obtain ⟨k, pre, hk, rfl, hL, hJs⟩ := hrel
    have HL := Lib.hid hL
    clear hL
    rcases k with _ | k
    · have e0 : ((0 : Nat) : Int) - 1 = -1 := rfl
      rw [e0]
      gi_wp2
      refine ⟨fun _ h => (by cases h), ?_⟩
      gi_wp2
      go_end0
      exact ⟨⟨_, rfl⟩, .inl (by have := HL.out; rw [down_zero, List.append_nil] at this; rw [this]; exact hJs)⟩
    · have hL' : down m = pre ++ k :: down k := by rw [← down_succ]; exact HL.out
      obtain ⟨fn, tmps, assign, body, hy, hR⟩ := hY pre k (down k) wr hL' hJs
      have HL' := Lib.hid hL'
      clear hL'
      have e1 : ((k + 1 : Nat) : Int) - 1 = (k : Int) := by omega
      rw [e1]
      have HE := Lib.hid e1
      clear e1
      gi_wp2
      refine ⟨rfl, hR.mono ?_⟩
      rintro e W3 (⟨rfl, hJ3, hk3⟩ | ⟨rfl, hJx3, _⟩)
      · gi_wp2
        go_roundw
        case rel => exact ⟨k, pre ++ [k], by omega, rfl, by rw [List.append_assoc]; exact HL'.out, hJ3⟩
        case measure => simp [intOf]
      · gi_wp2
        go_end0
        exact ⟨⟨_, rfl⟩, .inr ⟨pre, k, down k, HL'.out, hJx3⟩⟩
end Go.Proofs.YtkffojipgphneaaDoor
