/- datum.reach, step, turned. -/
import Derived.Test.YtkffojipgphneaaDoorB
import Derived.Test.YtkffojipgphneaaDoorT1
import Derived.Outline
import Derived.IntWalk
import Derived.Deep.QuietTactic
import Derived.BigQuiet
set_option linter.unusedVariables false
namespace Go.Proofs.YtkffojipgphneaaDoor
open Go Go.RowKit
def rch (k lvl : Int) : Int := if k = 8 then lvl + 1 else lvl
set_option maxHeartbeats 400000 in
theorem reach_any (b o : Nat) (kk lvl : Int) (w : World) (hk : w.cell? ⟨b, o, none⟩ = some (.int .i64 kk)) (l0 : 0 ≤ lvl) (l1 : lvl ≤ 1000000) :
    Calls Tryd.prog 33 #[.pointer (some ⟨b, o, none⟩), .int .i64 lvl] w fun e w' => e = .returned (.int .i64 (rch kk lvl)) ∧ w = w' := by
  by_cases h : kk = 8
  · subst h
    go_enter Tryd.func33, Tryd.ntmps33
    go_wp2
    go_ret
    exact ⟨rfl, rfl⟩
  · have h1 : (kk == 8) = false := by simpa using h
    have e1 : Hid (rch kk lvl = lvl) := Lib.hid (by simp [rch, h])
    clear h
    go_enter Tryd.func33, Tryd.ntmps33
    go_wp2
    go_ret
    exact ⟨by rw [e1.out]; rfl, rfl⟩
set_option maxHeartbeats 400000 in
theorem turned_any (A : Option Addr) (n c : Nat) (w : World) :
    Calls Tryd.prog 38 #[.slice A n c] w fun e w' => e = .returned (.func (.func 59) #[] #[.pointer (some ⟨w.heap.size, 0, none⟩)]) ∧ w.alloc (.cells #[.slice A n c] 25) = w' := by
  go_enter Tryd.func38, Tryd.ntmps38
  go_wp2
  go_ret
  exact ⟨rfl, rfl⟩
set_option maxHeartbeats 800000 in
theorem step_any (b o kb ko m lcap i : Nat) (kk ki : Int) (w : World) (hk : w.cell? ⟨b, o, none⟩ = some (.int .i64 kk)) (hl : w.cell? ⟨b, o + 5, none⟩ = some (.slice (some ⟨kb, ko, none⟩) m lcap))
    (hi : i < m) (hm : m ≤ 140737488355328) (hki : w.cell? ⟨kb, ko + i * 6, none⟩ = some (.int .i64 ki)) :
    Calls Tryd.prog 49 #[.pointer (some ⟨b, o, none⟩), .int .i64 i] w fun e w' => e = .returned (.int .i64 (stp kk (i + 1 == m) ki)) ∧ w = w' := by
  by_cases h : kk = 7
  · subst h
    by_cases h2 : i + 1 = m
    · have b2 : ((i : Int) == (m : Int) - 1) = true := by simp; omega
      have e2 : Hid (m = i + 1) := Lib.hid h2.symm
      by_cases h3 : ki = 7
      · subst h3
        have e1 : Hid (stp 7 (i + 1 == m) 7 = 0) := Lib.hid (by simp [stp, h2])
        clear h2
        go_enter Tryd.func49, Tryd.ntmps49
        go_wp2
        go_ret
        exact ⟨by rw [e1.out]; rfl, rfl⟩
      · have e1 : Hid (stp 7 (i + 1 == m) ki = 1) := Lib.hid (by simp [stp, h3])
        have b3 : (ki == 7) = false := by simpa using h3
        clear h2 h3
        go_enter Tryd.func49, Tryd.ntmps49
        go_wp2
        go_ret
        exact ⟨by rw [e1.out]; rfl, rfl⟩
    · have b2 : ((i : Int) == (m : Int) - 1) = false := by simp; omega
      have e1 : Hid (stp 7 (i + 1 == m) ki = 1) := Lib.hid (by simp [stp, h2])
      clear h2
      go_enter Tryd.func49, Tryd.ntmps49
      go_wp2
      go_ret
      exact ⟨by rw [e1.out]; rfl, rfl⟩
  · have b1 : (kk == 7) = false := by simpa using h
    have e1 : Hid (stp kk (i + 1 == m) ki = 1) := Lib.hid (by simp [stp, h])
    clear h
    go_enter Tryd.func49, Tryd.ntmps49
    go_wp2
    go_ret
    exact ⟨by rw [e1.out]; rfl, rfl⟩
end Go.Proofs.YtkffojipgphneaaDoor
