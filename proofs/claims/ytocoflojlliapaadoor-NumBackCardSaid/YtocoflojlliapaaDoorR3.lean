import Derived.Test.YtocoflojlliapaaDoorR2
set_option linter.unusedVariables false
namespace Go.Proofs.YtocoflojlliapaaDoor
open Go.RowKit
theorem drew2' (w : World) (a b : Nat) : ∃ m, (w.drewN a).drewN b = w.drewN m := ⟨a + b, by rw [World.drewN_drewN]⟩
theorem boxes24 (w : World) (a b a' b' : Value) : ∀ W, W = (w.alloc (.cells #[a, b] 24)).alloc (.cells #[a', b'] 24) →
    Two W w.heap.size 24 a b ∧ Two W (w.heap.size + 1) 24 a' b' ∧ Below w.heap.size w W ∧ W.heap.size = w.heap.size + 2 := by
  rintro W rfl
  refine ⟨(Two.made w 24 a b).alloc _, ?_, below_al (below_al (Below.refl _ _) _) _, by simp⟩
  have := Two.made (w.alloc (.cells #[a, b] 24)) 24 a' b'
  simpa using this
set_option maxHeartbeats 1600000 in
theorem same_yes (neg : Bool) (A1 A2 : Option Addr) (xs : List Nat) (n c1 c2 : Nat) (w : World) (h1 : Lim .u32 w.heap.size w A1 xs) (h2 : Lim .u32 w.heap.size w A2 xs) (hn : Hid (xs.length = n)) (hl : n ≤ 1000000) :
    Calls Tryd.prog 33 #[.agg #[.bool neg, .slice A1 n c1], .agg #[.bool neg, .slice A2 n c2]] w fun e w' => e = .returned (.bool true) ∧ Below w.heap.size w w' := by
  obtain ⟨W, hW⟩ : ∃ W, W = (w.alloc (.cells #[.bool neg, .slice A1 n c1] 24)).alloc (.cells #[.bool neg, .slice A2 n c2] 24) := ⟨_, rfl⟩
  obtain ⟨t1, t2, hbW, _⟩ := boxes24 w _ _ _ _ W hW
  have g1 := h1.below' hbW
  have g2 := h2.below' hbW
  have k1 := t1.fst
  have k2 := t1.snd
  have k3 := t2.fst
  have k4 := t2.snd
  go_enter Tryd.func33, Tryd.ntmps33
  go_wp2_with fail
  rw [← hW]
  have HW := Lib.hid hW
  clear hW h1 h2
  go_loopw [5] (fun i wr => ∃ k m : Nat, k ≤ n ∧ i = .int .i64 k ∧ wr = W.drewN m) (fun i _ => n - (intOf i).toNat)
  case atStart => exact ⟨0, 0, Nat.zero_le _, rfl, rfl⟩
  case round =>
    obtain ⟨k, m, hk, rfl, rfl⟩ := hrel
    by_cases hlt : k < n
    · have hxl : k < xs.length := by rw [hn.out]; exact hlt
      obtain ⟨a1, rfl, _, q1⟩ := g1.at hxl
      obtain ⟨a2, rfl, _, q2⟩ := g2.at hxl
      generalize xs[k] = X at q1 q2
      go_wp2
      go_quiet (fail)
      go_wp2
      go_roundw
      case rel => exact ⟨k + 1, _, by omega, by go_num, rfl⟩
      case measure => simp [intOf]; omega
    · go_wp2
      go_ret
      exact ⟨rfl, below_drewN hbW m⟩
end Go.Proofs.YtocoflojlliapaaDoor
