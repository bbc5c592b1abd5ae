import Derived.Test.YtocoflojlliapaaDoorC2
import Derived.Deep.LoopGhost
set_option linter.unusedVariables false
namespace Go.Proofs.YtocoflojlliapaaDoor
open Go.RowKit
/-- how many bits a value needs -/
def bl (N : Nat) : Nat := (digs 2 N).length
/-- the slice at A of n bits comes to N in w -/
def Bit (w : World) (A : Option Addr) (n c N : Nat) : Prop := ∃ xs, Lim .u8 w.heap.size w A xs ∧ Low 2 xs ∧ xs.length = n ∧ val 2 xs = N ∧ n ≤ c
section
variable {w w' : World} {A : Option Addr} {n c N : Nat}
theorem Bit.below (h : Bit w A n c N) (hb : Below w.heap.size w w') : Bit w' A n c N := by
  obtain ⟨xs, h1, h2, h3, h4, h5⟩ := h
  exact ⟨xs, h1.below' hb, h2, h3, h4, h5⟩
theorem Bit.drewN (h : Bit w A n c N) (m : Nat) : Bit (w.drewN m) A n c N := h
theorem Bit.alloc (h : Bit w A n c N) (o : Obj) : Bit (w.alloc o) A n c N := h.below ((Below.refl _ _).alloc (Nat.le_refl _) _)
theorem Bit.trim (h : Bit w A n c N) : Bit w A (bl N) c N := by
  obtain ⟨xs, h1, h2, h3, h4, h5⟩ := h
  have ht : trimL xs = digs 2 N := by rw [← h4]; exact (digs_of (by decide) h2).symm
  refine ⟨trimL xs, h1.trim, ?_, ?_, ?_, ?_⟩
  · rw [ht]
    exact digs_low (by decide) N
  · rw [ht]
    rfl
  · rw [val_trim (by decide) h2, h4]
  · have := trimL_len xs
    rw [ht] at this
    unfold bl
    omega
theorem Bit.list (h : Bit w A (bl N) c N) : Lim .u8 w.heap.size w A (digs 2 N) := by
  obtain ⟨xs, h1, h2, h3, h4, h5⟩ := h
  have ht : trimL xs = digs 2 N := by rw [← h4]; exact (digs_of (by decide) h2).symm
  have e : trimL xs = xs := by
    rw [trimL_take, ht]
    unfold bl at h3
    rw [← h3, List.take_length]
  rw [← ht, e]
  exact h1
theorem Bit.le (h : Bit w A n c N) : bl N ≤ n := by
  obtain ⟨xs, h1, h2, h3, h4, h5⟩ := h
  have ht : trimL xs = digs 2 N := by rw [← h4]; exact (digs_of (by decide) h2).symm
  have := trimL_len xs
  rw [ht, h3] at this
  exact this
theorem Bit.cap (h : Bit w A n c N) : n ≤ c := by
  obtain ⟨xs, h1, h2, h3, h4, h5⟩ := h
  exact h5
theorem Bit.none_ (w : World) : Bit w none 0 0 0 := ⟨[], Lim.empty none, Low.nil, rfl, rfl, Nat.le_refl 0⟩
end
theorem bl_zero : bl 0 = 0 := rfl
theorem bl_pos {N : Nat} (h : N ≠ 0) : 0 < bl N := by
  unfold bl
  rcases hd : digs 2 N with _ | ⟨x, l⟩
  · exact absurd ((digs_nil (by decide)).1 hd) h
  · simp
theorem bl_le (N k : Nat) : bl N ≤ k ↔ N < 2 ^ k := digs_len_le (by decide) N k
theorem bl_mono {m n : Nat} (h : m ≤ n) : bl m ≤ bl n := digs_len_mono (by decide) h
set_option maxHeartbeats 400000 in
theorem cut_at (A : Option Addr) (xs : List Nat) (n c : Nat) (B : Nat) (w : World) (hn : Hid (xs.length = n)) (hx : Lim .u8 B w A xs) (hc : n ≤ c) (hl : n ≤ 1000000) :
    Calls Tryd.prog 78 #[.slice A n c] w fun e w' => e = .returned (.slice A (trimL xs).length c) ∧ w = w' := by
  go_enter Tryd.func78, Tryd.ntmps78
  go_wp2
  go_loop [3] (fun l => ∃ k : Nat, k ≤ n ∧ l = .int .i64 k ∧ Hid (trimL (xs.take k) = trimL xs)) (fun l => (intOf l).toNat)
  case atStart => exact ⟨n, Nat.le_refl _, rfl, Lib.hid (by rw [List.take_of_length_le (by rw [hn.out]; exact Nat.le_refl _)])⟩
  case round =>
    obtain ⟨k, hk, rfl, HT⟩ := hrel
    by_cases h0 : k = 0
    · have hkz : (k : Int) ≤ 0 := by omega
      have e : Hid ((trimL xs).length = k) := Lib.hid (by rw [← HT.out, h0]; rfl)
      clear h0
      go_wp2
      go_ret
      rw [e.out]
      exact ⟨rfl, rfl⟩
    · have hp : k - 1 < xs.length := by rw [hn.out]; omega
      obtain ⟨ad, rfl, hb, hcell⟩ := hx.at (i := k - 1) hp
      have e : Hid (xs.take k = xs.take (k - 1) ++ [xs[k - 1]]) := Lib.hid (by rw [← take_snoc xs (k - 1) hp, show k - 1 + 1 = k by omega])
      by_cases hz : xs[k - 1] = 0
      · rw [hz] at hcell
        have HZ := Lib.hid hz
        clear hz
        go_wp2
        go_round
        case rel => exact ⟨k - 1, by omega, by go_num, Lib.hid (by rw [← HT.out, e.out, HZ.out, trimL_zero])⟩
        case measure => simp [intOf]; omega
      · have HL : Hid ((trimL xs).length = k) := Lib.hid (by
          rw [← HT.out, e.out, trimL_last hz, ← e.out, List.length_take, Nat.min_eq_left (by rw [hn.out]; exact hk)])
        obtain ⟨X, hX⟩ : ∃ X, X = xs[k - 1] := ⟨_, rfl⟩
        rw [← hX] at hcell hz
        clear hX
        go_wp2
        go_ret
        rw [HL.out]
        exact ⟨rfl, rfl⟩
theorem cut_bit (A : Option Addr) (n c N : Nat) (w : World) (h : Bit w A n c N) (hl : n ≤ 1000000) :
    Calls Tryd.prog 78 #[.slice A n c] w fun e w' => e = .returned (.slice A (bl N) c) ∧ w = w' := by
  obtain ⟨xs, h1, h2, h3, h4, h5⟩ := h
  have := cut_at A xs n c _ w (Lib.hid h3) h1 h5 hl
  have ht : trimL xs = digs 2 N := by rw [← h4]; exact (digs_of (by decide) h2).symm
  rw [ht] at this
  exact this
set_option maxHeartbeats 800000 in
theorem value_any (neg : Bool) (A : Option Addr) (n c N : Nat) (w : World) (h : Bit w A n c N) (hl : n ≤ 1000000) :
    Calls Tryd.prog 51 #[.bool neg, .slice A n c] w fun e w' => e = .returned (.agg #[.bool (signB neg N), .slice A (bl N) c]) ∧ Below w.heap.size w w' := by
  have hm := h.alloc (.cells #[.bool false, .slice none 0 0] 30)
  by_cases h0 : N = 0
  · subst h0
    have hd : (bl 0 : Int) ≤ 0 := by rw [bl_zero]; exact Int.le_refl 0
    have F := Lib.hid (signB_zero neg)
    cases neg
    all_goals
      go_enter Tryd.func51, Tryd.ntmps51
      go_wp2_with (go_at_call 78; refine (cut_bit A n c 0 _ hm hl).mono ?_; rintro e w' ⟨rfl, rfl⟩)
      exact bodyPost_ret (v := .agg #[.bool false, .slice A (bl 0) c]) (by simp [results, Tryd.results51, go_sem]; try rfl) rfl ⟨by rw [F.out], (Below.refl _ _).alloc (Nat.le_refl _) _⟩
  · have hp := bl_pos h0
    have F := Lib.hid (signB_pos neg h0)
    cases neg
    all_goals
      go_enter Tryd.func51, Tryd.ntmps51
      go_wp2_with (go_at_call 78; refine (cut_bit A n c N _ hm hl).mono ?_; rintro e w' ⟨rfl, rfl⟩)
      exact bodyPost_ret (v := .agg #[.bool _, .slice A (bl N) c]) (by simp [results, Tryd.results51, go_sem]; try rfl) rfl ⟨by rw [F.out], (Below.refl _ _).alloc (Nat.le_refl _) _⟩
end Go.Proofs.YtocoflojlliapaaDoor
