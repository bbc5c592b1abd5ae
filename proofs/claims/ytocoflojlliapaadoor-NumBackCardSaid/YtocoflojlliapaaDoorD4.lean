import Derived.Test.YtocoflojlliapaaDoorD3
import Derived.Test.YtocoflojlliapaaDoorC3
set_option linter.unusedVariables false
namespace Go.Proofs.YtocoflojlliapaaDoor
open Go.RowKit
theorem digs_last {b : Nat} (hb : 2 ≤ b) {N : Nat} {l : List Nat} {x : Nat} (h : digs b N = l ++ [x]) : x ≠ 0 := by
  rintro rfl
  have h1 := digs_trim hb N
  rw [h, trimL_zero] at h1
  have h2 := trimL_len l
  rw [h1] at h2
  simp at h2
  omega
theorem digs9_len (N n : Nat) (h : dl N ≤ n) : (digs 1000000000 N).length ≤ 2 * n := by
  refine (digs_len_le (by decide) N _).2 ?_
  have h1 := (dl_le N n).1 h
  have h2 : (4294967296 : Nat) ^ n ≤ (1000000000 ^ 2) ^ n := Nat.pow_le_pow_left (by decide) n
  rw [← Nat.pow_mul] at h2
  omega
/-- the text of a number -/
def textL (neg : Bool) (N : Nat) : List UInt8 := if N = 0 then [48] else (if neg then [45] else []) ++ Lib.decDigits N
theorem Bld.below {B b : Nat} {l : List UInt8} {w w' : World} (h : Bld B b l w) (hb : Below w.heap.size w w') : Bld B b l w' := by
  have hg : w.grownBy w' none := ⟨hb.os, hb.tape, hb.output, hb.size, fun k hk _ => hb.block k hk⟩
  rcases h with h | h
  · have hlt := h.lt
    obtain ⟨hB, v, hv, hown, hne⟩ := h
    exact .inl ⟨hB, v, (hb.block b hlt).trans hv, hown.kept hg (by
      cases hob : v.ownBlock
      · exact .inl rfl
      · exact .inr (by simp)), hne⟩
  · have hlt := h.lt
    obtain ⟨hB, v, hv, hown, hne⟩ := h
    exact .inr ⟨hB, v, (hb.block b hlt).trans hv, hown.kept hg (by
      cases hob : v.ownBlock
      · exact .inl rfl
      · exact .inr (by simp)), hne⟩
theorem Bld.lt {B b : Nat} {l : List UInt8} {w : World} (h : Bld B b l w) : b < w.heap.size := by
  rcases h with h | h <;> exact h.lt
theorem repeat_zero (c : Nat) : Lib.repeatL [48] c = List.replicate c 48 := by
  induction c with
  | zero => rfl
  | succ c ih => simp [Lib.repeatL, List.replicate_succ] at ih ⊢; exact ih
set_option maxHeartbeats 1600000 in
theorem text_zero (neg : Bool) (A : Option Addr) (n c : Nat) (w : World) (h : Mag w A n c 0) (hl : n ≤ 100) :
    Calls Tryd.prog 46 #[.agg #[.bool neg, .slice A n c]] w fun e w' => e = .returned (.string ⟨#[48]⟩) ∧ Below w.heap.size w w' := by
  have hd : dl 0 = 0 := dl_zero
  go_enter Tryd.func46, Tryd.ntmps46
  go_wp2_with (go_at_call 54; refine (trim_mag A n c 0 _ (h.alloc _) (by omega)).mono ?_; rintro e w' ⟨rfl, rfl⟩)
  refine wp_loop_rounds 1 ?_
  rw [rounds_succ]
  go_wp2
  go_ret
  exact ⟨rfl, (Below.refl _ _).alloc (Nat.le_refl _) _⟩
end Go.Proofs.YtocoflojlliapaaDoor
