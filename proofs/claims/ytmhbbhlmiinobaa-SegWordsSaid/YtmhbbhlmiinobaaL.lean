/- seg's calls on a nil memory, and on one that New did not make. -/
import Derived.Test.YtmhbbhlmiinobaaK
set_option linter.unusedVariables false
set_option linter.unusedSimpArgs false
namespace Go.Proofs.Ytmhbbhlmiinobaa
open Go Go.RowKit
set_option maxHeartbeats 800000
/-- Nobody's memory: nil, or all zero. -/
def Nob (w : World) (p : Option Addr) : Prop := p = none ∨ ∃ b, p = some ⟨b, 0, none⟩ ∧ b < w.heap.size ∧ w.cell? ⟨b, 0, none⟩ = some (.slice none 0 0) ∧ w.cell? ⟨b, 1, none⟩ = some (.slice none 0 0)
section
variable {w w' : World} {p : Option Addr}
theorem Nob.below (h : Nob w p) (hb : Below w.heap.size w w') : Nob w' p := by
  rcases h with h | ⟨b, e, hl, h0, h1⟩
  · exact Or.inl h
  · exact Or.inr ⟨b, e, Nat.lt_of_lt_of_le hl hb.size, (hb.cell (p := ⟨b, 0, none⟩) hl).trans h0, (hb.cell (p := ⟨b, 1, none⟩) hl).trans h1⟩
theorem nob_limit (h : Nob w p) : Calls Try.prog 23 #[.pointer p] w fun e w' => e = .returned (.int .i64 0) ∧ w = w' := by
  rcases h with rfl | ⟨b, rfl, hl, h0, h1⟩
  · exact limit_nil w
  · exact limit_any _ _ _ _ _ h0
theorem nob_free (h : Nob w p) : Calls Try.prog 22 #[.pointer p] w fun e w' => e = .returned (.int .i64 0) ∧ Below w.heap.size w w' := by
  rcases h with rfl | ⟨b, rfl, hl, h0, h1⟩
  · refine (free_nil w).mono ?_
    rintro e w' ⟨rfl, rfl⟩
    exact ⟨rfl, Below.refl _ _⟩
  · refine (free_any _ _ _ _ _ _ _ _ h0 h1 (by omega) (by omega)).mono ?_
    rintro e w' ⟨rfl, j, rfl⟩
    exact ⟨rfl, ⟨rfl, rfl, rfl, Nat.le_refl _, fun _ _ => rfl⟩⟩
theorem nob_find (h : Nob w p) (i : Int) : Calls Try.prog 31 #[.pointer p, .int .i64 i] w fun e w' => e = .returned (.pointer none) ∧ w = w' := by
  rcases h with rfl | ⟨b, rfl, hl, h0, h1⟩
  · exact find_nil i w
  · exact find_far _ _ _ _ _ _ h0 (by omega)
theorem nob_word (h : Nob w p) {i : Int} (hb : -9223372036854775808 ≤ i ∧ i ≤ 9223372036854775807) : Calls Try.prog 30 #[.pointer p, .int .i64 i] w fun e w' => e = .returned (.pointer none) ∧ w = w' := by
  rcases h with rfl | ⟨b, rfl, hl, h0, h1⟩
  · exact word_nil i w hb
  · by_cases hi : i < 0
    · exact word_neg _ _ _ hi
    · exact word_far _ _ _ _ _ _ h0 (by omega) hb.2
theorem nob_take (h : Nob w p) (g k : Int) : Calls Try.prog 13 #[.pointer p, .int .i64 g, .int .i64 k] w fun e w' => e = .returned (.tuple #[.int .i64 0, .int .i64 1]) ∧ w = w' := by
  have H := Lib.hid (nob_limit h)
  go_enter Try.func13, Try.ntmps13
  go_wp2_with (go_at_call 23; refine H.out.mono ?_; rintro e w' ⟨rfl, rfl⟩)
  go_ret2
  exact ⟨rfl, rfl⟩
theorem nob_bump (h : Nob w p) (i n : Int) : Calls Try.prog 17 #[.pointer p, .int .i64 i, .int .i64 n] w fun e w' => e = .returned (.tuple #[.int .i64 0, .int .i64 19]) ∧ w = w' := by
  have H := Lib.hid (nob_find h i)
  go_enter Try.func17, Try.ntmps17
  go_wp2_with (go_at_call 31; refine H.out.mono ?_; rintro e w' ⟨rfl, rfl⟩)
  go_ret2
  exact ⟨rfl, rfl⟩
theorem nob_read (h : Nob w p) {i : Int} (hb : -9223372036854775808 ≤ i ∧ i ≤ 9223372036854775807) : Calls Try.prog 18 #[.pointer p, .int .i64 i] w fun e w' => e = .returned (.tuple #[.int .u64 0, .int .i64 18]) ∧ w = w' := by
  have H := Lib.hid (nob_word h hb)
  go_enter Try.func18, Try.ntmps18
  go_wp2_with (go_at_call 30; refine H.out.mono ?_; rintro e w' ⟨rfl, rfl⟩)
  go_ret2
  exact ⟨rfl, rfl⟩
theorem nob_write (h : Nob w p) {i : Int} (hb : -9223372036854775808 ≤ i ∧ i ≤ 9223372036854775807) (x : Int) : Calls Try.prog 14 #[.pointer p, .int .i64 i, .int .u64 x] w fun e w' => e = .returned (.int .i64 18) ∧ w = w' := by
  have H := Lib.hid (nob_word h hb)
  go_enter Try.func14, Try.ntmps14
  go_wp2_with (go_at_call 30; refine H.out.mono ?_; rintro e w' ⟨rfl, rfl⟩)
  go_ret
  exact ⟨rfl, rfl⟩
theorem nob_mark (h : Nob w p) (i c x : Int) : Calls Try.prog 20 #[.pointer p, .int .i64 i, .int .i64 c, .int .i64 x] w fun e w' => e = .returned (.int .i64 19) ∧ w = w' := by
  have H := Lib.hid (nob_find h i)
  go_enter Try.func20, Try.ntmps20
  go_wp2_with (go_at_call 31; refine H.out.mono ?_; rintro e w' ⟨rfl, rfl⟩)
  go_ret
  exact ⟨rfl, rfl⟩
theorem nob_give (h : Nob w p) (i : Int) : Calls Try.prog 15 #[.pointer p, .int .i64 i] w fun e w' => e = .returned (.int .i64 19) ∧ Below w.heap.size w w' := by
  have H := Lib.hid (fun (V : World) (hb : Below w.heap.size w V) => nob_find (h.below hb) i)
  go_enter Try.func15, Try.ntmps15
  go_wp2_with (go_at_call 31; refine (H.out _ (by exact (Below.refl _ _).alloc (Nat.le_refl _) _)).mono ?_; rintro e w' ⟨rfl, rfl⟩)
  go_ret
  exact ⟨rfl, (Below.refl _ _).alloc (Nat.le_refl _) _⟩
theorem nob_seg (h : Nob w p) (i : Int) : Calls Try.prog 19 #[.pointer p, .int .i64 i] w fun e w' => e = .returned (.tuple #[.agg #[.int .i64 0, .int .i64 0, .int .i64 0, .int .i64 0, .int .i64 0, .int .i64 0, .int .i64 0], .bool false]) ∧ Below w.heap.size w w' := by
  have H := Lib.hid (fun (V : World) (hb : Below w.heap.size w V) => nob_find (h.below hb) i)
  go_enter Try.func19, Try.ntmps19
  go_wp2_with (go_at_call 31; refine (H.out _ (by exact (Below.refl _ _).alloc (Nat.le_refl _) _)).mono ?_; rintro e w' ⟨rfl, rfl⟩)
  exact bodyPost_ret (v := .tuple #[.agg #[.int .i64 0, .int .i64 0, .int .i64 0, .int .i64 0, .int .i64 0, .int .i64 0, .int .i64 0], .bool false]) (by simp [results, Try.results19, go_sem]) rfl ⟨rfl, ((Below.refl _ _).alloc (Nat.le_refl _) _)⟩
theorem nob_taken (h : Nob w p) : Calls Try.prog 21 #[.pointer p, .slice none 0 0] w fun e w' => e = .returned (.slice none 0 0) ∧ Below w.heap.size w w' := by
  rcases h with rfl | ⟨b, rfl, hl, h0, h1⟩
  · go_enter Try.func21, Try.ntmps21
    go_wp2
    go_ret
    exact ⟨rfl, Below.refl _ _⟩
  · have HA := Lib.hid (among_any [] none 0 w (Or.inl rfl) (by simp))
    go_enter Try.func21, Try.ntmps21
    go_wp2_with fail
    go_at_call 40
    refine HA.out.mono ?_
    rintro e W ⟨rfl, hA⟩
    have hb := Lib.hid hA.below
    have d1 : W.cell? ⟨b, 1, none⟩ = some (.slice none 0 0) := (hA.below.cell (p := ⟨b, 1, none⟩) hl).trans h1
    clear hA
    go_wp2_with fail
    refine wp_loop_rounds 1 ?_
    rw [rounds_succ]
    go_wp2_with fail
    go_ret
    exact ⟨rfl, hb.out⟩
theorem nob_copy : Calls Try.prog 12 #[.pointer none] w fun e w' => e = .returned (.pointer none) ∧ w = w' := by
  have H := Lib.hid (limit_nil w)
  go_enter Try.func12, Try.ntmps12
  go_wp2_with (go_at_call 23; refine H.out.mono ?_; rintro e w' ⟨rfl, rfl⟩)
  go_ret
  exact ⟨rfl, rfl⟩
end
end Go.Proofs.Ytmhbbhlmiinobaa
