/- For every number of 64 bits and every rune, WordFixes returns true: Fix and Char answer the document's words, or ErrRange. No condition. -/
import Derived.Test.YtlpogdhdfopioaaRows
import Derived.Test.YtlpogdhdfopioaaD
import Derived.WalkKit
import Derived.ProofKit
import Derived.OpenShut
namespace Go.Proofs.Ytlpogdhdfopioaa.wordFixes
open Go.ChangeShapes Go.WideShapes Go.ChangeAt Go.RowKit
set_option linter.unusedVariables false      -- a walk need not use every 'w<i>' (that an integer argument fits its kind)

theorem own : ownKnob Try.prog.godebug = none := by kernel_rfl

theorem below_then {w w1 w2 : World} (h : Below w.heap.size w w1) (k : Below w1.heap.size w1 w2) : Below w.heap.size w w2 := h.trans (k.mono h.size)
theorem rune_char (c : Int) (lo : -2147483648 ≤ c) (hi : c ≤ 2147483647) (h : runeB c = false) : charB (c % 18446744073709551616) = false := by
  by_cases a : 0 ≤ c
  · have e : c % 18446744073709551616 = c := by omega
    rw [e]
    unfold runeB at h
    unfold charB
    by_cases b : c ≤ 1114111
    · by_cases d : c < 55296
      · simp [a, b, d] at h
      · by_cases f : 57343 < c
        · simp [a, b, f] at h
        · simp [d, f]
    · have d : ¬ c < 55296 := by omega
      simp [b, d]
  · have b : ¬ c % 18446744073709551616 < 55296 := by omega
    have d : ¬ c % 18446744073709551616 ≤ 1114111 := by omega
    unfold charB
    simp [b, d]
theorem rune_good (c : Int) (h : runeB c = true) : 0 ≤ c ∧ c ≤ 1114111 ∧ charB c = true := by
  unfold runeB at h
  simp only [Bool.and_eq_true, Bool.or_eq_true, decide_eq_true_eq] at h
  refine ⟨h.1.1, h.1.2, ?_⟩
  unfold charB
  rcases h.2 with a | a
  · simp [a]
  · simp [a, h.1.2]
theorem walk_yy (x c : Int) (x0 : -1152921504606846976 ≤ x) (x1 : x ≤ 1152921504606846975) (hr : runeB c = true) (c0 : 0 ≤ c) (c1 : c ≤ 1114111) (hc : charB c = true) (w : World) :
    Calls Try.prog 4 #[.int .i64 x, .int .i32 c] w fun e w' => e = .returned (.bool true) ∧ Below w.heap.size w w' := by
  go_enter Try.func4, Try.ntmps4
  go_wp2_with (first | (go_at_call 18; refine (fix_yes x x0 x1 _).mono ?_; rintro e w1 ⟨rfl, rfl⟩) | (go_at_call 19; refine (fixes_yes x x0 (by omega) _).mono ?_; rintro e w1 ⟨rfl, rfl⟩) | (go_at_call 20; (first | (with_reducible refine (word_fix x x0 x1 _).mono ?_) | (with_reducible refine (word_char c c0 c1 _).mono ?_)); rintro e w2 ⟨rfl, hb2⟩) | (go_at_call 21; refine (char_yes c c0 c1 hc _).mono ?_; rintro e w1 ⟨rfl, rfl⟩) | (go_at_call 22; refine (letter_any c _).mono ?_; rintro e w1 ⟨rfl, rfl⟩) | (go_at_call 17; refine (awake_any _).mono ?_; rintro e w3 ⟨rfl, hb3⟩))
  go_ret
  exact ⟨rfl, below_then (below_then (by assumption) (by assumption)) hb3⟩
theorem walk_yn (x c : Int) (x0 : -1152921504606846976 ≤ x) (x1 : x ≤ 1152921504606846975) (hr : runeB c = false) (hc : charB (c % 18446744073709551616) = false) (w : World) :
    Calls Try.prog 4 #[.int .i64 x, .int .i32 c] w fun e w' => e = .returned (.bool true) ∧ Below w.heap.size w w' := by
  go_enter Try.func4, Try.ntmps4
  go_wp2_with (first | (go_at_call 18; refine (fix_yes x x0 x1 _).mono ?_; rintro e w1 ⟨rfl, rfl⟩) | (go_at_call 19; refine (fixes_yes x x0 (by omega) _).mono ?_; rintro e w1 ⟨rfl, rfl⟩) | (go_at_call 20; refine (word_fix x x0 x1 _).mono ?_; rintro e w2 ⟨rfl, hb2⟩) | (go_at_call 21; refine (char_no c hc _).mono ?_; rintro e w1 ⟨rfl, rfl⟩) | (go_at_call 22; refine (letter_any c _).mono ?_; rintro e w1 ⟨rfl, rfl⟩) | (go_at_call 17; refine (awake_any _).mono ?_; rintro e w3 ⟨rfl, hb3⟩))
  go_ret
  exact ⟨rfl, below_then hb2 hb3⟩
theorem walk_ny (x c : Int) (hx : x < -1152921504606846976 ∨ 1152921504606846975 < x) (hr : runeB c = true) (c0 : 0 ≤ c) (c1 : c ≤ 1114111) (hc : charB c = true) (w : World) :
    Calls Try.prog 4 #[.int .i64 x, .int .i32 c] w fun e w' => e = .returned (.bool true) ∧ Below w.heap.size w w' := by
  have H := Lib.hid hx
  have H2 := Lib.hid (show x < -1152921504606846976 ∨ 1152921504606846976 ≤ x by omega)
  clear hx
  go_enter Try.func4, Try.ntmps4
  go_wp2_with (first | (go_at_call 18; refine (fix_no x H.out _).mono ?_; rintro e w1 ⟨rfl, rfl⟩) | (go_at_call 19; refine (fixes_no x H2.out _).mono ?_; rintro e w1 ⟨rfl, rfl⟩) | (go_at_call 20; refine (word_char c c0 c1 _).mono ?_; rintro e w2 ⟨rfl, hb2⟩) | (go_at_call 21; refine (char_yes c c0 c1 hc _).mono ?_; rintro e w1 ⟨rfl, rfl⟩) | (go_at_call 22; refine (letter_any c _).mono ?_; rintro e w1 ⟨rfl, rfl⟩) | (go_at_call 17; refine (awake_any _).mono ?_; rintro e w3 ⟨rfl, hb3⟩))
  go_ret
  exact ⟨rfl, below_then hb2 hb3⟩
theorem walk_nn (x c : Int) (hx : x < -1152921504606846976 ∨ 1152921504606846975 < x) (hr : runeB c = false) (hc : charB (c % 18446744073709551616) = false) (w : World) :
    Calls Try.prog 4 #[.int .i64 x, .int .i32 c] w fun e w' => e = .returned (.bool true) ∧ Below w.heap.size w w' := by
  have H := Lib.hid hx
  have H2 := Lib.hid (show x < -1152921504606846976 ∨ 1152921504606846976 ≤ x by omega)
  clear hx
  go_enter Try.func4, Try.ntmps4
  go_wp2_with (first | (go_at_call 18; refine (fix_no x H.out _).mono ?_; rintro e w1 ⟨rfl, rfl⟩) | (go_at_call 19; refine (fixes_no x H2.out _).mono ?_; rintro e w1 ⟨rfl, rfl⟩) | (go_at_call 21; refine (char_no c hc _).mono ?_; rintro e w1 ⟨rfl, rfl⟩) | (go_at_call 22; refine (letter_any c _).mono ?_; rintro e w1 ⟨rfl, rfl⟩) | (go_at_call 17; refine (awake_any _).mono ?_; rintro e w3 ⟨rfl, hb3⟩))
  go_ret
  exact ⟨rfl, hb3⟩
theorem walk (a0 : Int) (a1 : Int) (_w0 : (Lit.int .i64 a0).wf = true) (w1 : (Lit.int .i32 a1).wf = true) (w : World) :
    Calls Try.prog 4 #[.int .i64 a0, .int .i32 a1] w fun e w' => e = .returned (.bool true) ∧ Below w.heap.size w w' := by
  have b1 := bounds_i32 w1
  by_cases h : a0 < -1152921504606846976 ∨ 1152921504606846975 < a0
  · cases hr : runeB a1
    · exact walk_nn a0 a1 h hr (rune_char a1 b1.1 b1.2 hr) w
    · obtain ⟨c0, c1, hc⟩ := rune_good a1 hr
      exact walk_ny a0 a1 h hr c0 c1 hc w
  · cases hr : runeB a1
    · exact walk_yn a0 a1 (by omega) (by omega) hr (rune_char a1 b1.1 b1.2 hr) w
    · obtain ⟨c0, c1, hc⟩ := rune_good a1 hr
      exact walk_yy a0 a1 (by omega) (by omega) hr c0 c1 hc w

/-! The row's step. -/
set_option maxRecDepth 100000 in
theorem lifted (os : Os) (started : os.Started) (H : Type) (enc : TypeId × Value → H) :
    ReturnsInHanded {} Try.checked os 4 .any (Rows.wordFixesSpec.pre6 enc Try.prog Try.f4 Rows.wordFixesRow.domain false) (Rows.wordFixesSpec.post enc Try.prog Try.f4 false true false false) := by
  refine returnsInHanded_of_change (C := Try.checked) own started (by kernel_rfl) Try.func4
    (ChangeSpec.witness6 (enc := enc) (C := Try.checked) false ⟨#[], #[.int .i64 0, .int .i32 0], []⟩ 8 (by kernel_rfl) (by kernel_rfl) (by kernel_rfl) (by kernel_rfl)) ?_
  intro W base args ds gs before hval0 hW hcnd _
  have hval : ∀ (j : Nat) t v, Try.f4.params[j]? = some t → args[j]? = some v → Value.okWide Try.prog W .any base t v := hval0
  have hW' := hW
  obtain ⟨p, q, hA0, hV, rfl, hfz, hnd⟩ := hW
  have hA : DataW.TrodAll enc Try.prog W 0 (fun _ => true) true Try.f4.params.toList args.toList ds p := hA0
  rw [Try.params4] at hA hval
  obtain ⟨v0, vs0, d0, ds0, p0, q0, hargs, rfl, rfl, h0, r0⟩ := trodAll_cons hA
  obtain ⟨v1, vs1, d1, ds1, p1, q1, rfl, rfl, rfl, h1, r1⟩ := trodAll_cons r0
  obtain ⟨rfl, rfl, rfl⟩ := trodAll_nil r1
  obtain rfl : args = #[v0, v1] := by cases args; simp_all
  obtain ⟨rfl, rfl⟩ := trodVars_none hV
  obtain ⟨a0, rfl, rfl, rfl, w0⟩ := open_int Try.underlying2 (hval 0 2 v0 rfl rfl) h0
  obtain ⟨a1, rfl, rfl, rfl, w1⟩ := open_int Try.underlying21 (hval 1 21 v1 rfl rfl) h1
  clear hA0 hval0
  simp only [List.append_nil] at hW'
  refine (walk a0 a1 w0 w1 W).mono fun e W' ⟨he, hg⟩ => ?_
  subst he
  exact ⟨_, rfl, _, _, _, [], [], [], hW', (trodAll_cons_mk (shut_bool Try.underlying4 _) trodAll_mk0), (trodAll_cons_mk (shut_int Try.underlying2 w0) (trodAll_cons_mk (shut_int Try.underlying21 w1) trodAll_mk0)), rfl, hg.frame _, fun h => by cases h⟩

theorem over : Rows.wordFixesRow.holds Try.pinned (OpenSpec.ofChange Rows.wordFixesSpec) :=
  OpenClaim.holds_of_wide 4 Try.f4 rfl rfl rfl rfl rfl rfl rfl ⟨rfl, rfl, rfl, rfl, rfl⟩ rfl rfl rfl rfl rfl (by kernel_rfl) Try.func4 (by kernel_rfl)
    (of_decide_eq_true (by kernel_rfl)) (by unfold Func.isWrapper; first | (rw [if_pos (by decide +kernel)]; kernel_rfl) | (rw [if_neg (by decide +kernel)]; exact ⟨rfl, rfl⟩))
    (fun os started H enc _ => lifted os started H enc)

theorem proved : Rows.WordFixesSaid :=
  over
#print axioms proved
end Go.Proofs.Ytlpogdhdfopioaa.wordFixes
