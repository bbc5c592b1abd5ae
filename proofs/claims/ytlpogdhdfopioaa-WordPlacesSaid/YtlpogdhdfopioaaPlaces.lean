/- For every tag and every place, WordPlaces returns true: At answers the document's address, ErrArg or ErrAddr. No condition. -/
import Derived.Test.YtlpogdhdfopioaaRows
import Derived.Test.YtlpogdhdfopioaaD
import Derived.WalkKit
import Derived.ProofKit
import Derived.OpenShut
namespace Go.Proofs.Ytlpogdhdfopioaa.wordPlaces
open Go.ChangeShapes Go.WideShapes Go.ChangeAt Go.RowKit
set_option linter.unusedVariables false      -- a walk need not use every 'w<i>' (that an integer argument fits its kind)

theorem own : ownKnob Try.prog.godebug = none := by kernel_rfl

theorem below_then {w w1 w2 : World} (h : Below w.heap.size w w1) (k : Below w1.heap.size w1 w2) : Below w.heap.size w w2 := h.trans (k.mono h.size)
theorem walk_good (t a : Int) (ht : t = 1 ∨ t = 2 ∨ t = 3 ∨ t = 6) (h0 : 0 ≤ a) (h1 : a < 65536) (w : World) :
    Calls Try.prog 5 #[.int .i64 t, .int .i64 a] w fun e w' => e = .returned (.bool true) ∧ Below w.heap.size w w' := by
  rcases ht with rfl | rfl | rfl | rfl
  all_goals
    go_enter Try.func5, Try.ntmps5
    go_wp2_with (first | (go_at_call 23; refine (at_yes _ a (by decide) h0 h1 _).mono ?_; rintro e w1 ⟨rfl, hb1⟩) | (go_at_call 20; refine (word_addr _ a (by decide) (by decide) h0 h1 _).mono ?_; rintro e w2 ⟨rfl, hb2⟩) | (go_at_call 17; refine (awake_any _).mono ?_; rintro e w3 ⟨rfl, hb3⟩))
    go_ret
    exact ⟨rfl, below_then (below_then hb1 hb2) hb3⟩
theorem walk_place (t a : Int) (ht : t = 1 ∨ t = 2 ∨ t = 3 ∨ t = 6) (h : a < 0 ∨ 65536 ≤ a) (w : World) :
    Calls Try.prog 5 #[.int .i64 t, .int .i64 a] w fun e w' => e = .returned (.bool true) ∧ Below w.heap.size w w' := by
  have H := Lib.hid h
  by_cases ha : a < 0
  · clear h
    rcases ht with rfl | rfl | rfl | rfl
    all_goals
      go_enter Try.func5, Try.ntmps5
      go_wp2_with (first | (go_at_call 23; refine (at_addr _ a (by decide) H.out _).mono ?_; rintro e w1 ⟨rfl, hb1⟩) | (go_at_call 17; refine (awake_any _).mono ?_; rintro e w3 ⟨rfl, hb3⟩))
      go_ret
      exact ⟨rfl, below_then hb1 hb3⟩
  · have hb : 65536 ≤ a := by omega
    clear h
    rcases ht with rfl | rfl | rfl | rfl
    all_goals
      go_enter Try.func5, Try.ntmps5
      go_wp2_with (first | (go_at_call 23; refine (at_addr _ a (by decide) H.out _).mono ?_; rintro e w1 ⟨rfl, hb1⟩) | (go_at_call 17; refine (awake_any _).mono ?_; rintro e w3 ⟨rfl, hb3⟩))
      go_ret
      exact ⟨rfl, below_then hb1 hb3⟩
theorem walk_tag (t a : Int) (lo : -9223372036854775808 ≤ t) (hi : t ≤ 9223372036854775807) (ht : ¬(t = 1 ∨ t = 2 ∨ t = 3 ∨ t = 6)) (w : World) :
    Calls Try.prog 5 #[.int .i64 t, .int .i64 a] w fun e w' => e = .returned (.bool true) ∧ Below w.heap.size w w' := by
  have H := Lib.hid ht
  have e1 : (t != 1) = true := by rw [bne_iff_ne]; omega
  have e2 : (t != 2) = true := by rw [bne_iff_ne]; omega
  have e3 : (t != 3) = true := by rw [bne_iff_ne]; omega
  have e6 : (t != 6) = true := by rw [bne_iff_ne]; omega
  clear ht
  go_enter Try.func5, Try.ntmps5
  go_wp2_with (first | (go_at_call 23; refine (at_tag t a lo hi H.out _).mono ?_; rintro e w1 ⟨rfl, hb1⟩) | (go_at_call 17; refine (awake_any _).mono ?_; rintro e w3 ⟨rfl, hb3⟩))
  go_ret
  exact ⟨rfl, below_then hb1 hb3⟩
theorem walk (a0 : Int) (a1 : Int) (w0 : (Lit.int .i64 a0).wf = true) (_w1 : (Lit.int .i64 a1).wf = true) (w : World) :
    Calls Try.prog 5 #[.int .i64 a0, .int .i64 a1] w fun e w' => e = .returned (.bool true) ∧ Below w.heap.size w w' := by
  have b0 := bounds_i64 w0
  by_cases ht : a0 = 1 ∨ a0 = 2 ∨ a0 = 3 ∨ a0 = 6
  · by_cases h : 0 ≤ a1 ∧ a1 < 65536
    · exact walk_good a0 a1 ht h.1 h.2 w
    · exact walk_place a0 a1 ht (by omega) w
  · exact walk_tag a0 a1 (by omega) (by omega) ht w

/-! The row's step. -/
set_option maxRecDepth 100000 in
theorem lifted (os : Os) (started : os.Started) (H : Type) (enc : TypeId × Value → H) :
    ReturnsInHanded {} Try.checked os 5 .any (Rows.wordPlacesSpec.pre6 enc Try.prog Try.f5 Rows.wordPlacesRow.domain false) (Rows.wordPlacesSpec.post enc Try.prog Try.f5 false true false false) := by
  refine returnsInHanded_of_change (C := Try.checked) own started (by kernel_rfl) Try.func5
    (ChangeSpec.witness6 (enc := enc) (C := Try.checked) false ⟨#[], #[.int .i64 0, .int .i64 0], []⟩ 8 (by kernel_rfl) (by kernel_rfl) (by kernel_rfl) (by kernel_rfl)) ?_
  intro W base args ds gs before hval0 hW hcnd _
  have hval : ∀ (j : Nat) t v, Try.f5.params[j]? = some t → args[j]? = some v → Value.okWide Try.prog W .any base t v := hval0
  have hW' := hW
  obtain ⟨p, q, hA0, hV, rfl, hfz, hnd⟩ := hW
  have hA : DataW.TrodAll enc Try.prog W 0 (fun _ => true) true Try.f5.params.toList args.toList ds p := hA0
  rw [Try.params5] at hA hval
  obtain ⟨v0, vs0, d0, ds0, p0, q0, hargs, rfl, rfl, h0, r0⟩ := trodAll_cons hA
  obtain ⟨v1, vs1, d1, ds1, p1, q1, rfl, rfl, rfl, h1, r1⟩ := trodAll_cons r0
  obtain ⟨rfl, rfl, rfl⟩ := trodAll_nil r1
  obtain rfl : args = #[v0, v1] := by cases args; simp_all
  obtain ⟨rfl, rfl⟩ := trodVars_none hV
  obtain ⟨a0, rfl, rfl, rfl, w0⟩ := open_int Try.underlying3 (hval 0 3 v0 rfl rfl) h0
  obtain ⟨a1, rfl, rfl, rfl, w1⟩ := open_int Try.underlying3 (hval 1 3 v1 rfl rfl) h1
  clear hA0 hval0
  simp only [List.append_nil] at hW'
  refine (walk a0 a1 w0 w1 W).mono fun e W' ⟨he, hg⟩ => ?_
  subst he
  exact ⟨_, rfl, _, _, _, [], [], [], hW', (trodAll_cons_mk (shut_bool Try.underlying4 _) trodAll_mk0), (trodAll_cons_mk (shut_int Try.underlying3 w0) (trodAll_cons_mk (shut_int Try.underlying3 w1) trodAll_mk0)), rfl, hg.frame _, fun h => by cases h⟩

theorem over : Rows.wordPlacesRow.holds Try.pinned (OpenSpec.ofChange Rows.wordPlacesSpec) :=
  OpenClaim.holds_of_wide 5 Try.f5 rfl rfl rfl rfl rfl rfl rfl ⟨rfl, rfl, rfl, rfl, rfl⟩ rfl rfl rfl rfl rfl (by kernel_rfl) Try.func5 (by kernel_rfl)
    (of_decide_eq_true (by kernel_rfl)) (by unfold Func.isWrapper; first | (rw [if_pos (by decide +kernel)]; kernel_rfl) | (rw [if_neg (by decide +kernel)]; exact ⟨rfl, rfl⟩))
    (fun os started H enc _ => lifted os started H enc)

theorem proved : Rows.WordPlacesSaid :=
  over
#print axioms proved
end Go.Proofs.Ytlpogdhdfopioaa.wordPlaces
