/- For every type, every number of words and every more, WordHeaders returns true: Header answers the document's header, or ErrArg. No condition. -/
import Derived.Test.YtlpogdhdfopioaaRows
import Derived.Test.YtlpogdhdfopioaaD
import Derived.WalkKit
import Derived.ProofKit
import Derived.OpenShut
namespace Go.Proofs.Ytlpogdhdfopioaa.wordHeaders
open Go.ChangeShapes Go.WideShapes Go.ChangeAt Go.RowKit
set_option linter.unusedVariables false      -- a walk need not use every 'w<i>' (that an integer argument fits its kind)

theorem own : ownKnob Try.prog.godebug = none := by kernel_rfl

theorem below_then {w w1 w2 : World} (h : Below w.heap.size w w1) (k : Below w1.heap.size w1 w2) : Below w.heap.size w w2 := h.trans (k.mono h.size)
theorem walk_good (k n m : Int) (k0 : 1 ≤ k) (k1 : k ≤ 13) (n0 : 0 ≤ n) (n1 : n ≤ 62) (m0 : 0 ≤ m) (m1 : m < 281474976710656) (w : World) :
    Calls Try.prog 6 #[.int .i64 k, .int .i64 n, .int .u64 m] w fun e w' => e = .returned (.bool true) ∧ Below w.heap.size w w' := by
  go_enter Try.func6, Try.ntmps6
  go_wp2_with (first | (go_at_call 24; refine (header_yes k n m k0 k1 n0 n1 m0 m1 _).mono ?_; rintro e w1 ⟨rfl, rfl⟩) | (go_at_call 20; refine (word_head k n m (by omega) k1 n0 n1 m0 m1 _).mono ?_; rintro e w2 ⟨rfl, hb2⟩) | (go_at_call 17; refine (awake_any _).mono ?_; rintro e w3 ⟨rfl, hb3⟩))
  go_ret
  exact ⟨rfl, below_then hb2 hb3⟩
theorem head_out (k n m : Int) (lk : -9223372036854775808 ≤ k) (ln : -9223372036854775808 ≤ n) (h : k < 1 ∨ 13 < k ∨ n < 0 ∨ 62 < n ∨ 281474976710656 ≤ m) (hk : k ≤ 9223372036854775807) (hn : n ≤ 9223372036854775807) :
    headB (IntKind.u64.wrap k) (IntKind.u64.wrap n) m = false := by
  rw [IntKind.wrap_u64, IntKind.wrap_u64]
  unfold headB
  by_cases a : 1 ≤ k % 18446744073709551616
  · by_cases b : k % 18446744073709551616 ≤ 13
    · by_cases c : n % 18446744073709551616 ≤ 62
      · have : ¬ m < 281474976710656 := by omega
        simp [this]
      · simp [c]
    · simp [b]
  · simp [a]
theorem walk_bad (k n m : Int) (hk : headB (IntKind.u64.wrap k) (IntKind.u64.wrap n) m = false) (h : k < 1 ∨ 13 < k ∨ n < 0 ∨ 62 < n ∨ 281474976710656 ≤ m) (w : World) :
    Calls Try.prog 6 #[.int .i64 k, .int .i64 n, .int .u64 m] w fun e w' => e = .returned (.bool true) ∧ Below w.heap.size w w' := by
  have H := Lib.hid hk
  clear hk
  by_cases c1 : k < 1
  · clear h
    go_enter Try.func6, Try.ntmps6
    go_wp2_with (first | (go_at_call 24; refine (header_no k n m H.out _).mono ?_; rintro e w1 ⟨rfl, rfl⟩) | (go_at_call 17; refine (awake_any _).mono ?_; rintro e w3 ⟨rfl, hb3⟩))
    go_ret
    exact ⟨rfl, hb3⟩
  by_cases c2 : 13 < k
  · clear h
    go_enter Try.func6, Try.ntmps6
    go_wp2_with (first | (go_at_call 24; refine (header_no k n m H.out _).mono ?_; rintro e w1 ⟨rfl, rfl⟩) | (go_at_call 17; refine (awake_any _).mono ?_; rintro e w3 ⟨rfl, hb3⟩))
    go_ret
    exact ⟨rfl, hb3⟩
  by_cases c3 : n < 0
  · clear h
    go_enter Try.func6, Try.ntmps6
    go_wp2_with (first | (go_at_call 24; refine (header_no k n m H.out _).mono ?_; rintro e w1 ⟨rfl, rfl⟩) | (go_at_call 17; refine (awake_any _).mono ?_; rintro e w3 ⟨rfl, hb3⟩))
    go_ret
    exact ⟨rfl, hb3⟩
  by_cases c4 : 62 < n
  · clear h
    go_enter Try.func6, Try.ntmps6
    go_wp2_with (first | (go_at_call 24; refine (header_no k n m H.out _).mono ?_; rintro e w1 ⟨rfl, rfl⟩) | (go_at_call 17; refine (awake_any _).mono ?_; rintro e w3 ⟨rfl, hb3⟩))
    go_ret
    exact ⟨rfl, hb3⟩
  have c5 : 281474976710656 ≤ m := by omega
  clear h
  go_enter Try.func6, Try.ntmps6
  go_wp2_with (first | (go_at_call 24; refine (header_no k n m H.out _).mono ?_; rintro e w1 ⟨rfl, rfl⟩) | (go_at_call 17; refine (awake_any _).mono ?_; rintro e w3 ⟨rfl, hb3⟩))
  go_ret
  exact ⟨rfl, hb3⟩
theorem walk (a0 : Int) (a1 : Int) (a2 : Int) (w0 : (Lit.int .i64 a0).wf = true) (w1 : (Lit.int .i64 a1).wf = true) (w2 : (Lit.int .u64 a2).wf = true) (w : World) :
    Calls Try.prog 6 #[.int .i64 a0, .int .i64 a1, .int .u64 a2] w fun e w' => e = .returned (.bool true) ∧ Below w.heap.size w w' := by
  have b0 := bounds_i64 w0
  have b1 := bounds_i64 w1
  have b2 := bounds_u64 w2
  by_cases h : a0 < 1 ∨ 13 < a0 ∨ a1 < 0 ∨ 62 < a1 ∨ 281474976710656 ≤ a2
  · exact walk_bad a0 a1 a2 (head_out a0 a1 a2 b0.1 b1.1 h b0.2 b1.2) h w
  · exact walk_good a0 a1 a2 (by omega) (by omega) (by omega) (by omega) (by omega) (by omega) w

/-! The row's step. -/
set_option maxRecDepth 100000 in
theorem lifted (os : Os) (started : os.Started) (H : Type) (enc : TypeId × Value → H) :
    ReturnsInHanded {} Try.checked os 6 .any (Rows.wordHeadersSpec.pre6 enc Try.prog Try.f6 Rows.wordHeadersRow.domain false) (Rows.wordHeadersSpec.post enc Try.prog Try.f6 false true false false) := by
  refine returnsInHanded_of_change (C := Try.checked) own started (by kernel_rfl) Try.func6
    (ChangeSpec.witness6 (enc := enc) (C := Try.checked) false ⟨#[], #[.int .i64 0, .int .i64 0, .int .u64 0], []⟩ 8 (by kernel_rfl) (by kernel_rfl) (by kernel_rfl) (by kernel_rfl)) ?_
  intro W base args ds gs before hval0 hW hcnd _
  have hval : ∀ (j : Nat) t v, Try.f6.params[j]? = some t → args[j]? = some v → Value.okWide Try.prog W .any base t v := hval0
  have hW' := hW
  obtain ⟨p, q, hA0, hV, rfl, hfz, hnd⟩ := hW
  have hA : DataW.TrodAll enc Try.prog W 0 (fun _ => true) true Try.f6.params.toList args.toList ds p := hA0
  rw [Try.params6] at hA hval
  obtain ⟨v0, vs0, d0, ds0, p0, q0, hargs, rfl, rfl, h0, r0⟩ := trodAll_cons hA
  obtain ⟨v1, vs1, d1, ds1, p1, q1, rfl, rfl, rfl, h1, r1⟩ := trodAll_cons r0
  obtain ⟨v2, vs2, d2, ds2, p2, q2, rfl, rfl, rfl, h2, r2⟩ := trodAll_cons r1
  obtain ⟨rfl, rfl, rfl⟩ := trodAll_nil r2
  obtain rfl : args = #[v0, v1, v2] := by cases args; simp_all
  obtain ⟨rfl, rfl⟩ := trodVars_none hV
  obtain ⟨a0, rfl, rfl, rfl, w0⟩ := open_int Try.underlying3 (hval 0 3 v0 rfl rfl) h0
  obtain ⟨a1, rfl, rfl, rfl, w1⟩ := open_int Try.underlying3 (hval 1 3 v1 rfl rfl) h1
  obtain ⟨a2, rfl, rfl, rfl, w2⟩ := open_int Try.underlying22 (hval 2 22 v2 rfl rfl) h2
  clear hA0 hval0
  simp only [List.append_nil] at hW'
  refine (walk a0 a1 a2 w0 w1 w2 W).mono fun e W' ⟨he, hg⟩ => ?_
  subst he
  exact ⟨_, rfl, _, _, _, [], [], [], hW', (trodAll_cons_mk (shut_bool Try.underlying4 _) trodAll_mk0), (trodAll_cons_mk (shut_int Try.underlying3 w0) (trodAll_cons_mk (shut_int Try.underlying3 w1) (trodAll_cons_mk (shut_int Try.underlying22 w2) trodAll_mk0))), rfl, hg.frame _, fun h => by cases h⟩

theorem over : Rows.wordHeadersRow.holds Try.pinned (OpenSpec.ofChange Rows.wordHeadersSpec) :=
  OpenClaim.holds_of_wide 6 Try.f6 rfl rfl rfl rfl rfl rfl rfl ⟨rfl, rfl, rfl, rfl, rfl⟩ rfl rfl rfl rfl rfl (by kernel_rfl) Try.func6 (by kernel_rfl)
    (of_decide_eq_true (by kernel_rfl)) (by unfold Func.isWrapper; first | (rw [if_pos (by decide +kernel)]; kernel_rfl) | (rw [if_neg (by decide +kernel)]; exact ⟨rfl, rfl⟩))
    (fun os started H enc _ => lifted os started H enc)

theorem proved : Rows.WordHeadersSaid :=
  over
#print axioms proved
end Go.Proofs.Ytlpogdhdfopioaa.wordHeaders
