/- For every word, WordBack returns true: a word that may be is just one of a fixnum, a character, an address, a header or a constant, and is made anew of what is told of it. No condition. -/
import Derived.Test.YtlpogdhdfopioaaRows
import Derived.Test.YtlpogdhdfopioaaE
import Derived.WalkKit
import Derived.ProofKit
import Derived.OpenShut
namespace Go.Proofs.Ytlpogdhdfopioaa.wordBack
open Go.ChangeShapes Go.WideShapes Go.ChangeAt Go.RowKit
set_option linter.unusedVariables false      -- a walk need not use every 'w<i>' (that an integer argument fits its kind)

theorem own : ownKnob Try.prog.godebug = none := by kernel_rfl

theorem seven (x : Int) (h : ¬(x = 4 ∨ x = 12 ∨ x = 20 ∨ x = 28 ∨ x = 36 ∨ x = 44 ∨ x = 52)) : (x == 4) = false ∧ (x == 12) = false ∧ (x == 20) = false ∧ (x == 28) = false ∧ (x == 36) = false ∧ (x == 44) = false ∧ (x == 52) = false := by
  simp only [beq_eq_false_iff_ne]; omega
set_option maxHeartbeats 800000 in
theorem walk_fix (x : Int) (h0 : 0 ≤ x) (h1 : x < 18446744073709551616) (hk : whatN x = 1) (h8 : x % 8 = 0) (w : World) :
    Calls Try.prog 7 #[.int .u64 x] w fun e w' => e = .returned (.bool true) ∧ Below w.heap.size w w' := by
  have n3 : (whatN x != 3) = true := by rw [hk]; decide
  have n4 : (whatN x != 4) = true := by rw [hk]; decide
  have n5 : (whatN x != 5) = true := by rw [hk]; decide
  have n0 : (whatN x != 0) = true := by rw [hk]; decide
  have K := Lib.hid hk
  clear hk
  obtain ⟨s1, s2, s3, s4, s5, s6, s7⟩ := seven x (by omega)
  obtain ⟨f0, f1, F⟩ := fix_back _ h0 h1 h8
  have F := Lib.hid F
  have H8 := Lib.hid h8
  clear h8
  go_enter Try.func7, Try.ntmps7
  go_wp2_with (first | (go_at_call 10; refine (int_yes _ h0 h1 K.out _).mono ?_; rintro e w10 ⟨rfl, hb10⟩) | (go_at_call 11; refine (rune_no _ h0 h1 n3 _).mono ?_; rintro e w11 ⟨rfl, hb11⟩) | (go_at_call 12; refine (addr_no _ h0 h1 n4 _).mono ?_; rintro e w12 ⟨rfl, hb12⟩) | (go_at_call 13; refine (head_no _ h0 h1 n5 _).mono ?_; rintro e w13 ⟨rfl, hb13⟩))
  refine wp_loop_rounds 6 ?_
  repeat any_goals (rw [rounds_succ]; go_wp2_with (first | (go_at_call 14; refine (may_any _ h0 h1 _ n0 _).mono ?_; rintro e w14 ⟨rfl, hb14⟩) | (go_at_call 18; refine (fix_to (fixV x) x f0 f1 F.out _).mono ?_; rintro e w18 ⟨rfl, rfl⟩) | (go_at_call 17; refine (awake_any _).mono ?_; rintro e w17 ⟨rfl, hb17⟩)))
  go_ret
  exact ⟨rfl, below_then (below_then (below_then (below_then (below_then (below_then hb10 hb11) hb12) hb13) (Below.alloc (Below.refl _ _) (Nat.le_refl _) _)) hb14) hb17⟩
set_option maxHeartbeats 800000 in
theorem walk_char (x : Int) (h0 : 0 ≤ x) (h1 : x < 18446744073709551616) (hk : whatN x = 3) (h8 : x % 8 = 4) (lo : x / 8 % 32 = 7) (hc : charB (x / 8 / 32) = true) (hm : x / 8 / 32 ≤ 1114111) (w : World) :
    Calls Try.prog 7 #[.int .u64 x] w fun e w' => e = .returned (.bool true) ∧ Below w.heap.size w w' := by
  have n1 : (whatN x != 1) = true := by rw [hk]; decide
  have n4 : (whatN x != 4) = true := by rw [hk]; decide
  have n5 : (whatN x != 5) = true := by rw [hk]; decide
  have n0 : (whatN x != 0) = true := by rw [hk]; decide
  have K := Lib.hid hk
  clear hk
  have s8 : ¬(x = 4 ∨ x = 12 ∨ x = 20 ∨ x = 28 ∨ x = 36 ∨ x = 44 ∨ x = 52) := by omega
  obtain ⟨s1, s2, s3, s4, s5, s6, s7⟩ := seven x s8
  clear s8
  have F := Lib.hid (show x / 8 / 32 * 256 + 60 = x by omega)
  have C := Lib.hid hc
  clear h8 lo hc
  go_enter Try.func7, Try.ntmps7
  go_wp2_with (first | (go_at_call 10; refine (int_no _ h0 h1 n1 _).mono ?_; rintro e w10 ⟨rfl, hb10⟩) | (go_at_call 11; refine (rune_yes _ h0 h1 K.out hm _).mono ?_; rintro e w11 ⟨rfl, hb11⟩) | (go_at_call 12; refine (addr_no _ h0 h1 n4 _).mono ?_; rintro e w12 ⟨rfl, hb12⟩) | (go_at_call 13; refine (head_no _ h0 h1 n5 _).mono ?_; rintro e w13 ⟨rfl, hb13⟩))
  refine wp_loop_rounds 6 ?_
  repeat any_goals (rw [rounds_succ]; go_wp2_with (first | (go_at_call 14; refine (may_any _ h0 h1 _ n0 _).mono ?_; rintro e w14 ⟨rfl, hb14⟩) | (go_at_call 21; refine (char_to (x / 8 / 32) x (by omega) hm C.out F.out _).mono ?_; rintro e w18 ⟨rfl, rfl⟩) | (go_at_call 17; refine (awake_any _).mono ?_; rintro e w17 ⟨rfl, hb17⟩)))
  go_ret
  exact ⟨rfl, below_then (below_then (below_then (below_then (below_then (below_then hb10 hb11) hb12) hb13) (Below.alloc (Below.refl _ _) (Nat.le_refl _) _)) hb14) hb17⟩
set_option maxHeartbeats 800000 in
theorem walk_addr (x : Int) (h0 : 0 ≤ x) (h1 : x < 18446744073709551616) (hk : whatN x = 4) (h8 : x % 8 = 1 ∨ x % 8 = 2 ∨ x % 8 = 3 ∨ x % 8 = 6) (hm : x / 8 < 65536) (w : World) :
    Calls Try.prog 7 #[.int .u64 x] w fun e w' => e = .returned (.bool true) ∧ Below w.heap.size w w' := by
  have n1 : (whatN x != 1) = true := by rw [hk]; decide
  have n3 : (whatN x != 3) = true := by rw [hk]; decide
  have n5 : (whatN x != 5) = true := by rw [hk]; decide
  have n0 : (whatN x != 0) = true := by rw [hk]; decide
  have K := Lib.hid hk
  clear hk
  obtain ⟨s1, s2, s3, s4, s5, s6, s7⟩ := seven x (by omega)
  have H8 := Lib.hid h8
  have F := Lib.hid (show x / 8 * 8 + x % 8 = x by omega)
  clear h8
  go_enter Try.func7, Try.ntmps7
  go_wp2_with (first | (go_at_call 10; refine (int_no _ h0 h1 n1 _).mono ?_; rintro e w10 ⟨rfl, hb10⟩) | (go_at_call 11; refine (rune_no _ h0 h1 n3 _).mono ?_; rintro e w11 ⟨rfl, hb11⟩) | (go_at_call 12; refine (addr_yes _ h0 h1 K.out hm _).mono ?_; rintro e w12 ⟨rfl, hb12⟩) | (go_at_call 13; refine (head_no _ h0 h1 n5 _).mono ?_; rintro e w13 ⟨rfl, hb13⟩))
  refine wp_loop_rounds 6 ?_
  repeat any_goals (rw [rounds_succ]; go_wp2_with (first | (go_at_call 14; refine (may_any _ h0 h1 _ n0 _).mono ?_; rintro e w14 ⟨rfl, hb14⟩) | (go_at_call 15; refine (tag_any _ h0 h1 _).mono ?_; rintro e w15 ⟨rfl, rfl⟩) | (go_at_call 23; refine (at_to (x % 8) (x / 8) x H8.out (by omega) hm F.out _).mono ?_; rintro e w18 ⟨rfl, hb18⟩) | (go_at_call 17; refine (awake_any _).mono ?_; rintro e w17 ⟨rfl, hb17⟩)))
  go_ret
  exact ⟨rfl, below_then (below_then (below_then (below_then (below_then (below_then (below_then hb10 hb11) hb12) hb13) (Below.alloc (Below.refl _ _) (Nat.le_refl _) _)) hb14) hb18) hb17⟩
set_option maxHeartbeats 800000 in
theorem walk_head (x : Int) (h0 : 0 ≤ x) (h1 : x < 18446744073709551616) (hk : whatN x = 5) (h8 : x % 8 = 5) (k0 : 1 ≤ x / 8 % 32) (k1 : x / 8 % 32 ≤ 13) (n1' : x / 8 / 32 % 256 ≤ 62) (w : World) :
    Calls Try.prog 7 #[.int .u64 x] w fun e w' => e = .returned (.bool true) ∧ Below w.heap.size w w' := by
  have n1 : (whatN x != 1) = true := by rw [hk]; decide
  have n3 : (whatN x != 3) = true := by rw [hk]; decide
  have n4 : (whatN x != 4) = true := by rw [hk]; decide
  have n0 : (whatN x != 0) = true := by rw [hk]; decide
  have K := Lib.hid hk
  clear hk
  obtain ⟨s1, s2, s3, s4, s5, s6, s7⟩ := seven x (by omega)
  have F := Lib.hid (show x / 8 / 32 / 256 * 65536 + x / 8 / 32 % 256 * 256 + x / 8 % 32 * 8 + 5 = x by omega)
  clear h8
  go_enter Try.func7, Try.ntmps7
  go_wp2_with (first | (go_at_call 10; refine (int_no _ h0 h1 n1 _).mono ?_; rintro e w10 ⟨rfl, hb10⟩) | (go_at_call 11; refine (rune_no _ h0 h1 n3 _).mono ?_; rintro e w11 ⟨rfl, hb11⟩) | (go_at_call 12; refine (addr_no _ h0 h1 n4 _).mono ?_; rintro e w12 ⟨rfl, hb12⟩) | (go_at_call 13; refine (head_yes _ h0 h1 K.out _).mono ?_; rintro e w13 ⟨rfl, hb13⟩))
  refine wp_loop_rounds 6 ?_
  repeat any_goals (rw [rounds_succ]; go_wp2_with (first | (go_at_call 14; refine (may_any _ h0 h1 _ n0 _).mono ?_; rintro e w14 ⟨rfl, hb14⟩) | (go_at_call 24; refine (header_to (x / 8 % 32) (x / 8 / 32 % 256) (x / 8 / 32 / 256) x k0 k1 (by omega) n1' (by omega) (by omega) F.out _).mono ?_; rintro e w18 ⟨rfl, rfl⟩) | (go_at_call 17; refine (awake_any _).mono ?_; rintro e w17 ⟨rfl, hb17⟩)))
  go_ret
  exact ⟨rfl, below_then (below_then (below_then (below_then (below_then (below_then hb10 hb11) hb12) hb13) (Below.alloc (Below.refl _ _) (Nat.le_refl _) _)) hb14) hb17⟩
set_option maxHeartbeats 800000 in
theorem walk_none (x : Int) (h0 : 0 ≤ x) (h1 : x < 18446744073709551616) (hk : whatN x = 0) (h8 : ¬(x = 4 ∨ x = 12 ∨ x = 20 ∨ x = 28 ∨ x = 36 ∨ x = 44 ∨ x = 52)) (w : World) :
    Calls Try.prog 7 #[.int .u64 x] w fun e w' => e = .returned (.bool true) ∧ Below w.heap.size w w' := by
  have n1 : (whatN x != 1) = true := by rw [hk]; decide
  have n3 : (whatN x != 3) = true := by rw [hk]; decide
  have n4 : (whatN x != 4) = true := by rw [hk]; decide
  have n5 : (whatN x != 5) = true := by rw [hk]; decide
  have n0 : (whatN x != 0) = false := by rw [hk]; decide
  have K := Lib.hid hk
  clear hk
  obtain ⟨s1, s2, s3, s4, s5, s6, s7⟩ := seven x (by omega)
  clear h8
  go_enter Try.func7, Try.ntmps7
  go_wp2_with (first | (go_at_call 10; refine (int_no _ h0 h1 n1 _).mono ?_; rintro e w10 ⟨rfl, hb10⟩) | (go_at_call 11; refine (rune_no _ h0 h1 n3 _).mono ?_; rintro e w11 ⟨rfl, hb11⟩) | (go_at_call 12; refine (addr_no _ h0 h1 n4 _).mono ?_; rintro e w12 ⟨rfl, hb12⟩) | (go_at_call 13; refine (head_no _ h0 h1 n5 _).mono ?_; rintro e w13 ⟨rfl, hb13⟩))
  refine wp_loop_rounds 6 ?_
  repeat any_goals (rw [rounds_succ]; go_wp2_with (first | (go_at_call 14; refine (may_any _ h0 h1 _ n0 _).mono ?_; rintro e w14 ⟨rfl, hb14⟩) | (go_at_call 17; refine (awake_any _).mono ?_; rintro e w17 ⟨rfl, hb17⟩)))
  go_ret
  exact ⟨rfl, below_then (below_then (below_then (below_then (below_then (below_then hb10 hb11) hb12) hb13) (Below.alloc (Below.refl _ _) (Nat.le_refl _) _)) hb14) hb17⟩
set_option maxHeartbeats 4000000 in
theorem walk_const (x : Int) (h0 : 0 ≤ x) (h1 : x < 18446744073709551616) (hk : whatN x = 2) (hx : x = 4 ∨ x = 12 ∨ x = 20 ∨ x = 28 ∨ x = 36 ∨ x = 44 ∨ x = 52) (w : World) :
    Calls Try.prog 7 #[.int .u64 x] w fun e w' => e = .returned (.bool true) ∧ Below w.heap.size w w' := by
  have n1 : (whatN x != 1) = true := by rw [hk]; decide
  have n3 : (whatN x != 3) = true := by rw [hk]; decide
  have n4 : (whatN x != 4) = true := by rw [hk]; decide
  have n5 : (whatN x != 5) = true := by rw [hk]; decide
  have n0 : (whatN x != 0) = true := by rw [hk]; decide
  have K := Lib.hid hk
  clear hk
  rcases hx with rfl | rfl | rfl | rfl | rfl | rfl | rfl
  all_goals
    go_enter Try.func7, Try.ntmps7
    go_wp2_with (first | (go_at_call 10; refine (int_no _ h0 h1 n1 _).mono ?_; rintro e w10 ⟨rfl, hb10⟩) | (go_at_call 11; refine (rune_no _ h0 h1 n3 _).mono ?_; rintro e w11 ⟨rfl, hb11⟩) | (go_at_call 12; refine (addr_no _ h0 h1 n4 _).mono ?_; rintro e w12 ⟨rfl, hb12⟩) | (go_at_call 13; refine (head_no _ h0 h1 n5 _).mono ?_; rintro e w13 ⟨rfl, hb13⟩))
    refine wp_loop_rounds 6 ?_
    repeat any_goals (rw [rounds_succ]; go_wp2_with (first | (go_at_call 14; refine (may_any _ h0 h1 _ n0 _).mono ?_; rintro e w14 ⟨rfl, hb14⟩) | (go_at_call 17; refine (awake_any _).mono ?_; rintro e w17 ⟨rfl, hb17⟩)))
    go_ret
    exact ⟨rfl, below_then (below_then (below_then (below_then (below_then (below_then hb10 hb11) hb12) hb13) (Below.alloc (Below.refl _ _) (Nat.le_refl _) _)) hb14) hb17⟩
theorem walk (a0 : Int) (w0 : (Lit.int .u64 a0).wf = true) (w : World) :
    Calls Try.prog 7 #[.int .u64 a0] w fun e w' => e = .returned (.bool true) ∧ Below w.heap.size w w' := by
  have b0 := bounds_u64 w0
  have h1 : a0 < 18446744073709551616 := by omega
  cases kind_of a0 b0.1 h1 with
  | fix h h8 => exact walk_fix a0 b0.1 h1 h h8 w
  | const h => exact walk_const a0 b0.1 h1 (by rcases h with rfl | rfl | rfl | rfl | rfl | rfl | rfl <;> decide) h w
  | char h h8 lo hc hm => exact walk_char a0 b0.1 h1 h h8 lo hc hm w
  | addr h h8 hl => exact walk_addr a0 b0.1 h1 h h8 hl w
  | head h h8 k0 k1 n1 => exact walk_head a0 b0.1 h1 h h8 k0 k1 n1 w
  | none h => exact walk_none a0 b0.1 h1 h (fun hx => by rcases hx with rfl | rfl | rfl | rfl | rfl | rfl | rfl <;> exact absurd h (by decide)) w

/-! The row's step. -/
set_option maxRecDepth 100000 in
theorem lifted (os : Os) (started : os.Started) (H : Type) (enc : TypeId × Value → H) :
    ReturnsInHanded {} Try.checked os 7 .any (Rows.wordBackSpec.pre6 enc Try.prog Try.f7 Rows.wordBackRow.domain false) (Rows.wordBackSpec.post enc Try.prog Try.f7 false true false false) := by
  refine returnsInHanded_of_change (C := Try.checked) own started (by kernel_rfl) Try.func7
    (ChangeSpec.witness6 (enc := enc) (C := Try.checked) false ⟨#[], #[.int .u64 0], []⟩ 8 (by kernel_rfl) (by kernel_rfl) (by kernel_rfl) (by kernel_rfl)) ?_
  intro W base args ds gs before hval0 hW hcnd _
  have hval : ∀ (j : Nat) t v, Try.f7.params[j]? = some t → args[j]? = some v → Value.okWide Try.prog W .any base t v := hval0
  have hW' := hW
  obtain ⟨p, q, hA0, hV, rfl, hfz, hnd⟩ := hW
  have hA : DataW.TrodAll enc Try.prog W 0 (fun _ => true) true Try.f7.params.toList args.toList ds p := hA0
  rw [Try.params7] at hA hval
  obtain ⟨v0, vs0, d0, ds0, p0, q0, hargs, rfl, rfl, h0, r0⟩ := trodAll_cons hA
  obtain ⟨rfl, rfl, rfl⟩ := trodAll_nil r0
  obtain rfl : args = #[v0] := by cases args; simp_all
  obtain ⟨rfl, rfl⟩ := trodVars_none hV
  obtain ⟨a0, rfl, rfl, rfl, w0⟩ := open_int Try.underlying23 (hval 0 23 v0 rfl rfl) h0
  clear hA0 hval0
  simp only [List.append_nil] at hW'
  refine (walk a0 w0 W).mono fun e W' ⟨he, hg⟩ => ?_
  subst he
  exact ⟨_, rfl, _, _, _, [], [], [], hW', (trodAll_cons_mk (shut_bool Try.underlying4 _) trodAll_mk0), (trodAll_cons_mk (shut_int Try.underlying23 w0) trodAll_mk0), rfl, hg.frame _, fun h => by cases h⟩

theorem over : Rows.wordBackRow.holds Try.pinned (OpenSpec.ofChange Rows.wordBackSpec) :=
  OpenClaim.holds_of_wide 7 Try.f7 rfl rfl rfl rfl rfl rfl rfl ⟨rfl, rfl, rfl, rfl, rfl⟩ rfl rfl rfl rfl rfl (by kernel_rfl) Try.func7 (by kernel_rfl)
    (of_decide_eq_true (by kernel_rfl)) (by unfold Func.isWrapper; first | (rw [if_pos (by decide +kernel)]; kernel_rfl) | (rw [if_neg (by decide +kernel)]; exact ⟨rfl, rfl⟩))
    (fun os started H enc _ => lifted os started H enc)

theorem proved : Rows.WordBackSaid :=
  over
#print axioms proved
end Go.Proofs.Ytlpogdhdfopioaa.wordBack
