/- For every word, WordTells returns true: May, Tag, Truth, Int, Rune, Addr and Head tell of it what the document says, and nothing else. No condition. -/
import Derived.Test.YtlpogdhdfopioaaRows
import Derived.Test.YtlpogdhdfopioaaG
import Derived.Deep.RegionHeld3
import Derived.WalkKit
import Derived.ProofKit
import Derived.OpenShut
namespace Go.Proofs.Ytlpogdhdfopioaa.wordTells
open Go.ChangeShapes Go.WideShapes Go.ChangeAt Go.RowKit
set_option linter.unusedVariables false      -- a walk need not use every 'w<i>' (that an integer argument fits its kind)

theorem own : ownKnob Try.prog.godebug = none := by kernel_rfl

theorem keep_t {W w w' : World} {b : Nat} {v : Value} (h : w.cell? ⟨b, 0, none⟩ = some v ∧ Below W.heap.size W w ∧ b < w.heap.size) (k : Below w.heap.size w w') :
    w'.cell? ⟨b, 0, none⟩ = some v ∧ Below W.heap.size W w' ∧ b < w'.heap.size :=
  ⟨by rw [k.cell h.2.2]; exact h.1, below_then h.2.1 k, Nat.lt_of_lt_of_le h.2.2 k.size⟩
/-- what stands of the thing t that the law keeps in a block of its own -/
structure HasT (W w : World) (b : Nat) (k t a x m : Int) : Prop where
  c0 : w.cell? ⟨b, 0, none⟩ = some (.int .i64 k)
  c1 : w.cell? ⟨b, 1, none⟩ = some (.int .i64 t)
  c2 : w.cell? ⟨b, 2, none⟩ = some (.int .i64 a)
  c3 : w.cell? ⟨b, 3, none⟩ = some (.int .i64 x)
  c4 : w.cell? ⟨b, 4, none⟩ = some (.int .u64 m)
  below : Below W.heap.size W w
  lt : b < w.heap.size
theorem HasT.then {W w w' : World} {b : Nat} {k t a x m : Int} (h : HasT W w b k t a x m) (hb : Below w.heap.size w w') : HasT W w' b k t a x m :=
  ⟨by rw [hb.cell h.lt]; exact h.c0, by rw [hb.cell h.lt]; exact h.c1, by rw [hb.cell h.lt]; exact h.c2, by rw [hb.cell h.lt]; exact h.c3, by rw [hb.cell h.lt]; exact h.c4, below_then h.below hb, Nat.lt_of_lt_of_le h.lt hb.size⟩
theorem HasT.new {W w : World} {k t a x m : Int} (hb : Below W.heap.size W w) : HasT W (w.alloc (.cells #[.int .i64 k, .int .i64 t, .int .i64 a, .int .i64 x, .int .u64 m] 25 (0, 0))) w.heap.size k t a x m :=
  ⟨by unfold World.cell?; dsimp only; rw [heap_alloc_new]; rfl, by unfold World.cell?; dsimp only; rw [heap_alloc_new]; rfl, by unfold World.cell?; dsimp only; rw [heap_alloc_new]; rfl, by unfold World.cell?; dsimp only; rw [heap_alloc_new]; rfl, by unfold World.cell?; dsimp only; rw [heap_alloc_new]; rfl, hb.alloc hb.size _, by simp⟩



set_option maxRecDepth 100000 in
set_option maxHeartbeats 1600000 in
theorem walk_fix (x : Int) (h0 : 0 ≤ x) (h1 : x < 18446744073709551616) (hk : whatN x = 1) (h8 : x % 8 = 0) (w : World) :
    Calls Try.prog 3 #[.int .u64 x] w fun e w' => e = .returned (.bool true) ∧ Below w.heap.size w w' := by
  have n3 : (whatN x != 3) = true := by rw [hk]; decide
  have n4 : (whatN x != 4) = true := by rw [hk]; decide
  have n5 : (whatN x != 5) = true := by rw [hk]; decide
  have n0 : (whatN x != 0) = true := by rw [hk]; decide
  have K := Lib.hid hk
  have et : IntKind.i64.wrap (x.tmod 8) = x % 8 := by rw [Int.tmod_eq_emod_of_nonneg h0]; exact IntWalk.i64_in _ ⟨by omega, by omega⟩
  have d8 : (x % 8 != x % 8) = false := bne_self_eq_false _
  have d4 : ((x != 4) != (x != 4)) = false := bne_self_eq_false _
  have H8 := Lib.hid h8
  clear h8
  clear hk
  go_enter Try.func3, Try.ntmps3
  go_wp2_with fail
  refine (of_fix x h0 h1 H8.out _).mono ?_
  unfold thing
  rintro e w9 ⟨rfl, hb9⟩
  go_wp2_with fail
  refine (int_yes x h0 h1 K.out _).mono ?_
  rintro e w10 ⟨rfl, hb10⟩
  go_wp2_with fail
  refine (rune_no x h0 h1 n3 _).mono ?_
  rintro e w11 ⟨rfl, hb11⟩
  go_wp2_with fail
  refine (addr_no x h0 h1 n4 _).mono ?_
  rintro e w12 ⟨rfl, hb12⟩
  go_wp2_with fail
  refine (head_no x h0 h1 n5 _).mono ?_
  rintro e w13 ⟨rfl, hb13⟩
  have T := ((((HasT.new hb9).then hb10).then hb11).then hb12).then hb13
  go_wp2_with fail
  go_region_held3 (fun w' => w'.cell? ⟨w9.heap.size, 0, none⟩ = some (.int .i64 1) ∧ Below w13.heap.size w13 w' ∧ w9.heap.size < w'.heap.size) (first | exact ⟨T.c0, (Below.refl _ _).drew, T.lt⟩ | exact keep_t ‹_› ‹_› | assumption)
    (first | (go_at_call 14; refine (may_any x h0 h1 _ n0 _).mono ?_; rintro e w14 ⟨rfl, hb14⟩) | (go_at_call 15; refine (tag_any _ h0 h1 _).mono ?_; rintro e w14 ⟨rfl, rfl⟩) | (go_at_call 16; refine (truth_any _ _).mono ?_; rintro e w14 ⟨rfl, rfl⟩))
  have T2 := T.then ((Below.refl w13.heap.size w13).drew.trans hb14)
  have B2 := T2.below
  have q0 := T2.c0
  have q3 := T2.c3
  go_wp2_with (go_at_call 17; refine (awake_any _).mono ?_; rintro e w17 ⟨rfl, hb17⟩)
  go_ret
  exact ⟨rfl, below_then B2 hb17⟩
set_option maxRecDepth 100000 in
set_option maxHeartbeats 1600000 in
theorem walk_addr (x : Int) (h0 : 0 ≤ x) (h1 : x < 18446744073709551616) (hk : whatN x = 4) (h8 : x % 8 = 1 ∨ x % 8 = 2 ∨ x % 8 = 3 ∨ x % 8 = 6) (hm : x / 8 < 65536) (w : World) :
    Calls Try.prog 3 #[.int .u64 x] w fun e w' => e = .returned (.bool true) ∧ Below w.heap.size w w' := by
  have n1 : (whatN x != 1) = true := by rw [hk]; decide
  have n3 : (whatN x != 3) = true := by rw [hk]; decide
  have n5 : (whatN x != 5) = true := by rw [hk]; decide
  have n0 : (whatN x != 0) = true := by rw [hk]; decide
  have K := Lib.hid hk
  have et : IntKind.i64.wrap (x.tmod 8) = x % 8 := by rw [Int.tmod_eq_emod_of_nonneg h0]; exact IntWalk.i64_in _ ⟨by omega, by omega⟩
  have d8 : (x % 8 != x % 8) = false := bne_self_eq_false _
  have d4 : ((x != 4) != (x != 4)) = false := bne_self_eq_false _
  have H8 := Lib.hid h8
  clear h8
  clear hk
  go_enter Try.func3, Try.ntmps3
  go_wp2_with fail
  refine (of_addr x h0 h1 H8.out hm _).mono ?_
  unfold thing
  rintro e w9 ⟨rfl, hb9⟩
  go_wp2_with fail
  refine (int_no x h0 h1 n1 _).mono ?_
  rintro e w10 ⟨rfl, hb10⟩
  go_wp2_with fail
  refine (rune_no x h0 h1 n3 _).mono ?_
  rintro e w11 ⟨rfl, hb11⟩
  go_wp2_with fail
  refine (addr_yes x h0 h1 K.out hm _).mono ?_
  rintro e w12 ⟨rfl, hb12⟩
  go_wp2_with fail
  refine (head_no x h0 h1 n5 _).mono ?_
  rintro e w13 ⟨rfl, hb13⟩
  have T := ((((HasT.new hb9).then hb10).then hb11).then hb12).then hb13
  go_wp2_with fail
  go_region_held3 (fun w' => w'.cell? ⟨w9.heap.size, 0, none⟩ = some (.int .i64 2) ∧ Below w13.heap.size w13 w' ∧ w9.heap.size < w'.heap.size) (first | exact ⟨T.c0, (Below.refl _ _).drew, T.lt⟩ | exact keep_t ‹_› ‹_› | assumption)
    (first | (go_at_call 14; refine (may_any x h0 h1 _ n0 _).mono ?_; rintro e w14 ⟨rfl, hb14⟩) | (go_at_call 15; refine (tag_any _ h0 h1 _).mono ?_; rintro e w14 ⟨rfl, rfl⟩) | (go_at_call 16; refine (truth_any _ _).mono ?_; rintro e w14 ⟨rfl, rfl⟩))
  have T2 := T.then ((Below.refl w13.heap.size w13).drew.trans hb14)
  have B2 := T2.below
  have q0 := T2.c0
  have q2 := T2.c2
  go_wp2_with (go_at_call 17; refine (awake_any _).mono ?_; rintro e w17 ⟨rfl, hb17⟩)
  go_ret
  exact ⟨rfl, below_then B2 hb17⟩
set_option maxRecDepth 100000 in
set_option maxHeartbeats 1600000 in
theorem walk_const (x : Int) (h0 : 0 ≤ x) (h1 : x < 18446744073709551616) (hk : whatN x = 2) (hx : x = 4 ∨ x = 12 ∨ x = 20 ∨ x = 28 ∨ x = 36 ∨ x = 44 ∨ x = 52) (w : World) :
    Calls Try.prog 3 #[.int .u64 x] w fun e w' => e = .returned (.bool true) ∧ Below w.heap.size w w' := by
  have n1 : (whatN x != 1) = true := by rw [hk]; decide
  have n3 : (whatN x != 3) = true := by rw [hk]; decide
  have n4 : (whatN x != 4) = true := by rw [hk]; decide
  have n5 : (whatN x != 5) = true := by rw [hk]; decide
  have n0 : (whatN x != 0) = true := by rw [hk]; decide
  have K := Lib.hid hk
  have et : IntKind.i64.wrap (x.tmod 8) = x % 8 := by rw [Int.tmod_eq_emod_of_nonneg h0]; exact IntWalk.i64_in _ ⟨by omega, by omega⟩
  have d8 : (x % 8 != x % 8) = false := bne_self_eq_false _
  have d4 : ((x != 4) != (x != 4)) = false := bne_self_eq_false _
  have HX := Lib.hid hx
  clear hx
  clear hk
  go_enter Try.func3, Try.ntmps3
  go_wp2_with fail
  refine (of_const x h0 h1 HX.out _).mono ?_
  unfold thing
  rintro e w9 ⟨rfl, hb9⟩
  go_wp2_with fail
  refine (int_no x h0 h1 n1 _).mono ?_
  rintro e w10 ⟨rfl, hb10⟩
  go_wp2_with fail
  refine (rune_no x h0 h1 n3 _).mono ?_
  rintro e w11 ⟨rfl, hb11⟩
  go_wp2_with fail
  refine (addr_no x h0 h1 n4 _).mono ?_
  rintro e w12 ⟨rfl, hb12⟩
  go_wp2_with fail
  refine (head_no x h0 h1 n5 _).mono ?_
  rintro e w13 ⟨rfl, hb13⟩
  have T := ((((HasT.new hb9).then hb10).then hb11).then hb12).then hb13
  go_wp2_with fail
  go_region_held3 (fun w' => w'.cell? ⟨w9.heap.size, 0, none⟩ = some (.int .i64 3) ∧ Below w13.heap.size w13 w' ∧ w9.heap.size < w'.heap.size) (first | exact ⟨T.c0, (Below.refl _ _).drew, T.lt⟩ | exact keep_t ‹_› ‹_› | assumption)
    (first | (go_at_call 14; refine (may_any x h0 h1 _ n0 _).mono ?_; rintro e w14 ⟨rfl, hb14⟩) | (go_at_call 15; refine (tag_any _ h0 h1 _).mono ?_; rintro e w14 ⟨rfl, rfl⟩) | (go_at_call 16; refine (truth_any _ _).mono ?_; rintro e w14 ⟨rfl, rfl⟩))
  have T2 := T.then ((Below.refl w13.heap.size w13).drew.trans hb14)
  have B2 := T2.below
  have q0 := T2.c0
  go_wp2_with (go_at_call 17; refine (awake_any _).mono ?_; rintro e w17 ⟨rfl, hb17⟩)
  go_ret
  exact ⟨rfl, below_then B2 hb17⟩
set_option maxRecDepth 100000 in
set_option maxHeartbeats 1600000 in
theorem walk_char (x : Int) (h0 : 0 ≤ x) (h1 : x < 18446744073709551616) (hk : whatN x = 3) (h8 : x % 8 = 4) (lo : x / 8 % 32 = 7) (hc : charB (x / 8 / 32) = true) (hm : x / 8 / 32 ≤ 1114111) (w : World) :
    Calls Try.prog 3 #[.int .u64 x] w fun e w' => e = .returned (.bool true) ∧ Below w.heap.size w w' := by
  have n1 : (whatN x != 1) = true := by rw [hk]; decide
  have n4 : (whatN x != 4) = true := by rw [hk]; decide
  have n5 : (whatN x != 5) = true := by rw [hk]; decide
  have n0 : (whatN x != 0) = true := by rw [hk]; decide
  have K := Lib.hid hk
  have et : IntKind.i64.wrap (x.tmod 8) = x % 8 := by rw [Int.tmod_eq_emod_of_nonneg h0]; exact IntWalk.i64_in _ ⟨by omega, by omega⟩
  have d8 : (x % 8 != x % 8) = false := bne_self_eq_false _
  have d4 : ((x != 4) != (x != 4)) = false := bne_self_eq_false _
  have H8 := Lib.hid h8
  have LO := Lib.hid lo
  have HC := Lib.hid hc
  clear h8 lo hc
  clear hk
  go_enter Try.func3, Try.ntmps3
  go_wp2_with fail
  refine (of_char x h0 h1 H8.out LO.out HC.out _).mono ?_
  unfold thing
  rintro e w9 ⟨rfl, hb9⟩
  go_wp2_with fail
  refine (int_no x h0 h1 n1 _).mono ?_
  rintro e w10 ⟨rfl, hb10⟩
  go_wp2_with fail
  refine (rune_yes x h0 h1 K.out hm _).mono ?_
  rintro e w11 ⟨rfl, hb11⟩
  go_wp2_with fail
  refine (addr_no x h0 h1 n4 _).mono ?_
  rintro e w12 ⟨rfl, hb12⟩
  go_wp2_with fail
  refine (head_no x h0 h1 n5 _).mono ?_
  rintro e w13 ⟨rfl, hb13⟩
  have T := ((((HasT.new hb9).then hb10).then hb11).then hb12).then hb13
  go_wp2_with fail
  go_region_held3 (fun w' => w'.cell? ⟨w9.heap.size, 0, none⟩ = some (.int .i64 4) ∧ Below w13.heap.size w13 w' ∧ w9.heap.size < w'.heap.size) (first | exact ⟨T.c0, (Below.refl _ _).drew, T.lt⟩ | exact keep_t ‹_› ‹_› | assumption)
    (first | (go_at_call 14; refine (may_any x h0 h1 _ n0 _).mono ?_; rintro e w14 ⟨rfl, hb14⟩) | (go_at_call 15; refine (tag_any _ h0 h1 _).mono ?_; rintro e w14 ⟨rfl, rfl⟩) | (go_at_call 16; refine (truth_any _ _).mono ?_; rintro e w14 ⟨rfl, rfl⟩))
  have T2 := T.then ((Below.refl w13.heap.size w13).drew.trans hb14)
  have B2 := T2.below
  have q0 := T2.c0
  have q2 := T2.c2
  go_wp2_with (go_at_call 17; refine (awake_any _).mono ?_; rintro e w17 ⟨rfl, hb17⟩)
  go_ret
  exact ⟨rfl, below_then B2 hb17⟩
set_option maxRecDepth 100000 in
set_option maxHeartbeats 1600000 in
theorem walk_head (x : Int) (h0 : 0 ≤ x) (h1 : x < 18446744073709551616) (hk : whatN x = 5) (h8 : x % 8 = 5) (k0 : 1 ≤ x / 8 % 32) (k1 : x / 8 % 32 ≤ 13) (n1' : x / 8 / 32 % 256 ≤ 62) (w : World) :
    Calls Try.prog 3 #[.int .u64 x] w fun e w' => e = .returned (.bool true) ∧ Below w.heap.size w w' := by
  have n1 : (whatN x != 1) = true := by rw [hk]; decide
  have n3 : (whatN x != 3) = true := by rw [hk]; decide
  have n4 : (whatN x != 4) = true := by rw [hk]; decide
  have n0 : (whatN x != 0) = true := by rw [hk]; decide
  have K := Lib.hid hk
  have et : IntKind.i64.wrap (x.tmod 8) = x % 8 := by rw [Int.tmod_eq_emod_of_nonneg h0]; exact IntWalk.i64_in _ ⟨by omega, by omega⟩
  have d8 : (x % 8 != x % 8) = false := bne_self_eq_false _
  have d4 : ((x != 4) != (x != 4)) = false := bne_self_eq_false _
  have H8 := Lib.hid h8
  clear h8
  clear hk
  go_enter Try.func3, Try.ntmps3
  go_wp2_with fail
  refine (of_head x h0 h1 H8.out k0 k1 n1' _).mono ?_
  unfold thing
  rintro e w9 ⟨rfl, hb9⟩
  go_wp2_with fail
  refine (int_no x h0 h1 n1 _).mono ?_
  rintro e w10 ⟨rfl, hb10⟩
  go_wp2_with fail
  refine (rune_no x h0 h1 n3 _).mono ?_
  rintro e w11 ⟨rfl, hb11⟩
  go_wp2_with fail
  refine (addr_no x h0 h1 n4 _).mono ?_
  rintro e w12 ⟨rfl, hb12⟩
  go_wp2_with fail
  refine (head_yes x h0 h1 K.out _).mono ?_
  rintro e w13 ⟨rfl, hb13⟩
  have T := ((((HasT.new hb9).then hb10).then hb11).then hb12).then hb13
  go_wp2_with fail
  go_region_held3 (fun w' => w'.cell? ⟨w9.heap.size, 0, none⟩ = some (.int .i64 5) ∧ Below w13.heap.size w13 w' ∧ w9.heap.size < w'.heap.size) (first | exact ⟨T.c0, (Below.refl _ _).drew, T.lt⟩ | exact keep_t ‹_› ‹_› | assumption)
    (first | (go_at_call 14; refine (may_any x h0 h1 _ n0 _).mono ?_; rintro e w14 ⟨rfl, hb14⟩) | (go_at_call 15; refine (tag_any _ h0 h1 _).mono ?_; rintro e w14 ⟨rfl, rfl⟩) | (go_at_call 16; refine (truth_any _ _).mono ?_; rintro e w14 ⟨rfl, rfl⟩))
  have T2 := T.then ((Below.refl w13.heap.size w13).drew.trans hb14)
  have B2 := T2.below
  have q0 := T2.c0
  have q1 := T2.c1
  have q2 := T2.c2
  have q4 := T2.c4
  go_wp2_with (go_at_call 17; refine (awake_any _).mono ?_; rintro e w17 ⟨rfl, hb17⟩)
  go_ret
  exact ⟨rfl, below_then B2 hb17⟩
set_option maxRecDepth 100000 in
set_option maxHeartbeats 1600000 in
theorem walk_none (x : Int) (h0 : 0 ≤ x) (h1 : x < 18446744073709551616) (hk : whatN x = 0) (h4 : x % 8 = 4 → (x / 8 % 32 = 7 ∧ charB (x / 8 / 32) = false) ∨ (x / 8 % 32 < 7 ∧ 0 < x / 8 / 32) ∨ 7 < x / 8 % 32) (h5 : x % 8 = 5 → headB (x / 8 % 32) (x / 8 / 32 % 256) (x / 8 / 32 / 256) = false) (h3 : x % 8 = 1 ∨ x % 8 = 2 ∨ x % 8 = 3 ∨ x % 8 = 6 → 65536 ≤ x / 8) (h00 : x % 8 ≠ 0) (w : World) :
    Calls Try.prog 3 #[.int .u64 x] w fun e w' => e = .returned (.bool true) ∧ Below w.heap.size w w' := by
  have n1 : (whatN x != 1) = true := by rw [hk]; decide
  have n3 : (whatN x != 3) = true := by rw [hk]; decide
  have n4 : (whatN x != 4) = true := by rw [hk]; decide
  have n5 : (whatN x != 5) = true := by rw [hk]; decide
  have n0 : (whatN x != 0) = false := by rw [hk]; decide
  have K := Lib.hid hk
  have et : IntKind.i64.wrap (x.tmod 8) = x % 8 := by rw [Int.tmod_eq_emod_of_nonneg h0]; exact IntWalk.i64_in _ ⟨by omega, by omega⟩
  have d8 : (x % 8 != x % 8) = false := bne_self_eq_false _
  have d4 : ((x != 4) != (x != 4)) = false := bne_self_eq_false _
  have H4 := Lib.hid h4
  have H5 := Lib.hid h5
  have H3 := Lib.hid h3
  have H0 := Lib.hid h00
  clear h4 h5 h3 h00
  clear hk
  go_enter Try.func3, Try.ntmps3
  go_wp2_with fail
  refine (of_none x h0 h1 H4.out H5.out H3.out H0.out _).mono ?_
  unfold thing
  rintro e w9 ⟨rfl, hb9⟩
  go_wp2_with fail
  refine (int_no x h0 h1 n1 _).mono ?_
  rintro e w10 ⟨rfl, hb10⟩
  go_wp2_with fail
  refine (rune_no x h0 h1 n3 _).mono ?_
  rintro e w11 ⟨rfl, hb11⟩
  go_wp2_with fail
  refine (addr_no x h0 h1 n4 _).mono ?_
  rintro e w12 ⟨rfl, hb12⟩
  go_wp2_with fail
  refine (head_no x h0 h1 n5 _).mono ?_
  rintro e w13 ⟨rfl, hb13⟩
  have T := ((((HasT.new hb9).then hb10).then hb11).then hb12).then hb13
  go_wp2_with fail
  go_region_held3 (fun w' => w'.cell? ⟨w9.heap.size, 0, none⟩ = some (.int .i64 0) ∧ Below w13.heap.size w13 w' ∧ w9.heap.size < w'.heap.size) (first | exact ⟨T.c0, (Below.refl _ _).drew, T.lt⟩ | exact keep_t ‹_› ‹_› | assumption)
    (first | (go_at_call 14; refine (may_any x h0 h1 _ n0 _).mono ?_; rintro e w14 ⟨rfl, hb14⟩) | (go_at_call 15; refine (tag_any _ h0 h1 _).mono ?_; rintro e w14 ⟨rfl, rfl⟩) | (go_at_call 16; refine (truth_any _ _).mono ?_; rintro e w14 ⟨rfl, rfl⟩))
  have T2 := T.then ((Below.refl w13.heap.size w13).drew.trans hb14)
  have B2 := T2.below
  have q0 := T2.c0
  go_wp2_with (go_at_call 17; refine (awake_any _).mono ?_; rintro e w17 ⟨rfl, hb17⟩)
  go_ret
  exact ⟨rfl, below_then B2 hb17⟩
theorem walk (a0 : Int) (w0 : (Lit.int .u64 a0).wf = true) (w : World) :
    Calls Try.prog 3 #[.int .u64 a0] w fun e w' => e = .returned (.bool true) ∧ Below w.heap.size w w' := by
  have b0 := bounds_u64 w0
  have h1 : a0 < 18446744073709551616 := by omega
  cases kind_of a0 b0.1 h1 with
  | fix h h8 => exact walk_fix a0 b0.1 h1 h h8 w
  | const h => exact walk_const a0 b0.1 h1 (by rcases h with rfl | rfl | rfl | rfl | rfl | rfl | rfl <;> decide) h w
  | char h h8 lo hc hm => exact walk_char a0 b0.1 h1 h h8 lo hc hm w
  | addr h h8 hl => exact walk_addr a0 b0.1 h1 h h8 hl w
  | head h h8 k0 k1 n1 => exact walk_head a0 b0.1 h1 h h8 k0 k1 n1 w
  | none h h4 h5 h3 h00 => exact walk_none a0 b0.1 h1 h h4 h5 h3 h00 w

/-! The row's step. -/
set_option maxRecDepth 100000 in
theorem lifted (os : Os) (started : os.Started) (H : Type) (enc : TypeId × Value → H) :
    ReturnsInHanded {} Try.checked os 3 .any (Rows.wordTellsSpec.pre6 enc Try.prog Try.f3 Rows.wordTellsRow.domain false) (Rows.wordTellsSpec.post enc Try.prog Try.f3 false true false false) := by
  refine returnsInHanded_of_change (C := Try.checked) own started (by kernel_rfl) Try.func3
    (ChangeSpec.witness6 (enc := enc) (C := Try.checked) false ⟨#[], #[.int .u64 0], []⟩ 8 (by kernel_rfl) (by kernel_rfl) (by kernel_rfl) (by kernel_rfl)) ?_
  intro W base args ds gs before hval0 hW hcnd _
  have hval : ∀ (j : Nat) t v, Try.f3.params[j]? = some t → args[j]? = some v → Value.okWide Try.prog W .any base t v := hval0
  have hW' := hW
  obtain ⟨p, q, hA0, hV, rfl, hfz, hnd⟩ := hW
  have hA : DataW.TrodAll enc Try.prog W 0 (fun _ => true) true Try.f3.params.toList args.toList ds p := hA0
  rw [Try.params3] at hA hval
  obtain ⟨v0, vs0, d0, ds0, p0, q0, hargs, rfl, rfl, h0, r0⟩ := trodAll_cons hA
  obtain ⟨rfl, rfl, rfl⟩ := trodAll_nil r0
  obtain rfl : args = #[v0] := by cases args; simp_all
  obtain ⟨rfl, rfl⟩ := trodVars_none hV
  obtain ⟨a0, rfl, rfl, rfl, w0⟩ := open_int Try.underlying23 (hval 0 23 v0 rfl rfl) h0
  clear hA0 hval0
  simp only [List.append_nil] at hW'
  refine (walk a0 w0 W).mono fun e W' ⟨he, hg⟩ => ?_
  subst he
  exact ⟨_, rfl, _, _, _, [], [], [], hW', (trodAll_cons_mk (shut_bool Try.underlying4 _) trodAll_mk0), (trodAll_cons_mk (shut_int Try.underlying23 w0) trodAll_mk0), rfl, hg.frame _, fun h => by cases h⟩

theorem over : Rows.wordTellsRow.holds Try.pinned (OpenSpec.ofChange Rows.wordTellsSpec) :=
  OpenClaim.holds_of_wide 3 Try.f3 rfl rfl rfl rfl rfl rfl rfl ⟨rfl, rfl, rfl, rfl, rfl⟩ rfl rfl rfl rfl rfl (by kernel_rfl) Try.func3 (by kernel_rfl)
    (of_decide_eq_true (by kernel_rfl)) (by unfold Func.isWrapper; first | (rw [if_pos (by decide +kernel)]; kernel_rfl) | (rw [if_neg (by decide +kernel)]; exact ⟨rfl, rfl⟩))
    (fun os started H enc _ => lifted os started H enc)

theorem proved : Rows.WordTellsSaid :=
  over
#print axioms proved
end Go.Proofs.Ytlpogdhdfopioaa.wordTells
