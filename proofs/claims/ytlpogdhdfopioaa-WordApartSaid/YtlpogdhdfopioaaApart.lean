/- For all numbers, runes, tags, places, types and mores, WordApart returns true: unlike fixnums, characters, addresses and headers have unlike words, and none is a constant. No condition. -/
import Derived.Test.YtlpogdhdfopioaaRows
import Derived.Test.YtlpogdhdfopioaaI
import Derived.OwnWalk
import Derived.Laws.AppendOwn
import Derived.WalkKit
import Derived.ProofKit
import Derived.OpenShut
namespace Go.Proofs.Ytlpogdhdfopioaa.wordApart
open Go.ChangeShapes Go.WideShapes Go.ChangeAt Go.RowKit
set_option linter.unusedVariables false      -- a walk need not use every 'w<i>' (that an integer argument fits its kind)

theorem own : ownKnob Try.prog.godebug = none := by kernel_rfl

theorem own_nil (w : World) (base : Nat) : Own w base (.slice none 0 0) [] := World.ownsRow_nil w base 23 1
theorem len_app {xs : List Int} {k : Nat} (h : xs.length ≤ k) (e x : Int) : (xs ++ opt e x).length ≤ k + 1 := by
  have := opt_le e x; rw [List.length_append]; omega
theorem own_skip {w : World} {base : Nat} {v : Value} {xs : List Int} (h : Own w base v xs) : Own w base v (xs ++ []) := by rw [List.append_nil]; exact h
theorem seven_new (w : World) : ∀ (j : Nat) (u : Value), [Value.int .u64 4, .int .u64 12, .int .u64 20, .int .u64 28, .int .u64 36, .int .u64 44, .int .u64 52][j]? = some u →
    (w.alloc (.cells #[.int .u64 4, .int .u64 12, .int .u64 20, .int .u64 28, .int .u64 36, .int .u64 44, .int .u64 52] 23 (0, 0))).cell? ((⟨w.heap.size, 0, none⟩ : Addr).add j) = some u := by
  intro j u h
  have e : (⟨w.heap.size, 0, none⟩ : Addr).add j = ⟨w.heap.size, j, none⟩ := by unfold Addr.add; split <;> simp_all
  rw [e]
  unfold World.cell?
  dsimp only
  rw [heap_alloc_new]
  simpa using h
theorem fix_b (x : Int) (w : World) : Calls Try.prog 18 #[.int .i64 x] w fun e w' => e = .returned (.tuple #[.int .u64 (fixR x), .int .i64 (fixE x)]) ∧ w = w' := (fix_both x w).mono fun _ _ h => ⟨h.1, h.2.symm⟩
theorem char_b (c : Int) (lo : -2147483648 ≤ c) (hi : c ≤ 2147483647) (w : World) : Calls Try.prog 21 #[.int .i32 c] w fun e w' => e = .returned (.tuple #[.int .u64 (charR c), .int .i64 (charE c)]) ∧ w = w' := (char_both c lo hi w).mono fun _ _ h => ⟨h.1, h.2.symm⟩
theorem header_b (k n m : Int) (lk : -9223372036854775808 ≤ k) (hk : k ≤ 9223372036854775807) (ln : -9223372036854775808 ≤ n) (hn : n ≤ 9223372036854775807) (m0 : 0 ≤ m) (w : World) :
    Calls Try.prog 24 #[.int .i64 k, .int .i64 n, .int .u64 m] w fun e w' => e = .returned (.tuple #[.int .u64 (hdR k n m), .int .i64 (hdE k n m)]) ∧ w = w' := (header_both k n m lk hk ln hn m0 w).mono fun _ _ h => ⟨h.1, h.2.symm⟩
def elt (M : List Int) (j : Nat) : Int := M[j]?.getD 0
theorem getD_of {M : List Int} {j : Nat} (hj : j < M.length) : elt M j = M[j] := by unfold elt; rw [List.getElem?_eq_getElem hj]; rfl
/-- the row of words lies in the block g -/
structure Row (w : World) (g : Nat) (M : List Int) : Prop where
  lt : g < w.heap.size
  cell : ∀ j, j < M.length → w.cell? ⟨g, j, none⟩ = some (.int .u64 (elt M j))
theorem Row.below {w w' : World} {g : Nat} {M : List Int} (h : Row w g M) (k : Below w.heap.size w w') : Row w' g M :=
  ⟨Nat.lt_of_lt_of_le h.lt k.size, fun j hj => by rw [k.cell h.lt]; exact h.cell j hj⟩
theorem Row.drewN {w : World} {g : Nat} {M : List Int} (h : Row w g M) (n : Nat) : Row (w.drewN n) g M := ⟨h.lt, h.cell⟩
theorem own_at {w : World} {base : Nat} {v : Value} {M : List Int} (h : Own w base v M) (hne : ¬v = .slice none 0 0) :
    ∃ g cap, v = .slice (some ⟨g, 0, none⟩) M.length cap ∧ M.length ≤ cap ∧ cap ≤ maxLen ∧ Row w g M := by
  have h' := h
  obtain ⟨_, h2⟩ := h'
  rcases h2 with h2 | ⟨g, cap, cur, hv, hg, hh, hn, hm, _⟩
  · exact absurd h2.1 hne
  · refine ⟨g, cap, hv, hn, hm, lt_of_block hh, fun j hj => ?_⟩
    have := World.ownsRow.cells h (g := g) (by rw [hv]; rfl) j (.int .u64 (elt M j)) (by rw [List.getElem?_map, List.getElem?_eq_getElem hj, getD_of hj]; rfl)
    have e : (⟨g, 0, none⟩ : Addr).add j = ⟨g, j, none⟩ := by unfold Addr.add; split <;> simp_all
    rwa [e] at this
theorem all_at {M : List Int} {j : Nat} (h : AllApart M) (hj : j < M.length) : 0 ≤ elt M j ∧ elt M j < 18446744073709551616 ∧ (whatN (elt M j) != 0) = true := by
  rw [getD_of hj]; exact h.1 _ (List.getElem_mem hj)
theorem apart_at {M : List Int} {l j : Nat} (h : AllApart M) (hl : l < j) (hj : j < M.length) : (elt M l == elt M j) = false := by
  rw [getD_of hj, getD_of (Nat.lt_trans hl hj), beq_eq_false_iff_ne]
  exact List.pairwise_iff_getElem.1 h.2 l j (Nat.lt_trans hl hj) hj hl
theorem own_seven {w : World} {base : Nat} {v : Value} {xs : List Int} (h : w.ownsRow base 23 1 v (xs.length + 7) (xs.map (Value.int .u64) ++ [.int .u64 4, .int .u64 12, .int .u64 20, .int .u64 28, .int .u64 36, .int .u64 44, .int .u64 52])) :
    Own w base v (xs ++ [4, 12, 20, 28, 36, 44, 52]) := by
  unfold Own; rw [List.length_append, List.map_append]; exact h
set_option maxRecDepth 100000 in
set_option maxHeartbeats 2000000 in
theorem walk_ttt (x y c d t a o k n m : Int) (hxy : (x != y) = true) (hcd : (c != d) = true) (hao : (a != o) = true)
    (c0 : -2147483648 ≤ c) (c1 : c ≤ 2147483647) (d0 : -2147483648 ≤ d) (d1 : d ≤ 2147483647) (t0 : -9223372036854775808 ≤ t) (t1 : t ≤ 9223372036854775807)
    (k0 : -9223372036854775808 ≤ k) (k1 : k ≤ 9223372036854775807) (n0 : -9223372036854775808 ≤ n) (n1 : n ≤ 9223372036854775807) (m0 : 0 ≤ m) (w : World) :
    Calls Try.prog 8 #[.int .i64 x, .int .i64 y, .int .i32 c, .int .i32 d, .int .i64 t, .int .i64 a, .int .i64 o, .int .i64 k, .int .i64 n, .int .u64 m] w fun e w' => e = .returned (.bool true) ∧ Below w.heap.size w w' := by
  obtain ⟨i0, hi, hz0, hz1, hz2⟩ := info_parts info23
  have lF := Lib.hid (lst_fix2 x y (by simpa using hxy))
  have lC := Lib.hid (Lst.char2 lF.out c d (by simpa using hcd) c0 c1 d0 d1)
  have lA := Lib.hid (Lst.at2 lC.out t a o (by simpa using hao))
  have lH := Lib.hid ((lA.out).head k n m k0 k1 n0 n1 m0)
  have lAll := Lib.hid (lH.out).all
  clear lF lC lA lH
  have l0 : ([] : List Int).length ≤ 0 := Nat.le_refl _
  go_enter Try.func8, Try.ntmps8
  go_wp2_with fail
  refine (fix_b x _).mono ?_
  rintro e u1 ⟨rfl, rfl⟩
  go_wp2_with fail
  refine (good_any w.heap.size (.slice none 0 0) _ _ _ _ (own_nil _ _) (Nat.le_refl _) (by omega)).mono ?_
  rintro e w1 ⟨v1, rfl, o1, g1⟩
  have l1 := len_app l0 (fixE x) (fixR x)
  have b1 := g1
  have z1 := b1.size
  clear g1 l0
  go_wp2_with fail
  refine (fix_b y _).mono ?_
  rintro e u2 ⟨rfl, rfl⟩
  go_wp2_with fail
  refine (good_any w.heap.size (v1) _ _ _ _ o1 z1 (by omega)).mono ?_
  rintro e w2 ⟨v2, rfl, o2, g2⟩
  have l2 := len_app l1 (fixE y) (fixR y)
  have b2 := b1.trans g2
  have z2 := b2.size
  clear g2 l1 o1 b1 z1
  go_wp2_with fail
  refine (char_b c c0 c1 _).mono ?_
  rintro e u3 ⟨rfl, rfl⟩
  go_wp2_with fail
  refine (good_any w.heap.size (v2) _ _ _ _ o2 z2 (by omega)).mono ?_
  rintro e w3 ⟨v3, rfl, o3, g3⟩
  have l3 := len_app l2 (charE c) (charR c)
  have b3 := b2.trans g3
  have z3 := b3.size
  clear g3 l2 o2 b2 z2
  go_wp2_with fail
  refine (char_b d d0 d1 _).mono ?_
  rintro e u4 ⟨rfl, rfl⟩
  go_wp2_with fail
  refine (good_any w.heap.size (v3) _ _ _ _ o3 z3 (by omega)).mono ?_
  rintro e w4 ⟨v4, rfl, o4, g4⟩
  have l4 := len_app l3 (charE d) (charR d)
  have b4 := b3.trans g4
  have z4 := b4.size
  clear g4 l3 o3 b3 z3
  go_wp2_with fail
  refine (at_both t a t0 t1 _).mono ?_
  rintro e u5 ⟨rfl, q5⟩
  have p5 := own_below o4 q5
  have r5 := b4.trans (q5.mono z4)
  have s5 := r5.size
  clear o4 b4 z4 q5
  go_wp2_with fail
  refine (good_any w.heap.size (v4) _ _ _ _ p5 s5 (by omega)).mono ?_
  rintro e w5 ⟨v5, rfl, o5, g5⟩
  have l5 := len_app l4 (atE t a) (atR t a)
  have b5 := r5.trans g5
  have z5 := b5.size
  clear g5 l4 p5 r5 s5
  go_wp2_with fail
  refine (at_both t o t0 t1 _).mono ?_
  rintro e u6 ⟨rfl, q6⟩
  have p6 := own_below o5 q6
  have r6 := b5.trans (q6.mono z5)
  have s6 := r6.size
  clear o5 b5 z5 q6
  go_wp2_with fail
  refine (good_any w.heap.size (v5) _ _ _ _ p6 s6 (by omega)).mono ?_
  rintro e w6 ⟨v6, rfl, o6, g6⟩
  have l6 := len_app l5 (atE t o) (atR t o)
  have b6 := r6.trans g6
  have z6 := b6.size
  clear g6 l5 p6 r6 s6
  go_wp2_with fail
  refine (header_b k n m k0 k1 n0 n1 m0 _).mono ?_
  rintro e u7 ⟨rfl, rfl⟩
  go_wp2_with fail
  refine (good_any w.heap.size (v6) _ _ _ _ o6 z6 (by omega)).mono ?_
  rintro e w7 ⟨v7, rfl, o7, g7⟩
  have l7 := len_app l6 (hdE k n m) (hdR k n m)
  have b7 := b6.trans g7
  have z7 := b7.size
  clear g7 l6 o6 b6 z6
  generalize (((((((([] : List Int) ++ opt (fixE x) (fixR x)) ++ opt (fixE y) (fixR y)) ++ opt (charE c) (charR c)) ++ opt (charE d) (charR d)) ++ opt (atE t a) (atR t a)) ++ opt (atE t o) (atR t o)) ++ opt (hdE k n m) (hdR k n m)) = L at o7 l7 lAll
  have hml : L.length + 7 ≤ maxLen := Nat.le_trans (Nat.add_le_add_right l7 7) (by unfold maxLen; omega)
  go_wp2_with (at_builtin; refine wpList_append_own _ rfl _ _ 51 rfl w.heap.size 23 i0 (.int .u64 0) 1 8 Try.underlying51 hi hz0 hz1 hz2 rfl (by decide) v7 _ _ rfl (World.ownsRow.alloc o7 _) ⟨w7.heap.size, 0, none⟩ 7 7 [.int .u64 4, .int .u64 12, .int .u64 20, .int .u64 28, .int .u64 36, .int .u64 44, .int .u64 52] rfl rfl ?c1 ?c2 hml ?c4 ?c5 ?_)
  case c1 => exact seven_new w7
  case c2 =>
    intro u hu
    simp only [List.mem_cons, List.not_mem_nil, or_false] at hu
    rcases hu with rfl | rfl | rfl | rfl | rfl | rfl | rfl <;> rfl
  case c4 => exact Nat.le_trans (Nat.mul_le_mul_right 8 (Nat.add_le_add_right l7 7)) (by decide)
  case c5 => simp; omega
  intro v' w8 hown' hgrow hne
  have b8 := b7.trans (own_grown o7 z7 _ rfl hgrow)
  have o8 := own_seven hown'
  generalize L ++ [4, 12, 20, 28, 36, 44, 52] = M at o8 lAll
  clear hown' hgrow o7 b7 z7 l7 hml hi hz0 hz1 hz2
  obtain ⟨g, cap, hv, hcap, hmax, R8⟩ := own_at o8 hne
  clear o8 hne
  rw [hv]
  have hm9 : M.length ≤ 9223372036854775807 := by unfold maxLen at hmax; omega
  have hc9 : (M.length : Int) ≤ 9223372036854775807 := by omega
  clear hv hmax
  go_wp2
  go_loopw [24] (fun i wr => ∃ j : Nat, j ≤ M.length ∧ i = .int .i64 (j : Int) ∧ Row wr g M ∧ Below w.heap.size w wr) (fun i _ => M.length - (intOf i).toNat)
  case atStart => exact ⟨0, Nat.zero_le _, rfl, R8, b8⟩
  case round =>
    obtain ⟨j, hj, rfl, R, B⟩ := hrel
    clear R8 b8
    by_cases hlt : j < M.length
    · have hcj := R.cell j hlt
      obtain ⟨p0, p1, pm⟩ := all_at lAll.out hlt
      go_wp2_with (go_at_call 14; refine (may_any _ p0 p1 true pm _).mono ?_; rintro e w9 ⟨rfl, hb9⟩)
      have R9 := R.below hb9
      have B9 := B.trans (hb9.mono B.size)
      clear R B hb9
      obtain ⟨wo, rfl⟩ : ∃ wo : World, wo = wr := ⟨_, rfl⟩
      go_loopw [25] (fun i wr => ∃ l : Nat, l ≤ j ∧ i = .int .i64 (l : Int) ∧ Row wr g M ∧ Below w.heap.size w wr) (fun i _ => j - (intOf i).toNat)
      case atStart => exact ⟨0, Nat.zero_le _, rfl, R9, B9⟩
      case round =>
        obtain ⟨l, hl, rfl, R, B⟩ := hrel
        clear R9 B9 hcj
        by_cases hlj : l < j
        · have hcl := R.cell l (by omega)
          have hcj := R.cell j hlt
          have hne := apart_at lAll.out hlj hlt
          go_wp2
          go_quiet (fail)
          go_wp2
          go_roundw
          case rel => exact ⟨l + 1, by omega, by go_num, R.drewN _, below_drewN B _⟩
          case measure => simp [intOf]; omega
        · obtain rfl : l = j := by omega
          go_wp2
          go_roundw
          case rel => exact ⟨l + 1, by omega, by go_num, R, B⟩
          case measure => simp [intOf]; omega
    · obtain rfl : j = M.length := by omega
      go_wp2_with (go_at_call 17; refine (awake_any _).mono ?_; rintro e w9 ⟨rfl, hb9⟩)
      go_ret
      exact ⟨rfl, B.trans (hb9.mono B.size)⟩
set_option maxRecDepth 100000 in
set_option maxHeartbeats 2000000 in
theorem walk_ttf (x y c d t a o k n m : Int) (hxy : (x != y) = true) (hcd : (c != d) = true) (hao : (a != o) = false)
    (c0 : -2147483648 ≤ c) (c1 : c ≤ 2147483647) (d0 : -2147483648 ≤ d) (d1 : d ≤ 2147483647) (t0 : -9223372036854775808 ≤ t) (t1 : t ≤ 9223372036854775807)
    (k0 : -9223372036854775808 ≤ k) (k1 : k ≤ 9223372036854775807) (n0 : -9223372036854775808 ≤ n) (n1 : n ≤ 9223372036854775807) (m0 : 0 ≤ m) (w : World) :
    Calls Try.prog 8 #[.int .i64 x, .int .i64 y, .int .i32 c, .int .i32 d, .int .i64 t, .int .i64 a, .int .i64 o, .int .i64 k, .int .i64 n, .int .u64 m] w fun e w' => e = .returned (.bool true) ∧ Below w.heap.size w w' := by
  obtain ⟨i0, hi, hz0, hz1, hz2⟩ := info_parts info23
  have lF := Lib.hid (lst_fix2 x y (by simpa using hxy))
  have lC := Lib.hid (Lst.char2 lF.out c d (by simpa using hcd) c0 c1 d0 d1)
  have lA := Lib.hid (Lst.none (Lst.at lC.out t a) 2 (Nat.le_refl _))
  have lH := Lib.hid ((lA.out).head k n m k0 k1 n0 n1 m0)
  have lAll := Lib.hid (lH.out).all
  clear lF lC lA lH
  have l0 : ([] : List Int).length ≤ 0 := Nat.le_refl _
  go_enter Try.func8, Try.ntmps8
  go_wp2_with fail
  refine (fix_b x _).mono ?_
  rintro e u1 ⟨rfl, rfl⟩
  go_wp2_with fail
  refine (good_any w.heap.size (.slice none 0 0) _ _ _ _ (own_nil _ _) (Nat.le_refl _) (by omega)).mono ?_
  rintro e w1 ⟨v1, rfl, o1, g1⟩
  have l1 := len_app l0 (fixE x) (fixR x)
  have b1 := g1
  have z1 := b1.size
  clear g1 l0
  go_wp2_with fail
  refine (fix_b y _).mono ?_
  rintro e u2 ⟨rfl, rfl⟩
  go_wp2_with fail
  refine (good_any w.heap.size (v1) _ _ _ _ o1 z1 (by omega)).mono ?_
  rintro e w2 ⟨v2, rfl, o2, g2⟩
  have l2 := len_app l1 (fixE y) (fixR y)
  have b2 := b1.trans g2
  have z2 := b2.size
  clear g2 l1 o1 b1 z1
  go_wp2_with fail
  refine (char_b c c0 c1 _).mono ?_
  rintro e u3 ⟨rfl, rfl⟩
  go_wp2_with fail
  refine (good_any w.heap.size (v2) _ _ _ _ o2 z2 (by omega)).mono ?_
  rintro e w3 ⟨v3, rfl, o3, g3⟩
  have l3 := len_app l2 (charE c) (charR c)
  have b3 := b2.trans g3
  have z3 := b3.size
  clear g3 l2 o2 b2 z2
  go_wp2_with fail
  refine (char_b d d0 d1 _).mono ?_
  rintro e u4 ⟨rfl, rfl⟩
  go_wp2_with fail
  refine (good_any w.heap.size (v3) _ _ _ _ o3 z3 (by omega)).mono ?_
  rintro e w4 ⟨v4, rfl, o4, g4⟩
  have l4 := len_app l3 (charE d) (charR d)
  have b4 := b3.trans g4
  have z4 := b4.size
  clear g4 l3 o3 b3 z3
  go_wp2_with fail
  refine (at_both t a t0 t1 _).mono ?_
  rintro e u5 ⟨rfl, q5⟩
  have p5 := own_below o4 q5
  have r5 := b4.trans (q5.mono z4)
  have s5 := r5.size
  clear o4 b4 z4 q5
  go_wp2_with fail
  refine (good_any w.heap.size (v4) _ _ _ _ p5 s5 (by omega)).mono ?_
  rintro e w5 ⟨v5, rfl, o5, g5⟩
  have l5 := len_app l4 (atE t a) (atR t a)
  have b5 := r5.trans g5
  have z5 := b5.size
  clear g5 l4 p5 r5 s5
  have o6 := own_skip o5
  clear o5
  have l6 : (((((((([] : List Int) ++ opt (fixE x) (fixR x)) ++ opt (fixE y) (fixR y)) ++ opt (charE c) (charR c)) ++ opt (charE d) (charR d)) ++ opt (atE t a) (atR t a)) ++ [])).length ≤ 5 := by rw [List.append_nil]; exact l5
  clear l5
  have b6 := b5
  have z6 := z5
  clear b5 z5
  go_wp2_with fail
  refine (header_b k n m k0 k1 n0 n1 m0 _).mono ?_
  rintro e u7 ⟨rfl, rfl⟩
  go_wp2_with fail
  refine (good_any w.heap.size (v5) _ _ _ _ o6 z6 (by omega)).mono ?_
  rintro e w7 ⟨v7, rfl, o7, g7⟩
  have l7 := len_app l6 (hdE k n m) (hdR k n m)
  have b7 := b6.trans g7
  have z7 := b7.size
  clear g7 l6 o6 b6 z6
  generalize (((((((([] : List Int) ++ opt (fixE x) (fixR x)) ++ opt (fixE y) (fixR y)) ++ opt (charE c) (charR c)) ++ opt (charE d) (charR d)) ++ opt (atE t a) (atR t a)) ++ []) ++ opt (hdE k n m) (hdR k n m)) = L at o7 l7 lAll
  have hml : L.length + 7 ≤ maxLen := Nat.le_trans (Nat.add_le_add_right l7 7) (by unfold maxLen; omega)
  go_wp2_with (at_builtin; refine wpList_append_own _ rfl _ _ 51 rfl w.heap.size 23 i0 (.int .u64 0) 1 8 Try.underlying51 hi hz0 hz1 hz2 rfl (by decide) v7 _ _ rfl (World.ownsRow.alloc o7 _) ⟨w7.heap.size, 0, none⟩ 7 7 [.int .u64 4, .int .u64 12, .int .u64 20, .int .u64 28, .int .u64 36, .int .u64 44, .int .u64 52] rfl rfl ?c1 ?c2 hml ?c4 ?c5 ?_)
  case c1 => exact seven_new w7
  case c2 =>
    intro u hu
    simp only [List.mem_cons, List.not_mem_nil, or_false] at hu
    rcases hu with rfl | rfl | rfl | rfl | rfl | rfl | rfl <;> rfl
  case c4 => exact Nat.le_trans (Nat.mul_le_mul_right 8 (Nat.add_le_add_right l7 7)) (by decide)
  case c5 => simp; omega
  intro v' w8 hown' hgrow hne
  have b8 := b7.trans (own_grown o7 z7 _ rfl hgrow)
  have o8 := own_seven hown'
  generalize L ++ [4, 12, 20, 28, 36, 44, 52] = M at o8 lAll
  clear hown' hgrow o7 b7 z7 l7 hml hi hz0 hz1 hz2
  obtain ⟨g, cap, hv, hcap, hmax, R8⟩ := own_at o8 hne
  clear o8 hne
  rw [hv]
  have hm9 : M.length ≤ 9223372036854775807 := by unfold maxLen at hmax; omega
  have hc9 : (M.length : Int) ≤ 9223372036854775807 := by omega
  clear hv hmax
  go_wp2
  go_loopw [24] (fun i wr => ∃ j : Nat, j ≤ M.length ∧ i = .int .i64 (j : Int) ∧ Row wr g M ∧ Below w.heap.size w wr) (fun i _ => M.length - (intOf i).toNat)
  case atStart => exact ⟨0, Nat.zero_le _, rfl, R8, b8⟩
  case round =>
    obtain ⟨j, hj, rfl, R, B⟩ := hrel
    clear R8 b8
    by_cases hlt : j < M.length
    · have hcj := R.cell j hlt
      obtain ⟨p0, p1, pm⟩ := all_at lAll.out hlt
      go_wp2_with (go_at_call 14; refine (may_any _ p0 p1 true pm _).mono ?_; rintro e w9 ⟨rfl, hb9⟩)
      have R9 := R.below hb9
      have B9 := B.trans (hb9.mono B.size)
      clear R B hb9
      obtain ⟨wo, rfl⟩ : ∃ wo : World, wo = wr := ⟨_, rfl⟩
      go_loopw [25] (fun i wr => ∃ l : Nat, l ≤ j ∧ i = .int .i64 (l : Int) ∧ Row wr g M ∧ Below w.heap.size w wr) (fun i _ => j - (intOf i).toNat)
      case atStart => exact ⟨0, Nat.zero_le _, rfl, R9, B9⟩
      case round =>
        obtain ⟨l, hl, rfl, R, B⟩ := hrel
        clear R9 B9 hcj
        by_cases hlj : l < j
        · have hcl := R.cell l (by omega)
          have hcj := R.cell j hlt
          have hne := apart_at lAll.out hlj hlt
          go_wp2
          go_quiet (fail)
          go_wp2
          go_roundw
          case rel => exact ⟨l + 1, by omega, by go_num, R.drewN _, below_drewN B _⟩
          case measure => simp [intOf]; omega
        · obtain rfl : l = j := by omega
          go_wp2
          go_roundw
          case rel => exact ⟨l + 1, by omega, by go_num, R, B⟩
          case measure => simp [intOf]; omega
    · obtain rfl : j = M.length := by omega
      go_wp2_with (go_at_call 17; refine (awake_any _).mono ?_; rintro e w9 ⟨rfl, hb9⟩)
      go_ret
      exact ⟨rfl, B.trans (hb9.mono B.size)⟩
set_option maxRecDepth 100000 in
set_option maxHeartbeats 2000000 in
theorem walk_tft (x y c d t a o k n m : Int) (hxy : (x != y) = true) (hcd : (c != d) = false) (hao : (a != o) = true)
    (c0 : -2147483648 ≤ c) (c1 : c ≤ 2147483647) (t0 : -9223372036854775808 ≤ t) (t1 : t ≤ 9223372036854775807)
    (k0 : -9223372036854775808 ≤ k) (k1 : k ≤ 9223372036854775807) (n0 : -9223372036854775808 ≤ n) (n1 : n ≤ 9223372036854775807) (m0 : 0 ≤ m) (w : World) :
    Calls Try.prog 8 #[.int .i64 x, .int .i64 y, .int .i32 c, .int .i32 d, .int .i64 t, .int .i64 a, .int .i64 o, .int .i64 k, .int .i64 n, .int .u64 m] w fun e w' => e = .returned (.bool true) ∧ Below w.heap.size w w' := by
  obtain ⟨i0, hi, hz0, hz1, hz2⟩ := info_parts info23
  have lF := Lib.hid (lst_fix2 x y (by simpa using hxy))
  have lC := Lib.hid (Lst.none (Lst.char lF.out c c0 c1) 1 (Nat.le_refl _))
  have lA := Lib.hid (Lst.at2 lC.out t a o (by simpa using hao))
  have lH := Lib.hid ((lA.out).head k n m k0 k1 n0 n1 m0)
  have lAll := Lib.hid (lH.out).all
  clear lF lC lA lH
  have l0 : ([] : List Int).length ≤ 0 := Nat.le_refl _
  go_enter Try.func8, Try.ntmps8
  go_wp2_with fail
  refine (fix_b x _).mono ?_
  rintro e u1 ⟨rfl, rfl⟩
  go_wp2_with fail
  refine (good_any w.heap.size (.slice none 0 0) _ _ _ _ (own_nil _ _) (Nat.le_refl _) (by omega)).mono ?_
  rintro e w1 ⟨v1, rfl, o1, g1⟩
  have l1 := len_app l0 (fixE x) (fixR x)
  have b1 := g1
  have z1 := b1.size
  clear g1 l0
  go_wp2_with fail
  refine (fix_b y _).mono ?_
  rintro e u2 ⟨rfl, rfl⟩
  go_wp2_with fail
  refine (good_any w.heap.size (v1) _ _ _ _ o1 z1 (by omega)).mono ?_
  rintro e w2 ⟨v2, rfl, o2, g2⟩
  have l2 := len_app l1 (fixE y) (fixR y)
  have b2 := b1.trans g2
  have z2 := b2.size
  clear g2 l1 o1 b1 z1
  go_wp2_with fail
  refine (char_b c c0 c1 _).mono ?_
  rintro e u3 ⟨rfl, rfl⟩
  go_wp2_with fail
  refine (good_any w.heap.size (v2) _ _ _ _ o2 z2 (by omega)).mono ?_
  rintro e w3 ⟨v3, rfl, o3, g3⟩
  have l3 := len_app l2 (charE c) (charR c)
  have b3 := b2.trans g3
  have z3 := b3.size
  clear g3 l2 o2 b2 z2
  have o4 := own_skip o3
  clear o3
  have l4 : (((((([] : List Int) ++ opt (fixE x) (fixR x)) ++ opt (fixE y) (fixR y)) ++ opt (charE c) (charR c)) ++ [])).length ≤ 3 := by rw [List.append_nil]; exact l3
  clear l3
  have b4 := b3
  have z4 := z3
  clear b3 z3
  go_wp2_with fail
  refine (at_both t a t0 t1 _).mono ?_
  rintro e u5 ⟨rfl, q5⟩
  have p5 := own_below o4 q5
  have r5 := b4.trans (q5.mono z4)
  have s5 := r5.size
  clear o4 b4 z4 q5
  go_wp2_with fail
  refine (good_any w.heap.size (v3) _ _ _ _ p5 s5 (by omega)).mono ?_
  rintro e w5 ⟨v5, rfl, o5, g5⟩
  have l5 := len_app l4 (atE t a) (atR t a)
  have b5 := r5.trans g5
  have z5 := b5.size
  clear g5 l4 p5 r5 s5
  go_wp2_with fail
  refine (at_both t o t0 t1 _).mono ?_
  rintro e u6 ⟨rfl, q6⟩
  have p6 := own_below o5 q6
  have r6 := b5.trans (q6.mono z5)
  have s6 := r6.size
  clear o5 b5 z5 q6
  go_wp2_with fail
  refine (good_any w.heap.size (v5) _ _ _ _ p6 s6 (by omega)).mono ?_
  rintro e w6 ⟨v6, rfl, o6, g6⟩
  have l6 := len_app l5 (atE t o) (atR t o)
  have b6 := r6.trans g6
  have z6 := b6.size
  clear g6 l5 p6 r6 s6
  go_wp2_with fail
  refine (header_b k n m k0 k1 n0 n1 m0 _).mono ?_
  rintro e u7 ⟨rfl, rfl⟩
  go_wp2_with fail
  refine (good_any w.heap.size (v6) _ _ _ _ o6 z6 (by omega)).mono ?_
  rintro e w7 ⟨v7, rfl, o7, g7⟩
  have l7 := len_app l6 (hdE k n m) (hdR k n m)
  have b7 := b6.trans g7
  have z7 := b7.size
  clear g7 l6 o6 b6 z6
  generalize (((((((([] : List Int) ++ opt (fixE x) (fixR x)) ++ opt (fixE y) (fixR y)) ++ opt (charE c) (charR c)) ++ []) ++ opt (atE t a) (atR t a)) ++ opt (atE t o) (atR t o)) ++ opt (hdE k n m) (hdR k n m)) = L at o7 l7 lAll
  have hml : L.length + 7 ≤ maxLen := Nat.le_trans (Nat.add_le_add_right l7 7) (by unfold maxLen; omega)
  go_wp2_with (at_builtin; refine wpList_append_own _ rfl _ _ 51 rfl w.heap.size 23 i0 (.int .u64 0) 1 8 Try.underlying51 hi hz0 hz1 hz2 rfl (by decide) v7 _ _ rfl (World.ownsRow.alloc o7 _) ⟨w7.heap.size, 0, none⟩ 7 7 [.int .u64 4, .int .u64 12, .int .u64 20, .int .u64 28, .int .u64 36, .int .u64 44, .int .u64 52] rfl rfl ?c1 ?c2 hml ?c4 ?c5 ?_)
  case c1 => exact seven_new w7
  case c2 =>
    intro u hu
    simp only [List.mem_cons, List.not_mem_nil, or_false] at hu
    rcases hu with rfl | rfl | rfl | rfl | rfl | rfl | rfl <;> rfl
  case c4 => exact Nat.le_trans (Nat.mul_le_mul_right 8 (Nat.add_le_add_right l7 7)) (by decide)
  case c5 => simp; omega
  intro v' w8 hown' hgrow hne
  have b8 := b7.trans (own_grown o7 z7 _ rfl hgrow)
  have o8 := own_seven hown'
  generalize L ++ [4, 12, 20, 28, 36, 44, 52] = M at o8 lAll
  clear hown' hgrow o7 b7 z7 l7 hml hi hz0 hz1 hz2
  obtain ⟨g, cap, hv, hcap, hmax, R8⟩ := own_at o8 hne
  clear o8 hne
  rw [hv]
  have hm9 : M.length ≤ 9223372036854775807 := by unfold maxLen at hmax; omega
  have hc9 : (M.length : Int) ≤ 9223372036854775807 := by omega
  clear hv hmax
  go_wp2
  go_loopw [24] (fun i wr => ∃ j : Nat, j ≤ M.length ∧ i = .int .i64 (j : Int) ∧ Row wr g M ∧ Below w.heap.size w wr) (fun i _ => M.length - (intOf i).toNat)
  case atStart => exact ⟨0, Nat.zero_le _, rfl, R8, b8⟩
  case round =>
    obtain ⟨j, hj, rfl, R, B⟩ := hrel
    clear R8 b8
    by_cases hlt : j < M.length
    · have hcj := R.cell j hlt
      obtain ⟨p0, p1, pm⟩ := all_at lAll.out hlt
      go_wp2_with (go_at_call 14; refine (may_any _ p0 p1 true pm _).mono ?_; rintro e w9 ⟨rfl, hb9⟩)
      have R9 := R.below hb9
      have B9 := B.trans (hb9.mono B.size)
      clear R B hb9
      obtain ⟨wo, rfl⟩ : ∃ wo : World, wo = wr := ⟨_, rfl⟩
      go_loopw [25] (fun i wr => ∃ l : Nat, l ≤ j ∧ i = .int .i64 (l : Int) ∧ Row wr g M ∧ Below w.heap.size w wr) (fun i _ => j - (intOf i).toNat)
      case atStart => exact ⟨0, Nat.zero_le _, rfl, R9, B9⟩
      case round =>
        obtain ⟨l, hl, rfl, R, B⟩ := hrel
        clear R9 B9 hcj
        by_cases hlj : l < j
        · have hcl := R.cell l (by omega)
          have hcj := R.cell j hlt
          have hne := apart_at lAll.out hlj hlt
          go_wp2
          go_quiet (fail)
          go_wp2
          go_roundw
          case rel => exact ⟨l + 1, by omega, by go_num, R.drewN _, below_drewN B _⟩
          case measure => simp [intOf]; omega
        · obtain rfl : l = j := by omega
          go_wp2
          go_roundw
          case rel => exact ⟨l + 1, by omega, by go_num, R, B⟩
          case measure => simp [intOf]; omega
    · obtain rfl : j = M.length := by omega
      go_wp2_with (go_at_call 17; refine (awake_any _).mono ?_; rintro e w9 ⟨rfl, hb9⟩)
      go_ret
      exact ⟨rfl, B.trans (hb9.mono B.size)⟩
set_option maxRecDepth 100000 in
set_option maxHeartbeats 2000000 in
theorem walk_tff (x y c d t a o k n m : Int) (hxy : (x != y) = true) (hcd : (c != d) = false) (hao : (a != o) = false)
    (c0 : -2147483648 ≤ c) (c1 : c ≤ 2147483647) (t0 : -9223372036854775808 ≤ t) (t1 : t ≤ 9223372036854775807)
    (k0 : -9223372036854775808 ≤ k) (k1 : k ≤ 9223372036854775807) (n0 : -9223372036854775808 ≤ n) (n1 : n ≤ 9223372036854775807) (m0 : 0 ≤ m) (w : World) :
    Calls Try.prog 8 #[.int .i64 x, .int .i64 y, .int .i32 c, .int .i32 d, .int .i64 t, .int .i64 a, .int .i64 o, .int .i64 k, .int .i64 n, .int .u64 m] w fun e w' => e = .returned (.bool true) ∧ Below w.heap.size w w' := by
  obtain ⟨i0, hi, hz0, hz1, hz2⟩ := info_parts info23
  have lF := Lib.hid (lst_fix2 x y (by simpa using hxy))
  have lC := Lib.hid (Lst.none (Lst.char lF.out c c0 c1) 1 (Nat.le_refl _))
  have lA := Lib.hid (Lst.none (Lst.at lC.out t a) 2 (Nat.le_refl _))
  have lH := Lib.hid ((lA.out).head k n m k0 k1 n0 n1 m0)
  have lAll := Lib.hid (lH.out).all
  clear lF lC lA lH
  have l0 : ([] : List Int).length ≤ 0 := Nat.le_refl _
  go_enter Try.func8, Try.ntmps8
  go_wp2_with fail
  refine (fix_b x _).mono ?_
  rintro e u1 ⟨rfl, rfl⟩
  go_wp2_with fail
  refine (good_any w.heap.size (.slice none 0 0) _ _ _ _ (own_nil _ _) (Nat.le_refl _) (by omega)).mono ?_
  rintro e w1 ⟨v1, rfl, o1, g1⟩
  have l1 := len_app l0 (fixE x) (fixR x)
  have b1 := g1
  have z1 := b1.size
  clear g1 l0
  go_wp2_with fail
  refine (fix_b y _).mono ?_
  rintro e u2 ⟨rfl, rfl⟩
  go_wp2_with fail
  refine (good_any w.heap.size (v1) _ _ _ _ o1 z1 (by omega)).mono ?_
  rintro e w2 ⟨v2, rfl, o2, g2⟩
  have l2 := len_app l1 (fixE y) (fixR y)
  have b2 := b1.trans g2
  have z2 := b2.size
  clear g2 l1 o1 b1 z1
  go_wp2_with fail
  refine (char_b c c0 c1 _).mono ?_
  rintro e u3 ⟨rfl, rfl⟩
  go_wp2_with fail
  refine (good_any w.heap.size (v2) _ _ _ _ o2 z2 (by omega)).mono ?_
  rintro e w3 ⟨v3, rfl, o3, g3⟩
  have l3 := len_app l2 (charE c) (charR c)
  have b3 := b2.trans g3
  have z3 := b3.size
  clear g3 l2 o2 b2 z2
  have o4 := own_skip o3
  clear o3
  have l4 : (((((([] : List Int) ++ opt (fixE x) (fixR x)) ++ opt (fixE y) (fixR y)) ++ opt (charE c) (charR c)) ++ [])).length ≤ 3 := by rw [List.append_nil]; exact l3
  clear l3
  have b4 := b3
  have z4 := z3
  clear b3 z3
  go_wp2_with fail
  refine (at_both t a t0 t1 _).mono ?_
  rintro e u5 ⟨rfl, q5⟩
  have p5 := own_below o4 q5
  have r5 := b4.trans (q5.mono z4)
  have s5 := r5.size
  clear o4 b4 z4 q5
  go_wp2_with fail
  refine (good_any w.heap.size (v3) _ _ _ _ p5 s5 (by omega)).mono ?_
  rintro e w5 ⟨v5, rfl, o5, g5⟩
  have l5 := len_app l4 (atE t a) (atR t a)
  have b5 := r5.trans g5
  have z5 := b5.size
  clear g5 l4 p5 r5 s5
  have o6 := own_skip o5
  clear o5
  have l6 : (((((((([] : List Int) ++ opt (fixE x) (fixR x)) ++ opt (fixE y) (fixR y)) ++ opt (charE c) (charR c)) ++ []) ++ opt (atE t a) (atR t a)) ++ [])).length ≤ 4 := by rw [List.append_nil]; exact l5
  clear l5
  have b6 := b5
  have z6 := z5
  clear b5 z5
  go_wp2_with fail
  refine (header_b k n m k0 k1 n0 n1 m0 _).mono ?_
  rintro e u7 ⟨rfl, rfl⟩
  go_wp2_with fail
  refine (good_any w.heap.size (v5) _ _ _ _ o6 z6 (by omega)).mono ?_
  rintro e w7 ⟨v7, rfl, o7, g7⟩
  have l7 := len_app l6 (hdE k n m) (hdR k n m)
  have b7 := b6.trans g7
  have z7 := b7.size
  clear g7 l6 o6 b6 z6
  generalize (((((((([] : List Int) ++ opt (fixE x) (fixR x)) ++ opt (fixE y) (fixR y)) ++ opt (charE c) (charR c)) ++ []) ++ opt (atE t a) (atR t a)) ++ []) ++ opt (hdE k n m) (hdR k n m)) = L at o7 l7 lAll
  have hml : L.length + 7 ≤ maxLen := Nat.le_trans (Nat.add_le_add_right l7 7) (by unfold maxLen; omega)
  go_wp2_with (at_builtin; refine wpList_append_own _ rfl _ _ 51 rfl w.heap.size 23 i0 (.int .u64 0) 1 8 Try.underlying51 hi hz0 hz1 hz2 rfl (by decide) v7 _ _ rfl (World.ownsRow.alloc o7 _) ⟨w7.heap.size, 0, none⟩ 7 7 [.int .u64 4, .int .u64 12, .int .u64 20, .int .u64 28, .int .u64 36, .int .u64 44, .int .u64 52] rfl rfl ?c1 ?c2 hml ?c4 ?c5 ?_)
  case c1 => exact seven_new w7
  case c2 =>
    intro u hu
    simp only [List.mem_cons, List.not_mem_nil, or_false] at hu
    rcases hu with rfl | rfl | rfl | rfl | rfl | rfl | rfl <;> rfl
  case c4 => exact Nat.le_trans (Nat.mul_le_mul_right 8 (Nat.add_le_add_right l7 7)) (by decide)
  case c5 => simp; omega
  intro v' w8 hown' hgrow hne
  have b8 := b7.trans (own_grown o7 z7 _ rfl hgrow)
  have o8 := own_seven hown'
  generalize L ++ [4, 12, 20, 28, 36, 44, 52] = M at o8 lAll
  clear hown' hgrow o7 b7 z7 l7 hml hi hz0 hz1 hz2
  obtain ⟨g, cap, hv, hcap, hmax, R8⟩ := own_at o8 hne
  clear o8 hne
  rw [hv]
  have hm9 : M.length ≤ 9223372036854775807 := by unfold maxLen at hmax; omega
  have hc9 : (M.length : Int) ≤ 9223372036854775807 := by omega
  clear hv hmax
  go_wp2
  go_loopw [24] (fun i wr => ∃ j : Nat, j ≤ M.length ∧ i = .int .i64 (j : Int) ∧ Row wr g M ∧ Below w.heap.size w wr) (fun i _ => M.length - (intOf i).toNat)
  case atStart => exact ⟨0, Nat.zero_le _, rfl, R8, b8⟩
  case round =>
    obtain ⟨j, hj, rfl, R, B⟩ := hrel
    clear R8 b8
    by_cases hlt : j < M.length
    · have hcj := R.cell j hlt
      obtain ⟨p0, p1, pm⟩ := all_at lAll.out hlt
      go_wp2_with (go_at_call 14; refine (may_any _ p0 p1 true pm _).mono ?_; rintro e w9 ⟨rfl, hb9⟩)
      have R9 := R.below hb9
      have B9 := B.trans (hb9.mono B.size)
      clear R B hb9
      obtain ⟨wo, rfl⟩ : ∃ wo : World, wo = wr := ⟨_, rfl⟩
      go_loopw [25] (fun i wr => ∃ l : Nat, l ≤ j ∧ i = .int .i64 (l : Int) ∧ Row wr g M ∧ Below w.heap.size w wr) (fun i _ => j - (intOf i).toNat)
      case atStart => exact ⟨0, Nat.zero_le _, rfl, R9, B9⟩
      case round =>
        obtain ⟨l, hl, rfl, R, B⟩ := hrel
        clear R9 B9 hcj
        by_cases hlj : l < j
        · have hcl := R.cell l (by omega)
          have hcj := R.cell j hlt
          have hne := apart_at lAll.out hlj hlt
          go_wp2
          go_quiet (fail)
          go_wp2
          go_roundw
          case rel => exact ⟨l + 1, by omega, by go_num, R.drewN _, below_drewN B _⟩
          case measure => simp [intOf]; omega
        · obtain rfl : l = j := by omega
          go_wp2
          go_roundw
          case rel => exact ⟨l + 1, by omega, by go_num, R, B⟩
          case measure => simp [intOf]; omega
    · obtain rfl : j = M.length := by omega
      go_wp2_with (go_at_call 17; refine (awake_any _).mono ?_; rintro e w9 ⟨rfl, hb9⟩)
      go_ret
      exact ⟨rfl, B.trans (hb9.mono B.size)⟩
set_option maxRecDepth 100000 in
set_option maxHeartbeats 2000000 in
theorem walk_ftt (x y c d t a o k n m : Int) (hxy : (x != y) = false) (hcd : (c != d) = true) (hao : (a != o) = true)
    (c0 : -2147483648 ≤ c) (c1 : c ≤ 2147483647) (d0 : -2147483648 ≤ d) (d1 : d ≤ 2147483647) (t0 : -9223372036854775808 ≤ t) (t1 : t ≤ 9223372036854775807)
    (k0 : -9223372036854775808 ≤ k) (k1 : k ≤ 9223372036854775807) (n0 : -9223372036854775808 ≤ n) (n1 : n ≤ 9223372036854775807) (m0 : 0 ≤ m) (w : World) :
    Calls Try.prog 8 #[.int .i64 x, .int .i64 y, .int .i32 c, .int .i32 d, .int .i64 t, .int .i64 a, .int .i64 o, .int .i64 k, .int .i64 n, .int .u64 m] w fun e w' => e = .returned (.bool true) ∧ Below w.heap.size w w' := by
  obtain ⟨i0, hi, hz0, hz1, hz2⟩ := info_parts info23
  have lF := Lib.hid ((lst_fix x).none 0 (Nat.le_refl _))
  have lC := Lib.hid (Lst.char2 lF.out c d (by simpa using hcd) c0 c1 d0 d1)
  have lA := Lib.hid (Lst.at2 lC.out t a o (by simpa using hao))
  have lH := Lib.hid ((lA.out).head k n m k0 k1 n0 n1 m0)
  have lAll := Lib.hid (lH.out).all
  clear lF lC lA lH
  have l0 : ([] : List Int).length ≤ 0 := Nat.le_refl _
  go_enter Try.func8, Try.ntmps8
  go_wp2_with fail
  refine (fix_b x _).mono ?_
  rintro e u1 ⟨rfl, rfl⟩
  go_wp2_with fail
  refine (good_any w.heap.size (.slice none 0 0) _ _ _ _ (own_nil _ _) (Nat.le_refl _) (by omega)).mono ?_
  rintro e w1 ⟨v1, rfl, o1, g1⟩
  have l1 := len_app l0 (fixE x) (fixR x)
  have b1 := g1
  have z1 := b1.size
  clear g1 l0
  have o2 := own_skip o1
  clear o1
  have l2 : (((([] : List Int) ++ opt (fixE x) (fixR x)) ++ [])).length ≤ 1 := by rw [List.append_nil]; exact l1
  clear l1
  have b2 := b1
  have z2 := z1
  clear b1 z1
  go_wp2_with fail
  refine (char_b c c0 c1 _).mono ?_
  rintro e u3 ⟨rfl, rfl⟩
  go_wp2_with fail
  refine (good_any w.heap.size (v1) _ _ _ _ o2 z2 (by omega)).mono ?_
  rintro e w3 ⟨v3, rfl, o3, g3⟩
  have l3 := len_app l2 (charE c) (charR c)
  have b3 := b2.trans g3
  have z3 := b3.size
  clear g3 l2 o2 b2 z2
  go_wp2_with fail
  refine (char_b d d0 d1 _).mono ?_
  rintro e u4 ⟨rfl, rfl⟩
  go_wp2_with fail
  refine (good_any w.heap.size (v3) _ _ _ _ o3 z3 (by omega)).mono ?_
  rintro e w4 ⟨v4, rfl, o4, g4⟩
  have l4 := len_app l3 (charE d) (charR d)
  have b4 := b3.trans g4
  have z4 := b4.size
  clear g4 l3 o3 b3 z3
  go_wp2_with fail
  refine (at_both t a t0 t1 _).mono ?_
  rintro e u5 ⟨rfl, q5⟩
  have p5 := own_below o4 q5
  have r5 := b4.trans (q5.mono z4)
  have s5 := r5.size
  clear o4 b4 z4 q5
  go_wp2_with fail
  refine (good_any w.heap.size (v4) _ _ _ _ p5 s5 (by omega)).mono ?_
  rintro e w5 ⟨v5, rfl, o5, g5⟩
  have l5 := len_app l4 (atE t a) (atR t a)
  have b5 := r5.trans g5
  have z5 := b5.size
  clear g5 l4 p5 r5 s5
  go_wp2_with fail
  refine (at_both t o t0 t1 _).mono ?_
  rintro e u6 ⟨rfl, q6⟩
  have p6 := own_below o5 q6
  have r6 := b5.trans (q6.mono z5)
  have s6 := r6.size
  clear o5 b5 z5 q6
  go_wp2_with fail
  refine (good_any w.heap.size (v5) _ _ _ _ p6 s6 (by omega)).mono ?_
  rintro e w6 ⟨v6, rfl, o6, g6⟩
  have l6 := len_app l5 (atE t o) (atR t o)
  have b6 := r6.trans g6
  have z6 := b6.size
  clear g6 l5 p6 r6 s6
  go_wp2_with fail
  refine (header_b k n m k0 k1 n0 n1 m0 _).mono ?_
  rintro e u7 ⟨rfl, rfl⟩
  go_wp2_with fail
  refine (good_any w.heap.size (v6) _ _ _ _ o6 z6 (by omega)).mono ?_
  rintro e w7 ⟨v7, rfl, o7, g7⟩
  have l7 := len_app l6 (hdE k n m) (hdR k n m)
  have b7 := b6.trans g7
  have z7 := b7.size
  clear g7 l6 o6 b6 z6
  generalize (((((((([] : List Int) ++ opt (fixE x) (fixR x)) ++ []) ++ opt (charE c) (charR c)) ++ opt (charE d) (charR d)) ++ opt (atE t a) (atR t a)) ++ opt (atE t o) (atR t o)) ++ opt (hdE k n m) (hdR k n m)) = L at o7 l7 lAll
  have hml : L.length + 7 ≤ maxLen := Nat.le_trans (Nat.add_le_add_right l7 7) (by unfold maxLen; omega)
  go_wp2_with (at_builtin; refine wpList_append_own _ rfl _ _ 51 rfl w.heap.size 23 i0 (.int .u64 0) 1 8 Try.underlying51 hi hz0 hz1 hz2 rfl (by decide) v7 _ _ rfl (World.ownsRow.alloc o7 _) ⟨w7.heap.size, 0, none⟩ 7 7 [.int .u64 4, .int .u64 12, .int .u64 20, .int .u64 28, .int .u64 36, .int .u64 44, .int .u64 52] rfl rfl ?c1 ?c2 hml ?c4 ?c5 ?_)
  case c1 => exact seven_new w7
  case c2 =>
    intro u hu
    simp only [List.mem_cons, List.not_mem_nil, or_false] at hu
    rcases hu with rfl | rfl | rfl | rfl | rfl | rfl | rfl <;> rfl
  case c4 => exact Nat.le_trans (Nat.mul_le_mul_right 8 (Nat.add_le_add_right l7 7)) (by decide)
  case c5 => simp; omega
  intro v' w8 hown' hgrow hne
  have b8 := b7.trans (own_grown o7 z7 _ rfl hgrow)
  have o8 := own_seven hown'
  generalize L ++ [4, 12, 20, 28, 36, 44, 52] = M at o8 lAll
  clear hown' hgrow o7 b7 z7 l7 hml hi hz0 hz1 hz2
  obtain ⟨g, cap, hv, hcap, hmax, R8⟩ := own_at o8 hne
  clear o8 hne
  rw [hv]
  have hm9 : M.length ≤ 9223372036854775807 := by unfold maxLen at hmax; omega
  have hc9 : (M.length : Int) ≤ 9223372036854775807 := by omega
  clear hv hmax
  go_wp2
  go_loopw [24] (fun i wr => ∃ j : Nat, j ≤ M.length ∧ i = .int .i64 (j : Int) ∧ Row wr g M ∧ Below w.heap.size w wr) (fun i _ => M.length - (intOf i).toNat)
  case atStart => exact ⟨0, Nat.zero_le _, rfl, R8, b8⟩
  case round =>
    obtain ⟨j, hj, rfl, R, B⟩ := hrel
    clear R8 b8
    by_cases hlt : j < M.length
    · have hcj := R.cell j hlt
      obtain ⟨p0, p1, pm⟩ := all_at lAll.out hlt
      go_wp2_with (go_at_call 14; refine (may_any _ p0 p1 true pm _).mono ?_; rintro e w9 ⟨rfl, hb9⟩)
      have R9 := R.below hb9
      have B9 := B.trans (hb9.mono B.size)
      clear R B hb9
      obtain ⟨wo, rfl⟩ : ∃ wo : World, wo = wr := ⟨_, rfl⟩
      go_loopw [25] (fun i wr => ∃ l : Nat, l ≤ j ∧ i = .int .i64 (l : Int) ∧ Row wr g M ∧ Below w.heap.size w wr) (fun i _ => j - (intOf i).toNat)
      case atStart => exact ⟨0, Nat.zero_le _, rfl, R9, B9⟩
      case round =>
        obtain ⟨l, hl, rfl, R, B⟩ := hrel
        clear R9 B9 hcj
        by_cases hlj : l < j
        · have hcl := R.cell l (by omega)
          have hcj := R.cell j hlt
          have hne := apart_at lAll.out hlj hlt
          go_wp2
          go_quiet (fail)
          go_wp2
          go_roundw
          case rel => exact ⟨l + 1, by omega, by go_num, R.drewN _, below_drewN B _⟩
          case measure => simp [intOf]; omega
        · obtain rfl : l = j := by omega
          go_wp2
          go_roundw
          case rel => exact ⟨l + 1, by omega, by go_num, R, B⟩
          case measure => simp [intOf]; omega
    · obtain rfl : j = M.length := by omega
      go_wp2_with (go_at_call 17; refine (awake_any _).mono ?_; rintro e w9 ⟨rfl, hb9⟩)
      go_ret
      exact ⟨rfl, B.trans (hb9.mono B.size)⟩
set_option maxRecDepth 100000 in
set_option maxHeartbeats 2000000 in
theorem walk_ftf (x y c d t a o k n m : Int) (hxy : (x != y) = false) (hcd : (c != d) = true) (hao : (a != o) = false)
    (c0 : -2147483648 ≤ c) (c1 : c ≤ 2147483647) (d0 : -2147483648 ≤ d) (d1 : d ≤ 2147483647) (t0 : -9223372036854775808 ≤ t) (t1 : t ≤ 9223372036854775807)
    (k0 : -9223372036854775808 ≤ k) (k1 : k ≤ 9223372036854775807) (n0 : -9223372036854775808 ≤ n) (n1 : n ≤ 9223372036854775807) (m0 : 0 ≤ m) (w : World) :
    Calls Try.prog 8 #[.int .i64 x, .int .i64 y, .int .i32 c, .int .i32 d, .int .i64 t, .int .i64 a, .int .i64 o, .int .i64 k, .int .i64 n, .int .u64 m] w fun e w' => e = .returned (.bool true) ∧ Below w.heap.size w w' := by
  obtain ⟨i0, hi, hz0, hz1, hz2⟩ := info_parts info23
  have lF := Lib.hid ((lst_fix x).none 0 (Nat.le_refl _))
  have lC := Lib.hid (Lst.char2 lF.out c d (by simpa using hcd) c0 c1 d0 d1)
  have lA := Lib.hid (Lst.none (Lst.at lC.out t a) 2 (Nat.le_refl _))
  have lH := Lib.hid ((lA.out).head k n m k0 k1 n0 n1 m0)
  have lAll := Lib.hid (lH.out).all
  clear lF lC lA lH
  have l0 : ([] : List Int).length ≤ 0 := Nat.le_refl _
  go_enter Try.func8, Try.ntmps8
  go_wp2_with fail
  refine (fix_b x _).mono ?_
  rintro e u1 ⟨rfl, rfl⟩
  go_wp2_with fail
  refine (good_any w.heap.size (.slice none 0 0) _ _ _ _ (own_nil _ _) (Nat.le_refl _) (by omega)).mono ?_
  rintro e w1 ⟨v1, rfl, o1, g1⟩
  have l1 := len_app l0 (fixE x) (fixR x)
  have b1 := g1
  have z1 := b1.size
  clear g1 l0
  have o2 := own_skip o1
  clear o1
  have l2 : (((([] : List Int) ++ opt (fixE x) (fixR x)) ++ [])).length ≤ 1 := by rw [List.append_nil]; exact l1
  clear l1
  have b2 := b1
  have z2 := z1
  clear b1 z1
  go_wp2_with fail
  refine (char_b c c0 c1 _).mono ?_
  rintro e u3 ⟨rfl, rfl⟩
  go_wp2_with fail
  refine (good_any w.heap.size (v1) _ _ _ _ o2 z2 (by omega)).mono ?_
  rintro e w3 ⟨v3, rfl, o3, g3⟩
  have l3 := len_app l2 (charE c) (charR c)
  have b3 := b2.trans g3
  have z3 := b3.size
  clear g3 l2 o2 b2 z2
  go_wp2_with fail
  refine (char_b d d0 d1 _).mono ?_
  rintro e u4 ⟨rfl, rfl⟩
  go_wp2_with fail
  refine (good_any w.heap.size (v3) _ _ _ _ o3 z3 (by omega)).mono ?_
  rintro e w4 ⟨v4, rfl, o4, g4⟩
  have l4 := len_app l3 (charE d) (charR d)
  have b4 := b3.trans g4
  have z4 := b4.size
  clear g4 l3 o3 b3 z3
  go_wp2_with fail
  refine (at_both t a t0 t1 _).mono ?_
  rintro e u5 ⟨rfl, q5⟩
  have p5 := own_below o4 q5
  have r5 := b4.trans (q5.mono z4)
  have s5 := r5.size
  clear o4 b4 z4 q5
  go_wp2_with fail
  refine (good_any w.heap.size (v4) _ _ _ _ p5 s5 (by omega)).mono ?_
  rintro e w5 ⟨v5, rfl, o5, g5⟩
  have l5 := len_app l4 (atE t a) (atR t a)
  have b5 := r5.trans g5
  have z5 := b5.size
  clear g5 l4 p5 r5 s5
  have o6 := own_skip o5
  clear o5
  have l6 : (((((((([] : List Int) ++ opt (fixE x) (fixR x)) ++ []) ++ opt (charE c) (charR c)) ++ opt (charE d) (charR d)) ++ opt (atE t a) (atR t a)) ++ [])).length ≤ 4 := by rw [List.append_nil]; exact l5
  clear l5
  have b6 := b5
  have z6 := z5
  clear b5 z5
  go_wp2_with fail
  refine (header_b k n m k0 k1 n0 n1 m0 _).mono ?_
  rintro e u7 ⟨rfl, rfl⟩
  go_wp2_with fail
  refine (good_any w.heap.size (v5) _ _ _ _ o6 z6 (by omega)).mono ?_
  rintro e w7 ⟨v7, rfl, o7, g7⟩
  have l7 := len_app l6 (hdE k n m) (hdR k n m)
  have b7 := b6.trans g7
  have z7 := b7.size
  clear g7 l6 o6 b6 z6
  generalize (((((((([] : List Int) ++ opt (fixE x) (fixR x)) ++ []) ++ opt (charE c) (charR c)) ++ opt (charE d) (charR d)) ++ opt (atE t a) (atR t a)) ++ []) ++ opt (hdE k n m) (hdR k n m)) = L at o7 l7 lAll
  have hml : L.length + 7 ≤ maxLen := Nat.le_trans (Nat.add_le_add_right l7 7) (by unfold maxLen; omega)
  go_wp2_with (at_builtin; refine wpList_append_own _ rfl _ _ 51 rfl w.heap.size 23 i0 (.int .u64 0) 1 8 Try.underlying51 hi hz0 hz1 hz2 rfl (by decide) v7 _ _ rfl (World.ownsRow.alloc o7 _) ⟨w7.heap.size, 0, none⟩ 7 7 [.int .u64 4, .int .u64 12, .int .u64 20, .int .u64 28, .int .u64 36, .int .u64 44, .int .u64 52] rfl rfl ?c1 ?c2 hml ?c4 ?c5 ?_)
  case c1 => exact seven_new w7
  case c2 =>
    intro u hu
    simp only [List.mem_cons, List.not_mem_nil, or_false] at hu
    rcases hu with rfl | rfl | rfl | rfl | rfl | rfl | rfl <;> rfl
  case c4 => exact Nat.le_trans (Nat.mul_le_mul_right 8 (Nat.add_le_add_right l7 7)) (by decide)
  case c5 => simp; omega
  intro v' w8 hown' hgrow hne
  have b8 := b7.trans (own_grown o7 z7 _ rfl hgrow)
  have o8 := own_seven hown'
  generalize L ++ [4, 12, 20, 28, 36, 44, 52] = M at o8 lAll
  clear hown' hgrow o7 b7 z7 l7 hml hi hz0 hz1 hz2
  obtain ⟨g, cap, hv, hcap, hmax, R8⟩ := own_at o8 hne
  clear o8 hne
  rw [hv]
  have hm9 : M.length ≤ 9223372036854775807 := by unfold maxLen at hmax; omega
  have hc9 : (M.length : Int) ≤ 9223372036854775807 := by omega
  clear hv hmax
  go_wp2
  go_loopw [24] (fun i wr => ∃ j : Nat, j ≤ M.length ∧ i = .int .i64 (j : Int) ∧ Row wr g M ∧ Below w.heap.size w wr) (fun i _ => M.length - (intOf i).toNat)
  case atStart => exact ⟨0, Nat.zero_le _, rfl, R8, b8⟩
  case round =>
    obtain ⟨j, hj, rfl, R, B⟩ := hrel
    clear R8 b8
    by_cases hlt : j < M.length
    · have hcj := R.cell j hlt
      obtain ⟨p0, p1, pm⟩ := all_at lAll.out hlt
      go_wp2_with (go_at_call 14; refine (may_any _ p0 p1 true pm _).mono ?_; rintro e w9 ⟨rfl, hb9⟩)
      have R9 := R.below hb9
      have B9 := B.trans (hb9.mono B.size)
      clear R B hb9
      obtain ⟨wo, rfl⟩ : ∃ wo : World, wo = wr := ⟨_, rfl⟩
      go_loopw [25] (fun i wr => ∃ l : Nat, l ≤ j ∧ i = .int .i64 (l : Int) ∧ Row wr g M ∧ Below w.heap.size w wr) (fun i _ => j - (intOf i).toNat)
      case atStart => exact ⟨0, Nat.zero_le _, rfl, R9, B9⟩
      case round =>
        obtain ⟨l, hl, rfl, R, B⟩ := hrel
        clear R9 B9 hcj
        by_cases hlj : l < j
        · have hcl := R.cell l (by omega)
          have hcj := R.cell j hlt
          have hne := apart_at lAll.out hlj hlt
          go_wp2
          go_quiet (fail)
          go_wp2
          go_roundw
          case rel => exact ⟨l + 1, by omega, by go_num, R.drewN _, below_drewN B _⟩
          case measure => simp [intOf]; omega
        · obtain rfl : l = j := by omega
          go_wp2
          go_roundw
          case rel => exact ⟨l + 1, by omega, by go_num, R, B⟩
          case measure => simp [intOf]; omega
    · obtain rfl : j = M.length := by omega
      go_wp2_with (go_at_call 17; refine (awake_any _).mono ?_; rintro e w9 ⟨rfl, hb9⟩)
      go_ret
      exact ⟨rfl, B.trans (hb9.mono B.size)⟩
set_option maxRecDepth 100000 in
set_option maxHeartbeats 2000000 in
theorem walk_fft (x y c d t a o k n m : Int) (hxy : (x != y) = false) (hcd : (c != d) = false) (hao : (a != o) = true)
    (c0 : -2147483648 ≤ c) (c1 : c ≤ 2147483647) (t0 : -9223372036854775808 ≤ t) (t1 : t ≤ 9223372036854775807)
    (k0 : -9223372036854775808 ≤ k) (k1 : k ≤ 9223372036854775807) (n0 : -9223372036854775808 ≤ n) (n1 : n ≤ 9223372036854775807) (m0 : 0 ≤ m) (w : World) :
    Calls Try.prog 8 #[.int .i64 x, .int .i64 y, .int .i32 c, .int .i32 d, .int .i64 t, .int .i64 a, .int .i64 o, .int .i64 k, .int .i64 n, .int .u64 m] w fun e w' => e = .returned (.bool true) ∧ Below w.heap.size w w' := by
  obtain ⟨i0, hi, hz0, hz1, hz2⟩ := info_parts info23
  have lF := Lib.hid ((lst_fix x).none 0 (Nat.le_refl _))
  have lC := Lib.hid (Lst.none (Lst.char lF.out c c0 c1) 1 (Nat.le_refl _))
  have lA := Lib.hid (Lst.at2 lC.out t a o (by simpa using hao))
  have lH := Lib.hid ((lA.out).head k n m k0 k1 n0 n1 m0)
  have lAll := Lib.hid (lH.out).all
  clear lF lC lA lH
  have l0 : ([] : List Int).length ≤ 0 := Nat.le_refl _
  go_enter Try.func8, Try.ntmps8
  go_wp2_with fail
  refine (fix_b x _).mono ?_
  rintro e u1 ⟨rfl, rfl⟩
  go_wp2_with fail
  refine (good_any w.heap.size (.slice none 0 0) _ _ _ _ (own_nil _ _) (Nat.le_refl _) (by omega)).mono ?_
  rintro e w1 ⟨v1, rfl, o1, g1⟩
  have l1 := len_app l0 (fixE x) (fixR x)
  have b1 := g1
  have z1 := b1.size
  clear g1 l0
  have o2 := own_skip o1
  clear o1
  have l2 : (((([] : List Int) ++ opt (fixE x) (fixR x)) ++ [])).length ≤ 1 := by rw [List.append_nil]; exact l1
  clear l1
  have b2 := b1
  have z2 := z1
  clear b1 z1
  go_wp2_with fail
  refine (char_b c c0 c1 _).mono ?_
  rintro e u3 ⟨rfl, rfl⟩
  go_wp2_with fail
  refine (good_any w.heap.size (v1) _ _ _ _ o2 z2 (by omega)).mono ?_
  rintro e w3 ⟨v3, rfl, o3, g3⟩
  have l3 := len_app l2 (charE c) (charR c)
  have b3 := b2.trans g3
  have z3 := b3.size
  clear g3 l2 o2 b2 z2
  have o4 := own_skip o3
  clear o3
  have l4 : (((((([] : List Int) ++ opt (fixE x) (fixR x)) ++ []) ++ opt (charE c) (charR c)) ++ [])).length ≤ 2 := by rw [List.append_nil]; exact l3
  clear l3
  have b4 := b3
  have z4 := z3
  clear b3 z3
  go_wp2_with fail
  refine (at_both t a t0 t1 _).mono ?_
  rintro e u5 ⟨rfl, q5⟩
  have p5 := own_below o4 q5
  have r5 := b4.trans (q5.mono z4)
  have s5 := r5.size
  clear o4 b4 z4 q5
  go_wp2_with fail
  refine (good_any w.heap.size (v3) _ _ _ _ p5 s5 (by omega)).mono ?_
  rintro e w5 ⟨v5, rfl, o5, g5⟩
  have l5 := len_app l4 (atE t a) (atR t a)
  have b5 := r5.trans g5
  have z5 := b5.size
  clear g5 l4 p5 r5 s5
  go_wp2_with fail
  refine (at_both t o t0 t1 _).mono ?_
  rintro e u6 ⟨rfl, q6⟩
  have p6 := own_below o5 q6
  have r6 := b5.trans (q6.mono z5)
  have s6 := r6.size
  clear o5 b5 z5 q6
  go_wp2_with fail
  refine (good_any w.heap.size (v5) _ _ _ _ p6 s6 (by omega)).mono ?_
  rintro e w6 ⟨v6, rfl, o6, g6⟩
  have l6 := len_app l5 (atE t o) (atR t o)
  have b6 := r6.trans g6
  have z6 := b6.size
  clear g6 l5 p6 r6 s6
  go_wp2_with fail
  refine (header_b k n m k0 k1 n0 n1 m0 _).mono ?_
  rintro e u7 ⟨rfl, rfl⟩
  go_wp2_with fail
  refine (good_any w.heap.size (v6) _ _ _ _ o6 z6 (by omega)).mono ?_
  rintro e w7 ⟨v7, rfl, o7, g7⟩
  have l7 := len_app l6 (hdE k n m) (hdR k n m)
  have b7 := b6.trans g7
  have z7 := b7.size
  clear g7 l6 o6 b6 z6
  generalize (((((((([] : List Int) ++ opt (fixE x) (fixR x)) ++ []) ++ opt (charE c) (charR c)) ++ []) ++ opt (atE t a) (atR t a)) ++ opt (atE t o) (atR t o)) ++ opt (hdE k n m) (hdR k n m)) = L at o7 l7 lAll
  have hml : L.length + 7 ≤ maxLen := Nat.le_trans (Nat.add_le_add_right l7 7) (by unfold maxLen; omega)
  go_wp2_with (at_builtin; refine wpList_append_own _ rfl _ _ 51 rfl w.heap.size 23 i0 (.int .u64 0) 1 8 Try.underlying51 hi hz0 hz1 hz2 rfl (by decide) v7 _ _ rfl (World.ownsRow.alloc o7 _) ⟨w7.heap.size, 0, none⟩ 7 7 [.int .u64 4, .int .u64 12, .int .u64 20, .int .u64 28, .int .u64 36, .int .u64 44, .int .u64 52] rfl rfl ?c1 ?c2 hml ?c4 ?c5 ?_)
  case c1 => exact seven_new w7
  case c2 =>
    intro u hu
    simp only [List.mem_cons, List.not_mem_nil, or_false] at hu
    rcases hu with rfl | rfl | rfl | rfl | rfl | rfl | rfl <;> rfl
  case c4 => exact Nat.le_trans (Nat.mul_le_mul_right 8 (Nat.add_le_add_right l7 7)) (by decide)
  case c5 => simp; omega
  intro v' w8 hown' hgrow hne
  have b8 := b7.trans (own_grown o7 z7 _ rfl hgrow)
  have o8 := own_seven hown'
  generalize L ++ [4, 12, 20, 28, 36, 44, 52] = M at o8 lAll
  clear hown' hgrow o7 b7 z7 l7 hml hi hz0 hz1 hz2
  obtain ⟨g, cap, hv, hcap, hmax, R8⟩ := own_at o8 hne
  clear o8 hne
  rw [hv]
  have hm9 : M.length ≤ 9223372036854775807 := by unfold maxLen at hmax; omega
  have hc9 : (M.length : Int) ≤ 9223372036854775807 := by omega
  clear hv hmax
  go_wp2
  go_loopw [24] (fun i wr => ∃ j : Nat, j ≤ M.length ∧ i = .int .i64 (j : Int) ∧ Row wr g M ∧ Below w.heap.size w wr) (fun i _ => M.length - (intOf i).toNat)
  case atStart => exact ⟨0, Nat.zero_le _, rfl, R8, b8⟩
  case round =>
    obtain ⟨j, hj, rfl, R, B⟩ := hrel
    clear R8 b8
    by_cases hlt : j < M.length
    · have hcj := R.cell j hlt
      obtain ⟨p0, p1, pm⟩ := all_at lAll.out hlt
      go_wp2_with (go_at_call 14; refine (may_any _ p0 p1 true pm _).mono ?_; rintro e w9 ⟨rfl, hb9⟩)
      have R9 := R.below hb9
      have B9 := B.trans (hb9.mono B.size)
      clear R B hb9
      obtain ⟨wo, rfl⟩ : ∃ wo : World, wo = wr := ⟨_, rfl⟩
      go_loopw [25] (fun i wr => ∃ l : Nat, l ≤ j ∧ i = .int .i64 (l : Int) ∧ Row wr g M ∧ Below w.heap.size w wr) (fun i _ => j - (intOf i).toNat)
      case atStart => exact ⟨0, Nat.zero_le _, rfl, R9, B9⟩
      case round =>
        obtain ⟨l, hl, rfl, R, B⟩ := hrel
        clear R9 B9 hcj
        by_cases hlj : l < j
        · have hcl := R.cell l (by omega)
          have hcj := R.cell j hlt
          have hne := apart_at lAll.out hlj hlt
          go_wp2
          go_quiet (fail)
          go_wp2
          go_roundw
          case rel => exact ⟨l + 1, by omega, by go_num, R.drewN _, below_drewN B _⟩
          case measure => simp [intOf]; omega
        · obtain rfl : l = j := by omega
          go_wp2
          go_roundw
          case rel => exact ⟨l + 1, by omega, by go_num, R, B⟩
          case measure => simp [intOf]; omega
    · obtain rfl : j = M.length := by omega
      go_wp2_with (go_at_call 17; refine (awake_any _).mono ?_; rintro e w9 ⟨rfl, hb9⟩)
      go_ret
      exact ⟨rfl, B.trans (hb9.mono B.size)⟩
set_option maxRecDepth 100000 in
set_option maxHeartbeats 2000000 in
theorem walk_fff (x y c d t a o k n m : Int) (hxy : (x != y) = false) (hcd : (c != d) = false) (hao : (a != o) = false)
    (c0 : -2147483648 ≤ c) (c1 : c ≤ 2147483647) (t0 : -9223372036854775808 ≤ t) (t1 : t ≤ 9223372036854775807)
    (k0 : -9223372036854775808 ≤ k) (k1 : k ≤ 9223372036854775807) (n0 : -9223372036854775808 ≤ n) (n1 : n ≤ 9223372036854775807) (m0 : 0 ≤ m) (w : World) :
    Calls Try.prog 8 #[.int .i64 x, .int .i64 y, .int .i32 c, .int .i32 d, .int .i64 t, .int .i64 a, .int .i64 o, .int .i64 k, .int .i64 n, .int .u64 m] w fun e w' => e = .returned (.bool true) ∧ Below w.heap.size w w' := by
  obtain ⟨i0, hi, hz0, hz1, hz2⟩ := info_parts info23
  have lF := Lib.hid ((lst_fix x).none 0 (Nat.le_refl _))
  have lC := Lib.hid (Lst.none (Lst.char lF.out c c0 c1) 1 (Nat.le_refl _))
  have lA := Lib.hid (Lst.none (Lst.at lC.out t a) 2 (Nat.le_refl _))
  have lH := Lib.hid ((lA.out).head k n m k0 k1 n0 n1 m0)
  have lAll := Lib.hid (lH.out).all
  clear lF lC lA lH
  have l0 : ([] : List Int).length ≤ 0 := Nat.le_refl _
  go_enter Try.func8, Try.ntmps8
  go_wp2_with fail
  refine (fix_b x _).mono ?_
  rintro e u1 ⟨rfl, rfl⟩
  go_wp2_with fail
  refine (good_any w.heap.size (.slice none 0 0) _ _ _ _ (own_nil _ _) (Nat.le_refl _) (by omega)).mono ?_
  rintro e w1 ⟨v1, rfl, o1, g1⟩
  have l1 := len_app l0 (fixE x) (fixR x)
  have b1 := g1
  have z1 := b1.size
  clear g1 l0
  have o2 := own_skip o1
  clear o1
  have l2 : (((([] : List Int) ++ opt (fixE x) (fixR x)) ++ [])).length ≤ 1 := by rw [List.append_nil]; exact l1
  clear l1
  have b2 := b1
  have z2 := z1
  clear b1 z1
  go_wp2_with fail
  refine (char_b c c0 c1 _).mono ?_
  rintro e u3 ⟨rfl, rfl⟩
  go_wp2_with fail
  refine (good_any w.heap.size (v1) _ _ _ _ o2 z2 (by omega)).mono ?_
  rintro e w3 ⟨v3, rfl, o3, g3⟩
  have l3 := len_app l2 (charE c) (charR c)
  have b3 := b2.trans g3
  have z3 := b3.size
  clear g3 l2 o2 b2 z2
  have o4 := own_skip o3
  clear o3
  have l4 : (((((([] : List Int) ++ opt (fixE x) (fixR x)) ++ []) ++ opt (charE c) (charR c)) ++ [])).length ≤ 2 := by rw [List.append_nil]; exact l3
  clear l3
  have b4 := b3
  have z4 := z3
  clear b3 z3
  go_wp2_with fail
  refine (at_both t a t0 t1 _).mono ?_
  rintro e u5 ⟨rfl, q5⟩
  have p5 := own_below o4 q5
  have r5 := b4.trans (q5.mono z4)
  have s5 := r5.size
  clear o4 b4 z4 q5
  go_wp2_with fail
  refine (good_any w.heap.size (v3) _ _ _ _ p5 s5 (by omega)).mono ?_
  rintro e w5 ⟨v5, rfl, o5, g5⟩
  have l5 := len_app l4 (atE t a) (atR t a)
  have b5 := r5.trans g5
  have z5 := b5.size
  clear g5 l4 p5 r5 s5
  have o6 := own_skip o5
  clear o5
  have l6 : (((((((([] : List Int) ++ opt (fixE x) (fixR x)) ++ []) ++ opt (charE c) (charR c)) ++ []) ++ opt (atE t a) (atR t a)) ++ [])).length ≤ 3 := by rw [List.append_nil]; exact l5
  clear l5
  have b6 := b5
  have z6 := z5
  clear b5 z5
  go_wp2_with fail
  refine (header_b k n m k0 k1 n0 n1 m0 _).mono ?_
  rintro e u7 ⟨rfl, rfl⟩
  go_wp2_with fail
  refine (good_any w.heap.size (v5) _ _ _ _ o6 z6 (by omega)).mono ?_
  rintro e w7 ⟨v7, rfl, o7, g7⟩
  have l7 := len_app l6 (hdE k n m) (hdR k n m)
  have b7 := b6.trans g7
  have z7 := b7.size
  clear g7 l6 o6 b6 z6
  generalize (((((((([] : List Int) ++ opt (fixE x) (fixR x)) ++ []) ++ opt (charE c) (charR c)) ++ []) ++ opt (atE t a) (atR t a)) ++ []) ++ opt (hdE k n m) (hdR k n m)) = L at o7 l7 lAll
  have hml : L.length + 7 ≤ maxLen := Nat.le_trans (Nat.add_le_add_right l7 7) (by unfold maxLen; omega)
  go_wp2_with (at_builtin; refine wpList_append_own _ rfl _ _ 51 rfl w.heap.size 23 i0 (.int .u64 0) 1 8 Try.underlying51 hi hz0 hz1 hz2 rfl (by decide) v7 _ _ rfl (World.ownsRow.alloc o7 _) ⟨w7.heap.size, 0, none⟩ 7 7 [.int .u64 4, .int .u64 12, .int .u64 20, .int .u64 28, .int .u64 36, .int .u64 44, .int .u64 52] rfl rfl ?c1 ?c2 hml ?c4 ?c5 ?_)
  case c1 => exact seven_new w7
  case c2 =>
    intro u hu
    simp only [List.mem_cons, List.not_mem_nil, or_false] at hu
    rcases hu with rfl | rfl | rfl | rfl | rfl | rfl | rfl <;> rfl
  case c4 => exact Nat.le_trans (Nat.mul_le_mul_right 8 (Nat.add_le_add_right l7 7)) (by decide)
  case c5 => simp; omega
  intro v' w8 hown' hgrow hne
  have b8 := b7.trans (own_grown o7 z7 _ rfl hgrow)
  have o8 := own_seven hown'
  generalize L ++ [4, 12, 20, 28, 36, 44, 52] = M at o8 lAll
  clear hown' hgrow o7 b7 z7 l7 hml hi hz0 hz1 hz2
  obtain ⟨g, cap, hv, hcap, hmax, R8⟩ := own_at o8 hne
  clear o8 hne
  rw [hv]
  have hm9 : M.length ≤ 9223372036854775807 := by unfold maxLen at hmax; omega
  have hc9 : (M.length : Int) ≤ 9223372036854775807 := by omega
  clear hv hmax
  go_wp2
  go_loopw [24] (fun i wr => ∃ j : Nat, j ≤ M.length ∧ i = .int .i64 (j : Int) ∧ Row wr g M ∧ Below w.heap.size w wr) (fun i _ => M.length - (intOf i).toNat)
  case atStart => exact ⟨0, Nat.zero_le _, rfl, R8, b8⟩
  case round =>
    obtain ⟨j, hj, rfl, R, B⟩ := hrel
    clear R8 b8
    by_cases hlt : j < M.length
    · have hcj := R.cell j hlt
      obtain ⟨p0, p1, pm⟩ := all_at lAll.out hlt
      go_wp2_with (go_at_call 14; refine (may_any _ p0 p1 true pm _).mono ?_; rintro e w9 ⟨rfl, hb9⟩)
      have R9 := R.below hb9
      have B9 := B.trans (hb9.mono B.size)
      clear R B hb9
      obtain ⟨wo, rfl⟩ : ∃ wo : World, wo = wr := ⟨_, rfl⟩
      go_loopw [25] (fun i wr => ∃ l : Nat, l ≤ j ∧ i = .int .i64 (l : Int) ∧ Row wr g M ∧ Below w.heap.size w wr) (fun i _ => j - (intOf i).toNat)
      case atStart => exact ⟨0, Nat.zero_le _, rfl, R9, B9⟩
      case round =>
        obtain ⟨l, hl, rfl, R, B⟩ := hrel
        clear R9 B9 hcj
        by_cases hlj : l < j
        · have hcl := R.cell l (by omega)
          have hcj := R.cell j hlt
          have hne := apart_at lAll.out hlj hlt
          go_wp2
          go_quiet (fail)
          go_wp2
          go_roundw
          case rel => exact ⟨l + 1, by omega, by go_num, R.drewN _, below_drewN B _⟩
          case measure => simp [intOf]; omega
        · obtain rfl : l = j := by omega
          go_wp2
          go_roundw
          case rel => exact ⟨l + 1, by omega, by go_num, R, B⟩
          case measure => simp [intOf]; omega
    · obtain rfl : j = M.length := by omega
      go_wp2_with (go_at_call 17; refine (awake_any _).mono ?_; rintro e w9 ⟨rfl, hb9⟩)
      go_ret
      exact ⟨rfl, B.trans (hb9.mono B.size)⟩
theorem walk (a0 : Int) (a1 : Int) (a2 : Int) (a3 : Int) (a4 : Int) (a5 : Int) (a6 : Int) (a7 : Int) (a8 : Int) (a9 : Int) (_w0 : (Lit.int .i64 a0).wf = true) (_w1 : (Lit.int .i64 a1).wf = true) (w2 : (Lit.int .i32 a2).wf = true) (w3 : (Lit.int .i32 a3).wf = true) (w4 : (Lit.int .i64 a4).wf = true) (_w5 : (Lit.int .i64 a5).wf = true) (_w6 : (Lit.int .i64 a6).wf = true) (w7 : (Lit.int .i64 a7).wf = true) (w8 : (Lit.int .i64 a8).wf = true) (w9 : (Lit.int .u64 a9).wf = true) (w : World) :
    Calls Try.prog 8 #[.int .i64 a0, .int .i64 a1, .int .i32 a2, .int .i32 a3, .int .i64 a4, .int .i64 a5, .int .i64 a6, .int .i64 a7, .int .i64 a8, .int .u64 a9] w fun e w' => e = .returned (.bool true) ∧ Below w.heap.size w w' := by
  have b2 := bounds_i32 w2
  have b3 := bounds_i32 w3
  have b4 := bounds_i64 w4
  have b7 := bounds_i64 w7
  have b8 := bounds_i64 w8
  have b9 := bounds_u64 w9
  cases e1 : (a0 != a1) <;> cases e2 : (a2 != a3) <;> cases e3 : (a5 != a6)
  · exact walk_fff a0 a1 a2 a3 a4 a5 a6 a7 a8 a9 e1 e2 e3 b2.1 b2.2 b4.1 b4.2 b7.1 b7.2 b8.1 b8.2 b9.1 w
  · exact walk_fft a0 a1 a2 a3 a4 a5 a6 a7 a8 a9 e1 e2 e3 b2.1 b2.2 b4.1 b4.2 b7.1 b7.2 b8.1 b8.2 b9.1 w
  · exact walk_ftf a0 a1 a2 a3 a4 a5 a6 a7 a8 a9 e1 e2 e3 b2.1 b2.2 b3.1 b3.2 b4.1 b4.2 b7.1 b7.2 b8.1 b8.2 b9.1 w
  · exact walk_ftt a0 a1 a2 a3 a4 a5 a6 a7 a8 a9 e1 e2 e3 b2.1 b2.2 b3.1 b3.2 b4.1 b4.2 b7.1 b7.2 b8.1 b8.2 b9.1 w
  · exact walk_tff a0 a1 a2 a3 a4 a5 a6 a7 a8 a9 e1 e2 e3 b2.1 b2.2 b4.1 b4.2 b7.1 b7.2 b8.1 b8.2 b9.1 w
  · exact walk_tft a0 a1 a2 a3 a4 a5 a6 a7 a8 a9 e1 e2 e3 b2.1 b2.2 b4.1 b4.2 b7.1 b7.2 b8.1 b8.2 b9.1 w
  · exact walk_ttf a0 a1 a2 a3 a4 a5 a6 a7 a8 a9 e1 e2 e3 b2.1 b2.2 b3.1 b3.2 b4.1 b4.2 b7.1 b7.2 b8.1 b8.2 b9.1 w
  · exact walk_ttt a0 a1 a2 a3 a4 a5 a6 a7 a8 a9 e1 e2 e3 b2.1 b2.2 b3.1 b3.2 b4.1 b4.2 b7.1 b7.2 b8.1 b8.2 b9.1 w

/-! The row's step. -/
set_option maxRecDepth 100000 in
theorem lifted (os : Os) (started : os.Started) (H : Type) (enc : TypeId × Value → H) :
    ReturnsInHanded {} Try.checked os 8 .any (Rows.wordApartSpec.pre6 enc Try.prog Try.f8 Rows.wordApartRow.domain false) (Rows.wordApartSpec.post enc Try.prog Try.f8 false true false false) := by
  refine returnsInHanded_of_change (C := Try.checked) own started (by kernel_rfl) Try.func8
    (ChangeSpec.witness6 (enc := enc) (C := Try.checked) false ⟨#[], #[.int .i64 0, .int .i64 0, .int .i32 0, .int .i32 0, .int .i64 0, .int .i64 0, .int .i64 0, .int .i64 0, .int .i64 0, .int .u64 0], []⟩ 8 (by kernel_rfl) (by kernel_rfl) (by kernel_rfl) (by kernel_rfl)) ?_
  intro W base args ds gs before hval0 hW hcnd _
  have hval : ∀ (j : Nat) t v, Try.f8.params[j]? = some t → args[j]? = some v → Value.okWide Try.prog W .any base t v := hval0
  have hW' := hW
  obtain ⟨p, q, hA0, hV, rfl, hfz, hnd⟩ := hW
  have hA : DataW.TrodAll enc Try.prog W 0 (fun _ => true) true Try.f8.params.toList args.toList ds p := hA0
  rw [Try.params8] at hA hval
  obtain ⟨v0, vs0, d0, ds0, p0, q0, hargs, rfl, rfl, h0, r0⟩ := trodAll_cons hA
  obtain ⟨v1, vs1, d1, ds1, p1, q1, rfl, rfl, rfl, h1, r1⟩ := trodAll_cons r0
  obtain ⟨v2, vs2, d2, ds2, p2, q2, rfl, rfl, rfl, h2, r2⟩ := trodAll_cons r1
  obtain ⟨v3, vs3, d3, ds3, p3, q3, rfl, rfl, rfl, h3, r3⟩ := trodAll_cons r2
  obtain ⟨v4, vs4, d4, ds4, p4, q4, rfl, rfl, rfl, h4, r4⟩ := trodAll_cons r3
  obtain ⟨v5, vs5, d5, ds5, p5, q5, rfl, rfl, rfl, h5, r5⟩ := trodAll_cons r4
  obtain ⟨v6, vs6, d6, ds6, p6, q6, rfl, rfl, rfl, h6, r6⟩ := trodAll_cons r5
  obtain ⟨v7, vs7, d7, ds7, p7, q7, rfl, rfl, rfl, h7, r7⟩ := trodAll_cons r6
  obtain ⟨v8, vs8, d8, ds8, p8, q8, rfl, rfl, rfl, h8, r8⟩ := trodAll_cons r7
  obtain ⟨v9, vs9, d9, ds9, p9, q9, rfl, rfl, rfl, h9, r9⟩ := trodAll_cons r8
  obtain ⟨rfl, rfl, rfl⟩ := trodAll_nil r9
  obtain rfl : args = #[v0, v1, v2, v3, v4, v5, v6, v7, v8, v9] := by cases args; simp_all
  obtain ⟨rfl, rfl⟩ := trodVars_none hV
  obtain ⟨a0, rfl, rfl, rfl, w0⟩ := open_int Try.underlying2 (hval 0 2 v0 rfl rfl) h0
  obtain ⟨a1, rfl, rfl, rfl, w1⟩ := open_int Try.underlying2 (hval 1 2 v1 rfl rfl) h1
  obtain ⟨a2, rfl, rfl, rfl, w2⟩ := open_int Try.underlying21 (hval 2 21 v2 rfl rfl) h2
  obtain ⟨a3, rfl, rfl, rfl, w3⟩ := open_int Try.underlying21 (hval 3 21 v3 rfl rfl) h3
  obtain ⟨a4, rfl, rfl, rfl, w4⟩ := open_int Try.underlying3 (hval 4 3 v4 rfl rfl) h4
  obtain ⟨a5, rfl, rfl, rfl, w5⟩ := open_int Try.underlying3 (hval 5 3 v5 rfl rfl) h5
  obtain ⟨a6, rfl, rfl, rfl, w6⟩ := open_int Try.underlying3 (hval 6 3 v6 rfl rfl) h6
  obtain ⟨a7, rfl, rfl, rfl, w7⟩ := open_int Try.underlying3 (hval 7 3 v7 rfl rfl) h7
  obtain ⟨a8, rfl, rfl, rfl, w8⟩ := open_int Try.underlying3 (hval 8 3 v8 rfl rfl) h8
  obtain ⟨a9, rfl, rfl, rfl, w9⟩ := open_int Try.underlying22 (hval 9 22 v9 rfl rfl) h9
  clear hA0 hval0
  simp only [List.append_nil] at hW'
  refine (walk a0 a1 a2 a3 a4 a5 a6 a7 a8 a9 w0 w1 w2 w3 w4 w5 w6 w7 w8 w9 W).mono fun e W' ⟨he, hg⟩ => ?_
  subst he
  exact ⟨_, rfl, _, _, _, [], [], [], hW', (trodAll_cons_mk (shut_bool Try.underlying4 _) trodAll_mk0), (trodAll_cons_mk (shut_int Try.underlying2 w0) (trodAll_cons_mk (shut_int Try.underlying2 w1) (trodAll_cons_mk (shut_int Try.underlying21 w2) (trodAll_cons_mk (shut_int Try.underlying21 w3) (trodAll_cons_mk (shut_int Try.underlying3 w4) (trodAll_cons_mk (shut_int Try.underlying3 w5) (trodAll_cons_mk (shut_int Try.underlying3 w6) (trodAll_cons_mk (shut_int Try.underlying3 w7) (trodAll_cons_mk (shut_int Try.underlying3 w8) (trodAll_cons_mk (shut_int Try.underlying22 w9) trodAll_mk0)))))))))), rfl, hg.frame _, fun h => by cases h⟩

theorem over : Rows.wordApartRow.holds Try.pinned (OpenSpec.ofChange Rows.wordApartSpec) :=
  OpenClaim.holds_of_wide 8 Try.f8 rfl rfl rfl rfl rfl rfl rfl ⟨rfl, rfl, rfl, rfl, rfl⟩ rfl rfl rfl rfl rfl (by kernel_rfl) Try.func8 (by kernel_rfl)
    (of_decide_eq_true (by kernel_rfl)) (by unfold Func.isWrapper; first | (rw [if_pos (by decide +kernel)]; kernel_rfl) | (rw [if_neg (by decide +kernel)]; exact ⟨rfl, rfl⟩))
    (fun os started H enc _ => lifted os started H enc)

theorem proved : Rows.WordApartSaid :=
  over
#print axioms proved
end Go.Proofs.Ytlpogdhdfopioaa.wordApart
