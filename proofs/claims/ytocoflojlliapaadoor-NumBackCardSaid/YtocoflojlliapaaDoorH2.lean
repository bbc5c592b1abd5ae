import Derived.Test.YtocoflojlliapaaDoorH1
set_option linter.unusedVariables false
namespace Go.Proofs.YtocoflojlliapaaDoor
open Go.RowKit
theorem boxes1a (w : World) (x y : Bool) : Boxed ((w.alloc (.cells #[.bool x] 4)).alloc (.cells #[.bool y] 4)).drew w.heap.size x :=
  (Below.heap_alloc _ _ w.heap.size (by simp)).trans (one_made w (.bool x) 4)
theorem boxes1b (w : World) (x y : Bool) : Boxed ((w.alloc (.cells #[.bool x] 4)).alloc (.cells #[.bool y] 4)).drew (w.heap.size + 1) y := by
  have h := one_made (w.alloc (.cells #[.bool x] 4)) (.bool y) 4
  have e : (w.alloc (.cells #[.bool x] 4)).heap.size = w.heap.size + 1 := by simp
  rw [e] at h
  exact h
set_option maxHeartbeats 3200000 in
theorem join_like_t (A1 A2 : Option Addr) (n1 c1 a n2 c2 b : Nat) (nb : Bool) (w : World) (h1 : Mag w A1 n1 c1 a) (h2 : Mag w A2 n2 c2 b) (l1 : n1 ≤ 1000) (l2 : n2 ≤ 1000) :
    Calls Tryd.prog 58 #[.agg #[.bool true, .slice A1 n1 c1], .agg #[.bool nb, .slice A2 n2 c2], .bool true] w fun e w' => Said w w' e true (a + b) := by
  obtain ⟨W, hW⟩ : ∃ W, W = ((w.alloc (.cells #[.bool true, .slice A1 n1 c1] 24)).alloc (.cells #[.bool nb, .slice A2 n2 c2] 24)).alloc (.cells #[.bool false, .slice none 0 0] 24) := ⟨_, rfl⟩
  obtain ⟨t1, t2, t3, hbW, hWs⟩ := boxes3 w _ _ _ _ _ _ W hW
  have m1 := h1.below hbW
  have m2 := h2.below hbW
  have k1 := t1.fst
  have k2 := t1.snd
  have k3 := t2.fst
  have k4 := t2.snd
  have dlb : dl b ≤ 1000 := Nat.le_trans h2.le l2
  have dla : dl a ≤ 1000 := Nat.le_trans h1.le l1
  have T2 := fun W h => Lib.hid (trim_mag A2 n2 c2 b W h (by omega))
  have T1 := fun W h => Lib.hid (trim_mag A1 n1 c1 a W h (by omega))
  go_enter Tryd.func58, Tryd.ntmps58
  go_wp2_with fail
  rw [← hW]
  have HW := Lib.hid hW
  have HWS := Lib.hid hWs
  clear hW hWs
  go_quiet ((go_at_call 54; (first | (with_reducible exact calm (trim_mag A1 n1 c1 a _ (m1.drewN _) (by omega))) | (with_reducible exact calm (trim_mag A2 n2 c2 b _ (m2.drewN _) (by omega))))))
  obtain ⟨V, hV⟩ : ∃ V, V = W.drewN nq := ⟨_, rfl⟩
  have hbV : Below w.heap.size w V := by rw [hV]; exact below_drewN hbW _
  have u1 : Two V w.heap.size 24 (.bool true) (.slice A1 n1 c1) := by rw [hV]; exact t1
  have u3 : Two V (w.heap.size + 2) 24 (.bool false) (.slice none 0 0) := by rw [hV]; exact t3
  have m1' : Mag V A1 n1 c1 a := by rw [hV]; exact m1
  have m2' : Mag V A2 n2 c2 b := by rw [hV]; exact m2
  have hVs : Hid (V.heap.size = w.heap.size + 3) := by rw [hV]; exact HWS
  rw [← hV]
  clear hV m1 m2 t1 t2 t3 k1 k2 k3 k4
  have k1 := u1.fst
  go_wp2_with fail
  go_region_held3 (fun w' => w'.cell? ⟨w.heap.size, 0, none⟩ = some (.bool true)) (go_keep)
    (first
      | (go_at_call 52; (first | (with_reducible refine (signed_any true _).mono ?_) | (with_reducible refine (signed_any false _).mono ?_)); rintro e w' ⟨rfl, rfl⟩))
  obtain ⟨X, hX⟩ : ∃ X, X = ((V.alloc (.cells #[.bool true] 4)).alloc (.cells #[.bool false] 4)).drew := ⟨_, rfl⟩
  rw [← hX]
  have hbX : Below V.heap.size V X := by rw [hX]; exact (below_al (below_al (Below.refl _ _) _) _).drew
  have xa : Boxed X V.heap.size true := by rw [hX]; exact boxes1a V _ _
  have xb : Boxed X (V.heap.size + 1) false := by rw [hX]; exact boxes1b V _ _
  have y1 := u1.below' hbX
  have y3 := u3.below' hbX
  have q1 := m1'.below hbX
  have q2 := m2'.below hbX
  clear hX u1 u3 m1' m2' k1
  have k1 := y1.fst
  have PL := fun W h h' => Lib.hid (plus_mag A1 A2 (dl a) (dl b) c1 c2 a b W h h' (by omega) (by omega))
  go_wp2_with (first
    | (go_at_call 80; refine ((PL _ q1.trim q2.trim).out).mono ?_; rintro e wp ⟨rfl, mp, bp⟩)
    | (go_at_call 79; refine (signed1_any V.heap.size true _ _ _ (a + b) _ (xa.below bp) mp (by omega)).mono ?_; rintro e ws ⟨r, A, m, c, v, rfl, ha⟩; have hbs : Below X.heap.size X ws := below_then bp ha.low; have z3 := (y3.below' hbs).fst; have z4 := (y3.below' hbs).snd; have z5 := (y3.below' hbs).free 0; have z6 := (y3.below' hbs).free 1))
  exact bodyPost_ret (v := .tuple #[.agg #[.bool r, .slice A m c], .int .i64 v]) (by simp [results, Tryd.results58, go_sem, z3, z4]) rfl
    ⟨r, A, m, c, v, rfl, ha.two (g := w.heap.size + 1 + 1) (below_then (below_then hbV hbX) bp) (by omega) (by have := hVs.out; have := hbX.size; have := bp.size; omega)⟩
set_option maxHeartbeats 3200000 in
theorem join_like_f (A1 A2 : Option Addr) (n1 c1 a n2 c2 b : Nat) (nb : Bool) (w : World) (h1 : Mag w A1 n1 c1 a) (h2 : Mag w A2 n2 c2 b) (l1 : n1 ≤ 1000) (l2 : n2 ≤ 1000) :
    Calls Tryd.prog 58 #[.agg #[.bool false, .slice A1 n1 c1], .agg #[.bool nb, .slice A2 n2 c2], .bool false] w fun e w' => Said w w' e false (a + b) := by
  obtain ⟨W, hW⟩ : ∃ W, W = ((w.alloc (.cells #[.bool false, .slice A1 n1 c1] 24)).alloc (.cells #[.bool nb, .slice A2 n2 c2] 24)).alloc (.cells #[.bool false, .slice none 0 0] 24) := ⟨_, rfl⟩
  obtain ⟨t1, t2, t3, hbW, hWs⟩ := boxes3 w _ _ _ _ _ _ W hW
  have m1 := h1.below hbW
  have m2 := h2.below hbW
  have k1 := t1.fst
  have k2 := t1.snd
  have k3 := t2.fst
  have k4 := t2.snd
  have dlb : dl b ≤ 1000 := Nat.le_trans h2.le l2
  have dla : dl a ≤ 1000 := Nat.le_trans h1.le l1
  have T2 := fun W h => Lib.hid (trim_mag A2 n2 c2 b W h (by omega))
  have T1 := fun W h => Lib.hid (trim_mag A1 n1 c1 a W h (by omega))
  go_enter Tryd.func58, Tryd.ntmps58
  go_wp2_with fail
  rw [← hW]
  have HW := Lib.hid hW
  have HWS := Lib.hid hWs
  clear hW hWs
  go_quiet ((go_at_call 54; (first | (with_reducible exact calm (trim_mag A1 n1 c1 a _ (m1.drewN _) (by omega))) | (with_reducible exact calm (trim_mag A2 n2 c2 b _ (m2.drewN _) (by omega))))))
  obtain ⟨V, hV⟩ : ∃ V, V = W.drewN nq := ⟨_, rfl⟩
  have hbV : Below w.heap.size w V := by rw [hV]; exact below_drewN hbW _
  have u1 : Two V w.heap.size 24 (.bool false) (.slice A1 n1 c1) := by rw [hV]; exact t1
  have u3 : Two V (w.heap.size + 2) 24 (.bool false) (.slice none 0 0) := by rw [hV]; exact t3
  have m1' : Mag V A1 n1 c1 a := by rw [hV]; exact m1
  have m2' : Mag V A2 n2 c2 b := by rw [hV]; exact m2
  have hVs : Hid (V.heap.size = w.heap.size + 3) := by rw [hV]; exact HWS
  rw [← hV]
  clear hV m1 m2 t1 t2 t3 k1 k2 k3 k4
  have k1 := u1.fst
  go_wp2_with fail
  go_region_held3 (fun w' => w'.cell? ⟨w.heap.size, 0, none⟩ = some (.bool false)) (go_keep)
    (first
      | (go_at_call 52; (first | (with_reducible refine (signed_any false _).mono ?_) | (with_reducible refine (signed_any true _).mono ?_)); rintro e w' ⟨rfl, rfl⟩))
  obtain ⟨X, hX⟩ : ∃ X, X = ((V.alloc (.cells #[.bool false] 4)).alloc (.cells #[.bool true] 4)).drew := ⟨_, rfl⟩
  rw [← hX]
  have hbX : Below V.heap.size V X := by rw [hX]; exact (below_al (below_al (Below.refl _ _) _) _).drew
  have xa : Boxed X V.heap.size false := by rw [hX]; exact boxes1a V _ _
  have xb : Boxed X (V.heap.size + 1) true := by rw [hX]; exact boxes1b V _ _
  have y1 := u1.below' hbX
  have y3 := u3.below' hbX
  have q1 := m1'.below hbX
  have q2 := m2'.below hbX
  clear hX u1 u3 m1' m2' k1
  have k1 := y1.fst
  have PL := fun W h h' => Lib.hid (plus_mag A1 A2 (dl a) (dl b) c1 c2 a b W h h' (by omega) (by omega))
  go_wp2_with (first
    | (go_at_call 80; refine ((PL _ q1.trim q2.trim).out).mono ?_; rintro e wp ⟨rfl, mp, bp⟩)
    | (go_at_call 79; refine (signed1_any V.heap.size false _ _ _ (a + b) _ (xa.below bp) mp (by omega)).mono ?_; rintro e ws ⟨r, A, m, c, v, rfl, ha⟩; have hbs : Below X.heap.size X ws := below_then bp ha.low; have z3 := (y3.below' hbs).fst; have z4 := (y3.below' hbs).snd; have z5 := (y3.below' hbs).free 0; have z6 := (y3.below' hbs).free 1))
  exact bodyPost_ret (v := .tuple #[.agg #[.bool r, .slice A m c], .int .i64 v]) (by simp [results, Tryd.results58, go_sem, z3, z4]) rfl
    ⟨r, A, m, c, v, rfl, ha.two (g := w.heap.size + 1 + 1) (below_then (below_then hbV hbX) bp) (by omega) (by have := hVs.out; have := hbX.size; have := bp.size; omega)⟩
set_option maxHeartbeats 3200000 in
theorem join_lt_t (A1 A2 : Option Addr) (n1 c1 a n2 c2 b : Nat) (nb : Bool) (w : World) (h1 : Mag w A1 n1 c1 a) (h2 : Mag w A2 n2 c2 b) (l1 : n1 ≤ 1000) (l2 : n2 ≤ 1000) (hc : Hid (a < b)) :
    Calls Tryd.prog 58 #[.agg #[.bool true, .slice A1 n1 c1], .agg #[.bool nb, .slice A2 n2 c2], .bool false] w fun e w' => Said w w' e false (b - a) := by
  obtain ⟨W, hW⟩ : ∃ W, W = ((w.alloc (.cells #[.bool true, .slice A1 n1 c1] 24)).alloc (.cells #[.bool nb, .slice A2 n2 c2] 24)).alloc (.cells #[.bool false, .slice none 0 0] 24) := ⟨_, rfl⟩
  obtain ⟨t1, t2, t3, hbW, hWs⟩ := boxes3 w _ _ _ _ _ _ W hW
  have m1 := h1.below hbW
  have m2 := h2.below hbW
  have k1 := t1.fst
  have k2 := t1.snd
  have k3 := t2.fst
  have k4 := t2.snd
  have dlb : dl b ≤ 1000 := Nat.le_trans h2.le l2
  have dla : dl a ≤ 1000 := Nat.le_trans h1.le l1
  have T2 := fun W h => Lib.hid (trim_mag A2 n2 c2 b W h (by omega))
  have T1 := fun W h => Lib.hid (trim_mag A1 n1 c1 a W h (by omega))
  go_enter Tryd.func58, Tryd.ntmps58
  go_wp2_with fail
  rw [← hW]
  have HW := Lib.hid hW
  have HWS := Lib.hid hWs
  clear hW hWs
  go_quiet ((go_at_call 54; (first | (with_reducible exact calm (trim_mag A1 n1 c1 a _ (m1.drewN _) (by omega))) | (with_reducible exact calm (trim_mag A2 n2 c2 b _ (m2.drewN _) (by omega))))))
  obtain ⟨V, hV⟩ : ∃ V, V = W.drewN nq := ⟨_, rfl⟩
  have hbV : Below w.heap.size w V := by rw [hV]; exact below_drewN hbW _
  have u1 : Two V w.heap.size 24 (.bool true) (.slice A1 n1 c1) := by rw [hV]; exact t1
  have u3 : Two V (w.heap.size + 2) 24 (.bool false) (.slice none 0 0) := by rw [hV]; exact t3
  have m1' : Mag V A1 n1 c1 a := by rw [hV]; exact m1
  have m2' : Mag V A2 n2 c2 b := by rw [hV]; exact m2
  have hVs : Hid (V.heap.size = w.heap.size + 3) := by rw [hV]; exact HWS
  rw [← hV]
  clear hV m1 m2 t1 t2 t3 k1 k2 k3 k4
  have k1 := u1.fst
  go_wp2_with fail
  go_region_held3 (fun w' => w'.cell? ⟨w.heap.size, 0, none⟩ = some (.bool true)) (go_keep)
    (first
      | (go_at_call 52; (first | (with_reducible refine (signed_any true _).mono ?_) | (with_reducible refine (signed_any false _).mono ?_)); rintro e w' ⟨rfl, rfl⟩))
  obtain ⟨X, hX⟩ : ∃ X, X = ((V.alloc (.cells #[.bool true] 4)).alloc (.cells #[.bool false] 4)).drew := ⟨_, rfl⟩
  rw [← hX]
  have hbX : Below V.heap.size V X := by rw [hX]; exact (below_al (below_al (Below.refl _ _) _) _).drew
  have xa : Boxed X V.heap.size true := by rw [hX]; exact boxes1a V _ _
  have xb : Boxed X (V.heap.size + 1) false := by rw [hX]; exact boxes1b V _ _
  have y1 := u1.below' hbX
  have y3 := u3.below' hbX
  have q1 := m1'.below hbX
  have q2 := m2'.below hbX
  clear hX u1 u3 m1' m2' k1
  have k1 := y1.fst
  have dlm := dl_mono (Nat.le_of_lt hc.out)
  have cN : cmpN a b = -1 := cmpN_lt hc.out
  have PL := fun W h h' => Lib.hid (minus_mag A2 A1 (dl b) (dl a) c2 c1 b a W h h' (by omega) (by omega) (Lib.hid (Nat.le_of_lt hc.out)))
  have CM : ∀ W, Mag W A1 (dl a) c1 a → Mag W A2 (dl b) c2 b → Hid (Calls Tryd.prog 57 #[.slice A1 (dl a) c1, .slice A2 (dl b) c2] W fun e w' => e = .returned (.int .i64 (cmpN a b)) ∧ Below W.heap.size W w') :=
    fun W h h' => Lib.hid ((compare_mag A1 A2 c1 c2 a b W h h' (by omega) (by omega)).mono fun e w' ⟨he, m, hm⟩ => ⟨he, by rw [hm]; exact below_drewN (Below.refl _ _) _⟩)
  rw [cN] at CM
  clear cN
  go_wp2_with (first
    | (go_at_call 57; refine ((CM _ q1.trim q2.trim).out).mono ?_; rintro e wc ⟨rfl, bc⟩; have o1 := q1.below bc; have o2 := q2.below bc; have xa' := xa.below bc; have xb' := xb.below bc)
    | (go_at_call 63; refine ((PL _ o2.trim o1.trim).out).mono ?_; rintro e wp ⟨rfl, mp, bp⟩)
    | (go_at_call 79; refine (signed1_any (V.heap.size + 1) false _ _ _ (b - a) _ (xb'.below bp) mp (by omega)).mono ?_; rintro e ws ⟨r, A, m, c, v, rfl, ha⟩; have hbs : Below X.heap.size X ws := below_then bc (below_then bp ha.low); have z3 := (y3.below' hbs).fst; have z4 := (y3.below' hbs).snd; have z5 := (y3.below' hbs).free 0; have z6 := (y3.below' hbs).free 1))
  exact bodyPost_ret (v := .tuple #[.agg #[.bool r, .slice A m c], .int .i64 v]) (by simp [results, Tryd.results58, go_sem, z3, z4]) rfl
    ⟨r, A, m, c, v, rfl, ha.two (g := w.heap.size + 1 + 1) (below_then (below_then (below_then hbV hbX) bc) bp) (by omega) (by have := hVs.out; have := hbX.size; have := bc.size; have := bp.size; omega)⟩
set_option maxHeartbeats 3200000 in
theorem join_lt_f (A1 A2 : Option Addr) (n1 c1 a n2 c2 b : Nat) (nb : Bool) (w : World) (h1 : Mag w A1 n1 c1 a) (h2 : Mag w A2 n2 c2 b) (l1 : n1 ≤ 1000) (l2 : n2 ≤ 1000) (hc : Hid (a < b)) :
    Calls Tryd.prog 58 #[.agg #[.bool false, .slice A1 n1 c1], .agg #[.bool nb, .slice A2 n2 c2], .bool true] w fun e w' => Said w w' e true (b - a) := by
  obtain ⟨W, hW⟩ : ∃ W, W = ((w.alloc (.cells #[.bool false, .slice A1 n1 c1] 24)).alloc (.cells #[.bool nb, .slice A2 n2 c2] 24)).alloc (.cells #[.bool false, .slice none 0 0] 24) := ⟨_, rfl⟩
  obtain ⟨t1, t2, t3, hbW, hWs⟩ := boxes3 w _ _ _ _ _ _ W hW
  have m1 := h1.below hbW
  have m2 := h2.below hbW
  have k1 := t1.fst
  have k2 := t1.snd
  have k3 := t2.fst
  have k4 := t2.snd
  have dlb : dl b ≤ 1000 := Nat.le_trans h2.le l2
  have dla : dl a ≤ 1000 := Nat.le_trans h1.le l1
  have T2 := fun W h => Lib.hid (trim_mag A2 n2 c2 b W h (by omega))
  have T1 := fun W h => Lib.hid (trim_mag A1 n1 c1 a W h (by omega))
  go_enter Tryd.func58, Tryd.ntmps58
  go_wp2_with fail
  rw [← hW]
  have HW := Lib.hid hW
  have HWS := Lib.hid hWs
  clear hW hWs
  go_quiet ((go_at_call 54; (first | (with_reducible exact calm (trim_mag A1 n1 c1 a _ (m1.drewN _) (by omega))) | (with_reducible exact calm (trim_mag A2 n2 c2 b _ (m2.drewN _) (by omega))))))
  obtain ⟨V, hV⟩ : ∃ V, V = W.drewN nq := ⟨_, rfl⟩
  have hbV : Below w.heap.size w V := by rw [hV]; exact below_drewN hbW _
  have u1 : Two V w.heap.size 24 (.bool false) (.slice A1 n1 c1) := by rw [hV]; exact t1
  have u3 : Two V (w.heap.size + 2) 24 (.bool false) (.slice none 0 0) := by rw [hV]; exact t3
  have m1' : Mag V A1 n1 c1 a := by rw [hV]; exact m1
  have m2' : Mag V A2 n2 c2 b := by rw [hV]; exact m2
  have hVs : Hid (V.heap.size = w.heap.size + 3) := by rw [hV]; exact HWS
  rw [← hV]
  clear hV m1 m2 t1 t2 t3 k1 k2 k3 k4
  have k1 := u1.fst
  go_wp2_with fail
  go_region_held3 (fun w' => w'.cell? ⟨w.heap.size, 0, none⟩ = some (.bool false)) (go_keep)
    (first
      | (go_at_call 52; (first | (with_reducible refine (signed_any false _).mono ?_) | (with_reducible refine (signed_any true _).mono ?_)); rintro e w' ⟨rfl, rfl⟩))
  obtain ⟨X, hX⟩ : ∃ X, X = ((V.alloc (.cells #[.bool false] 4)).alloc (.cells #[.bool true] 4)).drew := ⟨_, rfl⟩
  rw [← hX]
  have hbX : Below V.heap.size V X := by rw [hX]; exact (below_al (below_al (Below.refl _ _) _) _).drew
  have xa : Boxed X V.heap.size false := by rw [hX]; exact boxes1a V _ _
  have xb : Boxed X (V.heap.size + 1) true := by rw [hX]; exact boxes1b V _ _
  have y1 := u1.below' hbX
  have y3 := u3.below' hbX
  have q1 := m1'.below hbX
  have q2 := m2'.below hbX
  clear hX u1 u3 m1' m2' k1
  have k1 := y1.fst
  have dlm := dl_mono (Nat.le_of_lt hc.out)
  have cN : cmpN a b = -1 := cmpN_lt hc.out
  have PL := fun W h h' => Lib.hid (minus_mag A2 A1 (dl b) (dl a) c2 c1 b a W h h' (by omega) (by omega) (Lib.hid (Nat.le_of_lt hc.out)))
  have CM : ∀ W, Mag W A1 (dl a) c1 a → Mag W A2 (dl b) c2 b → Hid (Calls Tryd.prog 57 #[.slice A1 (dl a) c1, .slice A2 (dl b) c2] W fun e w' => e = .returned (.int .i64 (cmpN a b)) ∧ Below W.heap.size W w') :=
    fun W h h' => Lib.hid ((compare_mag A1 A2 c1 c2 a b W h h' (by omega) (by omega)).mono fun e w' ⟨he, m, hm⟩ => ⟨he, by rw [hm]; exact below_drewN (Below.refl _ _) _⟩)
  rw [cN] at CM
  clear cN
  go_wp2_with (first
    | (go_at_call 57; refine ((CM _ q1.trim q2.trim).out).mono ?_; rintro e wc ⟨rfl, bc⟩; have o1 := q1.below bc; have o2 := q2.below bc; have xa' := xa.below bc; have xb' := xb.below bc)
    | (go_at_call 63; refine ((PL _ o2.trim o1.trim).out).mono ?_; rintro e wp ⟨rfl, mp, bp⟩)
    | (go_at_call 79; refine (signed1_any (V.heap.size + 1) true _ _ _ (b - a) _ (xb'.below bp) mp (by omega)).mono ?_; rintro e ws ⟨r, A, m, c, v, rfl, ha⟩; have hbs : Below X.heap.size X ws := below_then bc (below_then bp ha.low); have z3 := (y3.below' hbs).fst; have z4 := (y3.below' hbs).snd; have z5 := (y3.below' hbs).free 0; have z6 := (y3.below' hbs).free 1))
  exact bodyPost_ret (v := .tuple #[.agg #[.bool r, .slice A m c], .int .i64 v]) (by simp [results, Tryd.results58, go_sem, z3, z4]) rfl
    ⟨r, A, m, c, v, rfl, ha.two (g := w.heap.size + 1 + 1) (below_then (below_then (below_then hbV hbX) bc) bp) (by omega) (by have := hVs.out; have := hbX.size; have := bc.size; have := bp.size; omega)⟩
set_option maxHeartbeats 3200000 in
theorem join_ge_t (A1 A2 : Option Addr) (n1 c1 a n2 c2 b : Nat) (nb : Bool) (w : World) (h1 : Mag w A1 n1 c1 a) (h2 : Mag w A2 n2 c2 b) (l1 : n1 ≤ 1000) (l2 : n2 ≤ 1000) (hc : Hid (b ≤ a)) :
    Calls Tryd.prog 58 #[.agg #[.bool true, .slice A1 n1 c1], .agg #[.bool nb, .slice A2 n2 c2], .bool false] w fun e w' => Said w w' e true (a - b) := by
  obtain ⟨W, hW⟩ : ∃ W, W = ((w.alloc (.cells #[.bool true, .slice A1 n1 c1] 24)).alloc (.cells #[.bool nb, .slice A2 n2 c2] 24)).alloc (.cells #[.bool false, .slice none 0 0] 24) := ⟨_, rfl⟩
  obtain ⟨t1, t2, t3, hbW, hWs⟩ := boxes3 w _ _ _ _ _ _ W hW
  have m1 := h1.below hbW
  have m2 := h2.below hbW
  have k1 := t1.fst
  have k2 := t1.snd
  have k3 := t2.fst
  have k4 := t2.snd
  have dlb : dl b ≤ 1000 := Nat.le_trans h2.le l2
  have dla : dl a ≤ 1000 := Nat.le_trans h1.le l1
  have T2 := fun W h => Lib.hid (trim_mag A2 n2 c2 b W h (by omega))
  have T1 := fun W h => Lib.hid (trim_mag A1 n1 c1 a W h (by omega))
  go_enter Tryd.func58, Tryd.ntmps58
  go_wp2_with fail
  rw [← hW]
  have HW := Lib.hid hW
  have HWS := Lib.hid hWs
  clear hW hWs
  go_quiet ((go_at_call 54; (first | (with_reducible exact calm (trim_mag A1 n1 c1 a _ (m1.drewN _) (by omega))) | (with_reducible exact calm (trim_mag A2 n2 c2 b _ (m2.drewN _) (by omega))))))
  obtain ⟨V, hV⟩ : ∃ V, V = W.drewN nq := ⟨_, rfl⟩
  have hbV : Below w.heap.size w V := by rw [hV]; exact below_drewN hbW _
  have u1 : Two V w.heap.size 24 (.bool true) (.slice A1 n1 c1) := by rw [hV]; exact t1
  have u3 : Two V (w.heap.size + 2) 24 (.bool false) (.slice none 0 0) := by rw [hV]; exact t3
  have m1' : Mag V A1 n1 c1 a := by rw [hV]; exact m1
  have m2' : Mag V A2 n2 c2 b := by rw [hV]; exact m2
  have hVs : Hid (V.heap.size = w.heap.size + 3) := by rw [hV]; exact HWS
  rw [← hV]
  clear hV m1 m2 t1 t2 t3 k1 k2 k3 k4
  have k1 := u1.fst
  go_wp2_with fail
  go_region_held3 (fun w' => w'.cell? ⟨w.heap.size, 0, none⟩ = some (.bool true)) (go_keep)
    (first
      | (go_at_call 52; (first | (with_reducible refine (signed_any true _).mono ?_) | (with_reducible refine (signed_any false _).mono ?_)); rintro e w' ⟨rfl, rfl⟩))
  obtain ⟨X, hX⟩ : ∃ X, X = ((V.alloc (.cells #[.bool true] 4)).alloc (.cells #[.bool false] 4)).drew := ⟨_, rfl⟩
  rw [← hX]
  have hbX : Below V.heap.size V X := by rw [hX]; exact (below_al (below_al (Below.refl _ _) _) _).drew
  have xa : Boxed X V.heap.size true := by rw [hX]; exact boxes1a V _ _
  have xb : Boxed X (V.heap.size + 1) false := by rw [hX]; exact boxes1b V _ _
  have y1 := u1.below' hbX
  have y3 := u3.below' hbX
  have q1 := m1'.below hbX
  have q2 := m2'.below hbX
  clear hX u1 u3 m1' m2' k1
  have k1 := y1.fst
  have dlm := dl_mono hc.out
  have cN : ¬ cmpN a b < 0 := by
    rcases Nat.lt_or_ge b a with h | h
    · rw [cmpN_gt h]; decide
    · rw [Nat.le_antisymm h hc.out, cmpN_self]; decide
  have PL := fun W h h' => Lib.hid (minus_mag A1 A2 (dl a) (dl b) c1 c2 a b W h h' (by omega) (by omega) hc)
  have CM : ∀ W, Mag W A1 (dl a) c1 a → Mag W A2 (dl b) c2 b → Hid (Calls Tryd.prog 57 #[.slice A1 (dl a) c1, .slice A2 (dl b) c2] W fun e w' => e = .returned (.int .i64 (cmpN a b)) ∧ Below W.heap.size W w') :=
    fun W h h' => Lib.hid ((compare_mag A1 A2 c1 c2 a b W h h' (by omega) (by omega)).mono fun e w' ⟨he, m, hm⟩ => ⟨he, by rw [hm]; exact below_drewN (Below.refl _ _) _⟩)
  go_wp2_with (first
    | (go_at_call 57; refine ((CM _ q1.trim q2.trim).out).mono ?_; rintro e wc ⟨rfl, bc⟩; have o1 := q1.below bc; have o2 := q2.below bc; have xa' := xa.below bc; have xb' := xb.below bc)
    | (go_at_call 63; refine ((PL _ o1.trim o2.trim).out).mono ?_; rintro e wp ⟨rfl, mp, bp⟩)
    | (go_at_call 79; refine (signed1_any V.heap.size true _ _ _ (a - b) _ (xa'.below bp) mp (by omega)).mono ?_; rintro e ws ⟨r, A, m, c, v, rfl, ha⟩; have hbs : Below X.heap.size X ws := below_then bc (below_then bp ha.low); have z3 := (y3.below' hbs).fst; have z4 := (y3.below' hbs).snd; have z5 := (y3.below' hbs).free 0; have z6 := (y3.below' hbs).free 1))
  exact bodyPost_ret (v := .tuple #[.agg #[.bool r, .slice A m c], .int .i64 v]) (by simp [results, Tryd.results58, go_sem, z3, z4]) rfl
    ⟨r, A, m, c, v, rfl, ha.two (g := w.heap.size + 1 + 1) (below_then (below_then (below_then hbV hbX) bc) bp) (by omega) (by have := hVs.out; have := hbX.size; have := bc.size; have := bp.size; omega)⟩
set_option maxHeartbeats 3200000 in
theorem join_ge_f (A1 A2 : Option Addr) (n1 c1 a n2 c2 b : Nat) (nb : Bool) (w : World) (h1 : Mag w A1 n1 c1 a) (h2 : Mag w A2 n2 c2 b) (l1 : n1 ≤ 1000) (l2 : n2 ≤ 1000) (hc : Hid (b ≤ a)) :
    Calls Tryd.prog 58 #[.agg #[.bool false, .slice A1 n1 c1], .agg #[.bool nb, .slice A2 n2 c2], .bool true] w fun e w' => Said w w' e false (a - b) := by
  obtain ⟨W, hW⟩ : ∃ W, W = ((w.alloc (.cells #[.bool false, .slice A1 n1 c1] 24)).alloc (.cells #[.bool nb, .slice A2 n2 c2] 24)).alloc (.cells #[.bool false, .slice none 0 0] 24) := ⟨_, rfl⟩
  obtain ⟨t1, t2, t3, hbW, hWs⟩ := boxes3 w _ _ _ _ _ _ W hW
  have m1 := h1.below hbW
  have m2 := h2.below hbW
  have k1 := t1.fst
  have k2 := t1.snd
  have k3 := t2.fst
  have k4 := t2.snd
  have dlb : dl b ≤ 1000 := Nat.le_trans h2.le l2
  have dla : dl a ≤ 1000 := Nat.le_trans h1.le l1
  have T2 := fun W h => Lib.hid (trim_mag A2 n2 c2 b W h (by omega))
  have T1 := fun W h => Lib.hid (trim_mag A1 n1 c1 a W h (by omega))
  go_enter Tryd.func58, Tryd.ntmps58
  go_wp2_with fail
  rw [← hW]
  have HW := Lib.hid hW
  have HWS := Lib.hid hWs
  clear hW hWs
  go_quiet ((go_at_call 54; (first | (with_reducible exact calm (trim_mag A1 n1 c1 a _ (m1.drewN _) (by omega))) | (with_reducible exact calm (trim_mag A2 n2 c2 b _ (m2.drewN _) (by omega))))))
  obtain ⟨V, hV⟩ : ∃ V, V = W.drewN nq := ⟨_, rfl⟩
  have hbV : Below w.heap.size w V := by rw [hV]; exact below_drewN hbW _
  have u1 : Two V w.heap.size 24 (.bool false) (.slice A1 n1 c1) := by rw [hV]; exact t1
  have u3 : Two V (w.heap.size + 2) 24 (.bool false) (.slice none 0 0) := by rw [hV]; exact t3
  have m1' : Mag V A1 n1 c1 a := by rw [hV]; exact m1
  have m2' : Mag V A2 n2 c2 b := by rw [hV]; exact m2
  have hVs : Hid (V.heap.size = w.heap.size + 3) := by rw [hV]; exact HWS
  rw [← hV]
  clear hV m1 m2 t1 t2 t3 k1 k2 k3 k4
  have k1 := u1.fst
  go_wp2_with fail
  go_region_held3 (fun w' => w'.cell? ⟨w.heap.size, 0, none⟩ = some (.bool false)) (go_keep)
    (first
      | (go_at_call 52; (first | (with_reducible refine (signed_any false _).mono ?_) | (with_reducible refine (signed_any true _).mono ?_)); rintro e w' ⟨rfl, rfl⟩))
  obtain ⟨X, hX⟩ : ∃ X, X = ((V.alloc (.cells #[.bool false] 4)).alloc (.cells #[.bool true] 4)).drew := ⟨_, rfl⟩
  rw [← hX]
  have hbX : Below V.heap.size V X := by rw [hX]; exact (below_al (below_al (Below.refl _ _) _) _).drew
  have xa : Boxed X V.heap.size false := by rw [hX]; exact boxes1a V _ _
  have xb : Boxed X (V.heap.size + 1) true := by rw [hX]; exact boxes1b V _ _
  have y1 := u1.below' hbX
  have y3 := u3.below' hbX
  have q1 := m1'.below hbX
  have q2 := m2'.below hbX
  clear hX u1 u3 m1' m2' k1
  have k1 := y1.fst
  have dlm := dl_mono hc.out
  have cN : ¬ cmpN a b < 0 := by
    rcases Nat.lt_or_ge b a with h | h
    · rw [cmpN_gt h]; decide
    · rw [Nat.le_antisymm h hc.out, cmpN_self]; decide
  have PL := fun W h h' => Lib.hid (minus_mag A1 A2 (dl a) (dl b) c1 c2 a b W h h' (by omega) (by omega) hc)
  have CM : ∀ W, Mag W A1 (dl a) c1 a → Mag W A2 (dl b) c2 b → Hid (Calls Tryd.prog 57 #[.slice A1 (dl a) c1, .slice A2 (dl b) c2] W fun e w' => e = .returned (.int .i64 (cmpN a b)) ∧ Below W.heap.size W w') :=
    fun W h h' => Lib.hid ((compare_mag A1 A2 c1 c2 a b W h h' (by omega) (by omega)).mono fun e w' ⟨he, m, hm⟩ => ⟨he, by rw [hm]; exact below_drewN (Below.refl _ _) _⟩)
  go_wp2_with (first
    | (go_at_call 57; refine ((CM _ q1.trim q2.trim).out).mono ?_; rintro e wc ⟨rfl, bc⟩; have o1 := q1.below bc; have o2 := q2.below bc; have xa' := xa.below bc; have xb' := xb.below bc)
    | (go_at_call 63; refine ((PL _ o1.trim o2.trim).out).mono ?_; rintro e wp ⟨rfl, mp, bp⟩)
    | (go_at_call 79; refine (signed1_any V.heap.size false _ _ _ (a - b) _ (xa'.below bp) mp (by omega)).mono ?_; rintro e ws ⟨r, A, m, c, v, rfl, ha⟩; have hbs : Below X.heap.size X ws := below_then bc (below_then bp ha.low); have z3 := (y3.below' hbs).fst; have z4 := (y3.below' hbs).snd; have z5 := (y3.below' hbs).free 0; have z6 := (y3.below' hbs).free 1))
  exact bodyPost_ret (v := .tuple #[.agg #[.bool r, .slice A m c], .int .i64 v]) (by simp [results, Tryd.results58, go_sem, z3, z4]) rfl
    ⟨r, A, m, c, v, rfl, ha.two (g := w.heap.size + 1 + 1) (below_then (below_then (below_then hbV hbX) bc) bp) (by omega) (by have := hVs.out; have := hbX.size; have := bc.size; have := bp.size; omega)⟩
end Go.Proofs.YtocoflojlliapaaDoor
