/- The remainder: the number, or too big; the three by value. -/
import Derived.Test.YtocoflojlliapaaDoorY1
set_option linter.unusedVariables false
namespace Go.Proofs.YtocoflojlliapaaDoor
open Go.RowKit
set_option maxHeartbeats 3200000 in
theorem modS_same_tt (A1 A2 : Option Addr) (n1 c1 a n2 c2 b R : Nat) (w : World) (h1 : Mag w A1 n1 c1 a) (h2 : Mag w A2 n2 c2 b) (l1 : n1 ≤ 1000) (l2 : n2 ≤ 1000) (hb : b ≠ 0) (hD : DivSaid a b) (hR : Hid (a % b = R))
 :
    Calls Tryd.prog 42 #[.agg #[.bool true, .slice A1 n1 c1], .agg #[.bool true, .slice A2 n2 c2]] w fun e w' => Said w w' e true (R) := by
  have HS := fun W h => Lib.hid (sign_any true A2 n2 c2 b W h (by omega))
  have hz := sign_nz (nb := true) hb
  obtain ⟨W, hW⟩ : ∃ W, W = ((w.alloc (.cells #[.bool true, .slice A1 n1 c1] 24)).alloc (.cells #[.bool true, .slice A2 n2 c2] 24)).alloc (.cells #[.bool false, .slice none 0 0] 24) := ⟨_, rfl⟩
  obtain ⟨t1, t2, t3, hbW, hWs⟩ := boxes3 w _ _ _ _ _ _ W hW
  obtain ⟨V, hV⟩ : ∃ V, V = W.alloc (.cells #[.bool true, .slice A2 n2 c2] 24) := ⟨_, rfl⟩
  have hbV : Below w.heap.size w V := by rw [hV]; exact below_al hbW _
  have u1 : Two V w.heap.size 24 (.bool true) (.slice A1 n1 c1) := by rw [hV]; exact t1.alloc _
  have u2 : Two V (w.heap.size + 1) 24 (.bool true) (.slice A2 n2 c2) := by rw [hV]; exact t2.alloc _
  have u3 : Two V (w.heap.size + 2) 24 (.bool false) (.slice none 0 0) := by rw [hV]; exact t3.alloc _
  have hVs : V.heap.size = w.heap.size + 4 := by rw [hV]; simp [hWs]
  have HM2 := h2.below hbW
  have m1 := h1.below hbV
  have m2 := h2.below hbV
  have k1 := u1.fst
  have k2 := u1.snd
  have k3 := u2.fst
  have k4 := u2.snd
  have hbr : Hid (R < b) := Lib.hid (by rw [← hR.out]; exact Nat.mod_lt _ (by omega))
  have dlr : dl R ≤ dl b := dl_mono (Nat.le_of_lt hbr.out)
  have dlb : dl b ≤ 1000 := Nat.le_trans h2.le l2
  have dla : dl a ≤ 1000 := Nat.le_trans h1.le l1
  have HDP : ∀ W, Mag W A1 (dl a) c1 a → Mag W A2 (dl b) c2 b → Hid (Calls Tryd.prog 62 #[.slice A1 (dl a) c1, .slice A2 (dl b) c2] W fun e w' => ∃ B1 d1 B2 d2, e = .returned (.tuple #[.slice B1 (dl (a / b)) d1, .slice B2 (dl R) d2]) ∧ Mag w' B2 (dl R) d2 R ∧ Below W.heap.size W w') := fun W h h' => Lib.hid ((hD A1 A2 c1 c2 W h h').mono fun e w' ⟨B1, d1, B2, d2, he, _, hm, hb⟩ => ⟨B1, d1, B2, d2, by rw [← hR.out]; exact he, by rw [← hR.out]; exact hm, hb⟩)
  have HVS := Lib.hid hVs
  clear hVs hWs t1 t2 t3 hb hD
  have T2 := fun W h => Lib.hid (trim_mag A2 n2 c2 b W h (by omega))
  have T1 := fun W h => Lib.hid (trim_mag A1 n1 c1 a W h (by omega))
  go_enter Tryd.func42, Tryd.ntmps42
  go_wp2_with fail
  rw [← hW]
  refine ((HS _ HM2).out).mono ?_
  rintro e w' ⟨rfl, rfl⟩
  rw [← hV]
  have HWW := Lib.hid hW
  have HVV := Lib.hid hV
  clear hW hV
  go_wp2_with (first | (go_at_call 54; (first | (with_reducible refine ((T2 _ m2).out).mono ?_) | (with_reducible refine ((T1 _ m1).out).mono ?_)); rintro e w' ⟨rfl, rfl⟩) | (go_at_call 62; refine ((HDP _ m1.trim m2.trim).out).mono ?_; rintro e w1 ⟨B1, d1, B2, d2, rfl, hm, hb1⟩; have p1 := (u1.below' hb1).fst; have p2 := (u2.below' hb1).fst) | (go_at_call 52; refine (signed_any true _).mono ?_; rintro e w' ⟨rfl, rfl⟩) | (go_at_call 79; refine (signed1_any w1.heap.size true B2 (dl R) d2 R _ (one_made _ _ _) (hm.alloc _) (by omega)).mono ?_; rintro e w9 ⟨rr, AA, mm, cc, vv, rfl, hf⟩; have hb9 : Below V.heap.size V w9 := below_then hb1 (below_then (below_al (Below.refl _ _) _) hf.low); have q0 := (u3.below' hb9).fst; have q1 := (u3.below' hb9).snd; have q2 := (u3.below' hb9).free 0; have q3 := (u3.below' hb9).free 1))
  exact bodyPost_ret (v := .tuple #[.agg #[.bool rr, .slice AA mm cc], .int .i64 vv]) (by simp [results, Tryd.results42, go_sem, q0, q1]) rfl
    ⟨rr, AA, mm, cc, vv, rfl, hf.two (g := w.heap.size + 1 + 1) (below_al (below_then hbV hb1) _) (by omega) (by have := HVS.out; have := hb1.size; simp; omega)⟩
set_option maxHeartbeats 3200000 in
theorem modS_same_ff (A1 A2 : Option Addr) (n1 c1 a n2 c2 b R : Nat) (w : World) (h1 : Mag w A1 n1 c1 a) (h2 : Mag w A2 n2 c2 b) (l1 : n1 ≤ 1000) (l2 : n2 ≤ 1000) (hb : b ≠ 0) (hD : DivSaid a b) (hR : Hid (a % b = R))
 :
    Calls Tryd.prog 42 #[.agg #[.bool false, .slice A1 n1 c1], .agg #[.bool false, .slice A2 n2 c2]] w fun e w' => Said w w' e false (R) := by
  have HS := fun W h => Lib.hid (sign_any false A2 n2 c2 b W h (by omega))
  have hz := sign_nz (nb := false) hb
  obtain ⟨W, hW⟩ : ∃ W, W = ((w.alloc (.cells #[.bool false, .slice A1 n1 c1] 24)).alloc (.cells #[.bool false, .slice A2 n2 c2] 24)).alloc (.cells #[.bool false, .slice none 0 0] 24) := ⟨_, rfl⟩
  obtain ⟨t1, t2, t3, hbW, hWs⟩ := boxes3 w _ _ _ _ _ _ W hW
  obtain ⟨V, hV⟩ : ∃ V, V = W.alloc (.cells #[.bool false, .slice A2 n2 c2] 24) := ⟨_, rfl⟩
  have hbV : Below w.heap.size w V := by rw [hV]; exact below_al hbW _
  have u1 : Two V w.heap.size 24 (.bool false) (.slice A1 n1 c1) := by rw [hV]; exact t1.alloc _
  have u2 : Two V (w.heap.size + 1) 24 (.bool false) (.slice A2 n2 c2) := by rw [hV]; exact t2.alloc _
  have u3 : Two V (w.heap.size + 2) 24 (.bool false) (.slice none 0 0) := by rw [hV]; exact t3.alloc _
  have hVs : V.heap.size = w.heap.size + 4 := by rw [hV]; simp [hWs]
  have HM2 := h2.below hbW
  have m1 := h1.below hbV
  have m2 := h2.below hbV
  have k1 := u1.fst
  have k2 := u1.snd
  have k3 := u2.fst
  have k4 := u2.snd
  have hbr : Hid (R < b) := Lib.hid (by rw [← hR.out]; exact Nat.mod_lt _ (by omega))
  have dlr : dl R ≤ dl b := dl_mono (Nat.le_of_lt hbr.out)
  have dlb : dl b ≤ 1000 := Nat.le_trans h2.le l2
  have dla : dl a ≤ 1000 := Nat.le_trans h1.le l1
  have HDP : ∀ W, Mag W A1 (dl a) c1 a → Mag W A2 (dl b) c2 b → Hid (Calls Tryd.prog 62 #[.slice A1 (dl a) c1, .slice A2 (dl b) c2] W fun e w' => ∃ B1 d1 B2 d2, e = .returned (.tuple #[.slice B1 (dl (a / b)) d1, .slice B2 (dl R) d2]) ∧ Mag w' B2 (dl R) d2 R ∧ Below W.heap.size W w') := fun W h h' => Lib.hid ((hD A1 A2 c1 c2 W h h').mono fun e w' ⟨B1, d1, B2, d2, he, _, hm, hb⟩ => ⟨B1, d1, B2, d2, by rw [← hR.out]; exact he, by rw [← hR.out]; exact hm, hb⟩)
  have HVS := Lib.hid hVs
  clear hVs hWs t1 t2 t3 hb hD
  have T2 := fun W h => Lib.hid (trim_mag A2 n2 c2 b W h (by omega))
  have T1 := fun W h => Lib.hid (trim_mag A1 n1 c1 a W h (by omega))
  go_enter Tryd.func42, Tryd.ntmps42
  go_wp2_with fail
  rw [← hW]
  refine ((HS _ HM2).out).mono ?_
  rintro e w' ⟨rfl, rfl⟩
  rw [← hV]
  have HWW := Lib.hid hW
  have HVV := Lib.hid hV
  clear hW hV
  go_wp2_with (first | (go_at_call 54; (first | (with_reducible refine ((T2 _ m2).out).mono ?_) | (with_reducible refine ((T1 _ m1).out).mono ?_)); rintro e w' ⟨rfl, rfl⟩) | (go_at_call 62; refine ((HDP _ m1.trim m2.trim).out).mono ?_; rintro e w1 ⟨B1, d1, B2, d2, rfl, hm, hb1⟩; have p1 := (u1.below' hb1).fst; have p2 := (u2.below' hb1).fst) | (go_at_call 52; refine (signed_any false _).mono ?_; rintro e w' ⟨rfl, rfl⟩) | (go_at_call 79; refine (signed1_any w1.heap.size false B2 (dl R) d2 R _ (one_made _ _ _) (hm.alloc _) (by omega)).mono ?_; rintro e w9 ⟨rr, AA, mm, cc, vv, rfl, hf⟩; have hb9 : Below V.heap.size V w9 := below_then hb1 (below_then (below_al (Below.refl _ _) _) hf.low); have q0 := (u3.below' hb9).fst; have q1 := (u3.below' hb9).snd; have q2 := (u3.below' hb9).free 0; have q3 := (u3.below' hb9).free 1))
  exact bodyPost_ret (v := .tuple #[.agg #[.bool rr, .slice AA mm cc], .int .i64 vv]) (by simp [results, Tryd.results42, go_sem, q0, q1]) rfl
    ⟨rr, AA, mm, cc, vv, rfl, hf.two (g := w.heap.size + 1 + 1) (below_al (below_then hbV hb1) _) (by omega) (by have := HVS.out; have := hb1.size; simp; omega)⟩
set_option maxHeartbeats 3200000 in
theorem modS_none_tf (A1 A2 : Option Addr) (n1 c1 a n2 c2 b R : Nat) (w : World) (h1 : Mag w A1 n1 c1 a) (h2 : Mag w A2 n2 c2 b) (l1 : n1 ≤ 1000) (l2 : n2 ≤ 1000) (hb : b ≠ 0) (hD : DivSaid a b) (hR : Hid (a % b = R))
     (hr0 : Hid (R = 0)) :
    Calls Tryd.prog 42 #[.agg #[.bool true, .slice A1 n1 c1], .agg #[.bool false, .slice A2 n2 c2]] w fun e w' => Said w w' e false (R) := by
  have HS := fun W h => Lib.hid (sign_any false A2 n2 c2 b W h (by omega))
  have hz := sign_nz (nb := false) hb
  obtain ⟨W, hW⟩ : ∃ W, W = ((w.alloc (.cells #[.bool true, .slice A1 n1 c1] 24)).alloc (.cells #[.bool false, .slice A2 n2 c2] 24)).alloc (.cells #[.bool false, .slice none 0 0] 24) := ⟨_, rfl⟩
  obtain ⟨t1, t2, t3, hbW, hWs⟩ := boxes3 w _ _ _ _ _ _ W hW
  obtain ⟨V, hV⟩ : ∃ V, V = W.alloc (.cells #[.bool false, .slice A2 n2 c2] 24) := ⟨_, rfl⟩
  have hbV : Below w.heap.size w V := by rw [hV]; exact below_al hbW _
  have u1 : Two V w.heap.size 24 (.bool true) (.slice A1 n1 c1) := by rw [hV]; exact t1.alloc _
  have u2 : Two V (w.heap.size + 1) 24 (.bool false) (.slice A2 n2 c2) := by rw [hV]; exact t2.alloc _
  have u3 : Two V (w.heap.size + 2) 24 (.bool false) (.slice none 0 0) := by rw [hV]; exact t3.alloc _
  have hVs : V.heap.size = w.heap.size + 4 := by rw [hV]; simp [hWs]
  have HM2 := h2.below hbW
  have m1 := h1.below hbV
  have m2 := h2.below hbV
  have k1 := u1.fst
  have k2 := u1.snd
  have k3 := u2.fst
  have k4 := u2.snd
  have hbr : Hid (R < b) := Lib.hid (by rw [← hR.out]; exact Nat.mod_lt _ (by omega))
  have dlr : dl R ≤ dl b := dl_mono (Nat.le_of_lt hbr.out)
  have dlb : dl b ≤ 1000 := Nat.le_trans h2.le l2
  have dla : dl a ≤ 1000 := Nat.le_trans h1.le l1
  have HDP : ∀ W, Mag W A1 (dl a) c1 a → Mag W A2 (dl b) c2 b → Hid (Calls Tryd.prog 62 #[.slice A1 (dl a) c1, .slice A2 (dl b) c2] W fun e w' => ∃ B1 d1 B2 d2, e = .returned (.tuple #[.slice B1 (dl (a / b)) d1, .slice B2 (dl R) d2]) ∧ Mag w' B2 (dl R) d2 R ∧ Below W.heap.size W w') := fun W h h' => Lib.hid ((hD A1 A2 c1 c2 W h h').mono fun e w' ⟨B1, d1, B2, d2, he, _, hm, hb⟩ => ⟨B1, d1, B2, d2, by rw [← hR.out]; exact he, by rw [← hR.out]; exact hm, hb⟩)
  have HVS := Lib.hid hVs
  clear hVs hWs t1 t2 t3 hb hD
  have T2 := fun W h => Lib.hid (trim_mag A2 n2 c2 b W h (by omega))
  have T1 := fun W h => Lib.hid (trim_mag A1 n1 c1 a W h (by omega))
  have hd0 : (dl R : Int) ≤ 0 := by rw [hr0.out, dl_zero]; exact Int.le_refl 0
  go_enter Tryd.func42, Tryd.ntmps42
  go_wp2_with fail
  rw [← hW]
  refine ((HS _ HM2).out).mono ?_
  rintro e w' ⟨rfl, rfl⟩
  rw [← hV]
  have HWW := Lib.hid hW
  have HVV := Lib.hid hV
  clear hW hV
  go_wp2_with (first | (go_at_call 54; (first | (with_reducible refine ((T2 _ m2).out).mono ?_) | (with_reducible refine ((T1 _ m1).out).mono ?_)); rintro e w' ⟨rfl, rfl⟩) | (go_at_call 62; refine ((HDP _ m1.trim m2.trim).out).mono ?_; rintro e w1 ⟨B1, d1, B2, d2, rfl, hm, hb1⟩; have p1 := (u1.below' hb1).fst; have p2 := (u2.below' hb1).fst) | (go_at_call 52; refine (signed_any false _).mono ?_; rintro e w' ⟨rfl, rfl⟩) | (go_at_call 79; refine (signed1_any w1.heap.size false B2 (dl R) d2 R _ (one_made _ _ _) (hm.alloc _) (by omega)).mono ?_; rintro e w9 ⟨rr, AA, mm, cc, vv, rfl, hf⟩; have hb9 : Below V.heap.size V w9 := below_then hb1 (below_then (below_al (Below.refl _ _) _) hf.low); have q0 := (u3.below' hb9).fst; have q1 := (u3.below' hb9).snd; have q2 := (u3.below' hb9).free 0; have q3 := (u3.below' hb9).free 1))
  exact bodyPost_ret (v := .tuple #[.agg #[.bool rr, .slice AA mm cc], .int .i64 vv]) (by simp [results, Tryd.results42, go_sem, q0, q1]) rfl
    ⟨rr, AA, mm, cc, vv, rfl, hf.two (g := w.heap.size + 1 + 1) (below_al (below_then hbV hb1) _) (by omega) (by have := HVS.out; have := hb1.size; simp; omega)⟩
set_option maxHeartbeats 3200000 in
theorem modS_none_ft (A1 A2 : Option Addr) (n1 c1 a n2 c2 b R : Nat) (w : World) (h1 : Mag w A1 n1 c1 a) (h2 : Mag w A2 n2 c2 b) (l1 : n1 ≤ 1000) (l2 : n2 ≤ 1000) (hb : b ≠ 0) (hD : DivSaid a b) (hR : Hid (a % b = R))
     (hr0 : Hid (R = 0)) :
    Calls Tryd.prog 42 #[.agg #[.bool false, .slice A1 n1 c1], .agg #[.bool true, .slice A2 n2 c2]] w fun e w' => Said w w' e true (R) := by
  have HS := fun W h => Lib.hid (sign_any true A2 n2 c2 b W h (by omega))
  have hz := sign_nz (nb := true) hb
  obtain ⟨W, hW⟩ : ∃ W, W = ((w.alloc (.cells #[.bool false, .slice A1 n1 c1] 24)).alloc (.cells #[.bool true, .slice A2 n2 c2] 24)).alloc (.cells #[.bool false, .slice none 0 0] 24) := ⟨_, rfl⟩
  obtain ⟨t1, t2, t3, hbW, hWs⟩ := boxes3 w _ _ _ _ _ _ W hW
  obtain ⟨V, hV⟩ : ∃ V, V = W.alloc (.cells #[.bool true, .slice A2 n2 c2] 24) := ⟨_, rfl⟩
  have hbV : Below w.heap.size w V := by rw [hV]; exact below_al hbW _
  have u1 : Two V w.heap.size 24 (.bool false) (.slice A1 n1 c1) := by rw [hV]; exact t1.alloc _
  have u2 : Two V (w.heap.size + 1) 24 (.bool true) (.slice A2 n2 c2) := by rw [hV]; exact t2.alloc _
  have u3 : Two V (w.heap.size + 2) 24 (.bool false) (.slice none 0 0) := by rw [hV]; exact t3.alloc _
  have hVs : V.heap.size = w.heap.size + 4 := by rw [hV]; simp [hWs]
  have HM2 := h2.below hbW
  have m1 := h1.below hbV
  have m2 := h2.below hbV
  have k1 := u1.fst
  have k2 := u1.snd
  have k3 := u2.fst
  have k4 := u2.snd
  have hbr : Hid (R < b) := Lib.hid (by rw [← hR.out]; exact Nat.mod_lt _ (by omega))
  have dlr : dl R ≤ dl b := dl_mono (Nat.le_of_lt hbr.out)
  have dlb : dl b ≤ 1000 := Nat.le_trans h2.le l2
  have dla : dl a ≤ 1000 := Nat.le_trans h1.le l1
  have HDP : ∀ W, Mag W A1 (dl a) c1 a → Mag W A2 (dl b) c2 b → Hid (Calls Tryd.prog 62 #[.slice A1 (dl a) c1, .slice A2 (dl b) c2] W fun e w' => ∃ B1 d1 B2 d2, e = .returned (.tuple #[.slice B1 (dl (a / b)) d1, .slice B2 (dl R) d2]) ∧ Mag w' B2 (dl R) d2 R ∧ Below W.heap.size W w') := fun W h h' => Lib.hid ((hD A1 A2 c1 c2 W h h').mono fun e w' ⟨B1, d1, B2, d2, he, _, hm, hb⟩ => ⟨B1, d1, B2, d2, by rw [← hR.out]; exact he, by rw [← hR.out]; exact hm, hb⟩)
  have HVS := Lib.hid hVs
  clear hVs hWs t1 t2 t3 hb hD
  have T2 := fun W h => Lib.hid (trim_mag A2 n2 c2 b W h (by omega))
  have T1 := fun W h => Lib.hid (trim_mag A1 n1 c1 a W h (by omega))
  have hd0 : (dl R : Int) ≤ 0 := by rw [hr0.out, dl_zero]; exact Int.le_refl 0
  go_enter Tryd.func42, Tryd.ntmps42
  go_wp2_with fail
  rw [← hW]
  refine ((HS _ HM2).out).mono ?_
  rintro e w' ⟨rfl, rfl⟩
  rw [← hV]
  have HWW := Lib.hid hW
  have HVV := Lib.hid hV
  clear hW hV
  go_wp2_with (first | (go_at_call 54; (first | (with_reducible refine ((T2 _ m2).out).mono ?_) | (with_reducible refine ((T1 _ m1).out).mono ?_)); rintro e w' ⟨rfl, rfl⟩) | (go_at_call 62; refine ((HDP _ m1.trim m2.trim).out).mono ?_; rintro e w1 ⟨B1, d1, B2, d2, rfl, hm, hb1⟩; have p1 := (u1.below' hb1).fst; have p2 := (u2.below' hb1).fst) | (go_at_call 52; refine (signed_any true _).mono ?_; rintro e w' ⟨rfl, rfl⟩) | (go_at_call 79; refine (signed1_any w1.heap.size true B2 (dl R) d2 R _ (one_made _ _ _) (hm.alloc _) (by omega)).mono ?_; rintro e w9 ⟨rr, AA, mm, cc, vv, rfl, hf⟩; have hb9 : Below V.heap.size V w9 := below_then hb1 (below_then (below_al (Below.refl _ _) _) hf.low); have q0 := (u3.below' hb9).fst; have q1 := (u3.below' hb9).snd; have q2 := (u3.below' hb9).free 0; have q3 := (u3.below' hb9).free 1))
  exact bodyPost_ret (v := .tuple #[.agg #[.bool rr, .slice AA mm cc], .int .i64 vv]) (by simp [results, Tryd.results42, go_sem, q0, q1]) rfl
    ⟨rr, AA, mm, cc, vv, rfl, hf.two (g := w.heap.size + 1 + 1) (below_al (below_then hbV hb1) _) (by omega) (by have := HVS.out; have := hb1.size; simp; omega)⟩
set_option maxHeartbeats 3200000 in
theorem modS_turn_tf (A1 A2 : Option Addr) (n1 c1 a n2 c2 b R : Nat) (w : World) (h1 : Mag w A1 n1 c1 a) (h2 : Mag w A2 n2 c2 b) (l1 : n1 ≤ 1000) (l2 : n2 ≤ 1000) (hb : b ≠ 0) (hD : DivSaid a b) (hR : Hid (a % b = R))
     (hr0 : Hid (R ≠ 0)) :
    Calls Tryd.prog 42 #[.agg #[.bool true, .slice A1 n1 c1], .agg #[.bool false, .slice A2 n2 c2]] w fun e w' => Said w w' e false (b - R) := by
  have HS := fun W h => Lib.hid (sign_any false A2 n2 c2 b W h (by omega))
  have hz := sign_nz (nb := false) hb
  obtain ⟨W, hW⟩ : ∃ W, W = ((w.alloc (.cells #[.bool true, .slice A1 n1 c1] 24)).alloc (.cells #[.bool false, .slice A2 n2 c2] 24)).alloc (.cells #[.bool false, .slice none 0 0] 24) := ⟨_, rfl⟩
  obtain ⟨t1, t2, t3, hbW, hWs⟩ := boxes3 w _ _ _ _ _ _ W hW
  obtain ⟨V, hV⟩ : ∃ V, V = W.alloc (.cells #[.bool false, .slice A2 n2 c2] 24) := ⟨_, rfl⟩
  have hbV : Below w.heap.size w V := by rw [hV]; exact below_al hbW _
  have u1 : Two V w.heap.size 24 (.bool true) (.slice A1 n1 c1) := by rw [hV]; exact t1.alloc _
  have u2 : Two V (w.heap.size + 1) 24 (.bool false) (.slice A2 n2 c2) := by rw [hV]; exact t2.alloc _
  have u3 : Two V (w.heap.size + 2) 24 (.bool false) (.slice none 0 0) := by rw [hV]; exact t3.alloc _
  have hVs : V.heap.size = w.heap.size + 4 := by rw [hV]; simp [hWs]
  have HM2 := h2.below hbW
  have m1 := h1.below hbV
  have m2 := h2.below hbV
  have k1 := u1.fst
  have k2 := u1.snd
  have k3 := u2.fst
  have k4 := u2.snd
  have hbr : Hid (R < b) := Lib.hid (by rw [← hR.out]; exact Nat.mod_lt _ (by omega))
  have dlr : dl R ≤ dl b := dl_mono (Nat.le_of_lt hbr.out)
  have dlb : dl b ≤ 1000 := Nat.le_trans h2.le l2
  have dla : dl a ≤ 1000 := Nat.le_trans h1.le l1
  have HDP : ∀ W, Mag W A1 (dl a) c1 a → Mag W A2 (dl b) c2 b → Hid (Calls Tryd.prog 62 #[.slice A1 (dl a) c1, .slice A2 (dl b) c2] W fun e w' => ∃ B1 d1 B2 d2, e = .returned (.tuple #[.slice B1 (dl (a / b)) d1, .slice B2 (dl R) d2]) ∧ Mag w' B2 (dl R) d2 R ∧ Below W.heap.size W w') := fun W h h' => Lib.hid ((hD A1 A2 c1 c2 W h h').mono fun e w' ⟨B1, d1, B2, d2, he, _, hm, hb⟩ => ⟨B1, d1, B2, d2, by rw [← hR.out]; exact he, by rw [← hR.out]; exact hm, hb⟩)
  have HVS := Lib.hid hVs
  clear hVs hWs t1 t2 t3 hb hD
  have T2 := fun W h => Lib.hid (trim_mag A2 n2 c2 b W h (by omega))
  have T1 := fun W h => Lib.hid (trim_mag A1 n1 c1 a W h (by omega))
  have hd0 : 0 < (dl R : Int) := by have := dl_pos hr0.out; omega
  have hle : Hid (R ≤ b) := Lib.hid (Nat.le_of_lt hbr.out)
  go_enter Tryd.func42, Tryd.ntmps42
  go_wp2_with fail
  rw [← hW]
  refine ((HS _ HM2).out).mono ?_
  rintro e w' ⟨rfl, rfl⟩
  rw [← hV]
  have HWW := Lib.hid hW
  have HVV := Lib.hid hV
  clear hW hV
  go_wp2_with (first | (go_at_call 54; (first | (with_reducible refine ((T2 _ m2).out).mono ?_) | (with_reducible refine ((T1 _ m1).out).mono ?_)); rintro e w' ⟨rfl, rfl⟩) | (go_at_call 62; refine ((HDP _ m1.trim m2.trim).out).mono ?_; rintro e w1 ⟨B1, d1, B2, d2, rfl, hm, hb1⟩; have p1 := (u1.below' hb1).fst; have p2 := (u2.below' hb1).fst) | (go_at_call 52; refine (signed_any false _).mono ?_; rintro e w' ⟨rfl, rfl⟩)| (go_at_call 63; refine (minus_mag A2 B2 (dl b) (dl R) c2 d2 b R _ (m2.trim.below hb1) hm (by omega) dlr hle).mono ?_; rintro e w3 ⟨rfl, hm3, hb3⟩; have r1 := ((u1.below' hb1).below' hb3).fst; have r2 := ((u2.below' hb1).below' hb3).fst; have hb13 : Below V.heap.size V w3 := below_then hb1 hb3) | (go_at_call 79; refine (signed1_any w3.heap.size false (some ⟨w1.heap.size, 0, none⟩) (dl b) (dl b) (b - R) _ (one_made _ _ _) (hm3.alloc _) (by omega)).mono ?_; rintro e w9 ⟨rr, AA, mm, cc, vv, rfl, hf⟩; have hb9 : Below V.heap.size V w9 := below_then hb13 (below_then (below_al (Below.refl _ _) _) hf.low); have q0 := (u3.below' hb9).fst; have q1 := (u3.below' hb9).snd; have q2 := (u3.below' hb9).free 0; have q3 := (u3.below' hb9).free 1))
  exact bodyPost_ret (v := .tuple #[.agg #[.bool rr, .slice AA mm cc], .int .i64 vv]) (by simp [results, Tryd.results42, go_sem, q0, q1]) rfl
    ⟨rr, AA, mm, cc, vv, rfl, hf.two (g := w.heap.size + 1 + 1) (below_al (below_then hbV hb13) _) (by omega) (by have := HVS.out; have := hb13.size; simp; omega)⟩
set_option maxHeartbeats 3200000 in
theorem modS_turn_ft (A1 A2 : Option Addr) (n1 c1 a n2 c2 b R : Nat) (w : World) (h1 : Mag w A1 n1 c1 a) (h2 : Mag w A2 n2 c2 b) (l1 : n1 ≤ 1000) (l2 : n2 ≤ 1000) (hb : b ≠ 0) (hD : DivSaid a b) (hR : Hid (a % b = R))
     (hr0 : Hid (R ≠ 0)) :
    Calls Tryd.prog 42 #[.agg #[.bool false, .slice A1 n1 c1], .agg #[.bool true, .slice A2 n2 c2]] w fun e w' => Said w w' e true (b - R) := by
  have HS := fun W h => Lib.hid (sign_any true A2 n2 c2 b W h (by omega))
  have hz := sign_nz (nb := true) hb
  obtain ⟨W, hW⟩ : ∃ W, W = ((w.alloc (.cells #[.bool false, .slice A1 n1 c1] 24)).alloc (.cells #[.bool true, .slice A2 n2 c2] 24)).alloc (.cells #[.bool false, .slice none 0 0] 24) := ⟨_, rfl⟩
  obtain ⟨t1, t2, t3, hbW, hWs⟩ := boxes3 w _ _ _ _ _ _ W hW
  obtain ⟨V, hV⟩ : ∃ V, V = W.alloc (.cells #[.bool true, .slice A2 n2 c2] 24) := ⟨_, rfl⟩
  have hbV : Below w.heap.size w V := by rw [hV]; exact below_al hbW _
  have u1 : Two V w.heap.size 24 (.bool false) (.slice A1 n1 c1) := by rw [hV]; exact t1.alloc _
  have u2 : Two V (w.heap.size + 1) 24 (.bool true) (.slice A2 n2 c2) := by rw [hV]; exact t2.alloc _
  have u3 : Two V (w.heap.size + 2) 24 (.bool false) (.slice none 0 0) := by rw [hV]; exact t3.alloc _
  have hVs : V.heap.size = w.heap.size + 4 := by rw [hV]; simp [hWs]
  have HM2 := h2.below hbW
  have m1 := h1.below hbV
  have m2 := h2.below hbV
  have k1 := u1.fst
  have k2 := u1.snd
  have k3 := u2.fst
  have k4 := u2.snd
  have hbr : Hid (R < b) := Lib.hid (by rw [← hR.out]; exact Nat.mod_lt _ (by omega))
  have dlr : dl R ≤ dl b := dl_mono (Nat.le_of_lt hbr.out)
  have dlb : dl b ≤ 1000 := Nat.le_trans h2.le l2
  have dla : dl a ≤ 1000 := Nat.le_trans h1.le l1
  have HDP : ∀ W, Mag W A1 (dl a) c1 a → Mag W A2 (dl b) c2 b → Hid (Calls Tryd.prog 62 #[.slice A1 (dl a) c1, .slice A2 (dl b) c2] W fun e w' => ∃ B1 d1 B2 d2, e = .returned (.tuple #[.slice B1 (dl (a / b)) d1, .slice B2 (dl R) d2]) ∧ Mag w' B2 (dl R) d2 R ∧ Below W.heap.size W w') := fun W h h' => Lib.hid ((hD A1 A2 c1 c2 W h h').mono fun e w' ⟨B1, d1, B2, d2, he, _, hm, hb⟩ => ⟨B1, d1, B2, d2, by rw [← hR.out]; exact he, by rw [← hR.out]; exact hm, hb⟩)
  have HVS := Lib.hid hVs
  clear hVs hWs t1 t2 t3 hb hD
  have T2 := fun W h => Lib.hid (trim_mag A2 n2 c2 b W h (by omega))
  have T1 := fun W h => Lib.hid (trim_mag A1 n1 c1 a W h (by omega))
  have hd0 : 0 < (dl R : Int) := by have := dl_pos hr0.out; omega
  have hle : Hid (R ≤ b) := Lib.hid (Nat.le_of_lt hbr.out)
  go_enter Tryd.func42, Tryd.ntmps42
  go_wp2_with fail
  rw [← hW]
  refine ((HS _ HM2).out).mono ?_
  rintro e w' ⟨rfl, rfl⟩
  rw [← hV]
  have HWW := Lib.hid hW
  have HVV := Lib.hid hV
  clear hW hV
  go_wp2_with (first | (go_at_call 54; (first | (with_reducible refine ((T2 _ m2).out).mono ?_) | (with_reducible refine ((T1 _ m1).out).mono ?_)); rintro e w' ⟨rfl, rfl⟩) | (go_at_call 62; refine ((HDP _ m1.trim m2.trim).out).mono ?_; rintro e w1 ⟨B1, d1, B2, d2, rfl, hm, hb1⟩; have p1 := (u1.below' hb1).fst; have p2 := (u2.below' hb1).fst) | (go_at_call 52; refine (signed_any true _).mono ?_; rintro e w' ⟨rfl, rfl⟩)| (go_at_call 63; refine (minus_mag A2 B2 (dl b) (dl R) c2 d2 b R _ (m2.trim.below hb1) hm (by omega) dlr hle).mono ?_; rintro e w3 ⟨rfl, hm3, hb3⟩; have r1 := ((u1.below' hb1).below' hb3).fst; have r2 := ((u2.below' hb1).below' hb3).fst; have hb13 : Below V.heap.size V w3 := below_then hb1 hb3) | (go_at_call 79; refine (signed1_any w3.heap.size true (some ⟨w1.heap.size, 0, none⟩) (dl b) (dl b) (b - R) _ (one_made _ _ _) (hm3.alloc _) (by omega)).mono ?_; rintro e w9 ⟨rr, AA, mm, cc, vv, rfl, hf⟩; have hb9 : Below V.heap.size V w9 := below_then hb13 (below_then (below_al (Below.refl _ _) _) hf.low); have q0 := (u3.below' hb9).fst; have q1 := (u3.below' hb9).snd; have q2 := (u3.below' hb9).free 0; have q3 := (u3.below' hb9).free 1))
  exact bodyPost_ret (v := .tuple #[.agg #[.bool rr, .slice AA mm cc], .int .i64 vv]) (by simp [results, Tryd.results42, go_sem, q0, q1]) rfl
    ⟨rr, AA, mm, cc, vv, rfl, hf.two (g := w.heap.size + 1 + 1) (below_al (below_then hbV hb13) _) (by omega) (by have := HVS.out; have := hb13.size; simp; omega)⟩
theorem mod_said (na nb : Bool) (A1 A2 : Option Addr) (n1 c1 a n2 c2 b : Nat) (w : World) (h1 : Mag w A1 n1 c1 a) (h2 : Mag w A2 n2 c2 b) (l1 : n1 ≤ 1000) (l2 : n2 ≤ 1000) (hb : b ≠ 0) :
    Calls Tryd.prog 42 #[.agg #[.bool na, .slice A1 n1 c1], .agg #[.bool nb, .slice A2 n2 c2]] w fun e w' => Said w w' e nb (modN na nb a b) := by
  have hD := div_said a b hb (Nat.le_trans h1.le l1) (Nat.le_trans h2.le l2)
  by_cases hx : na = nb
  · have e : modN na nb a b = a % b := by unfold modN; rw [if_neg]; exact fun h => h.1 hx
    rw [e]
    subst hx
    cases na
    · exact modS_same_ff A1 A2 n1 c1 a n2 c2 b _ w h1 h2 l1 l2 hb hD (Lib.hid rfl)
    · exact modS_same_tt A1 A2 n1 c1 a n2 c2 b _ w h1 h2 l1 l2 hb hD (Lib.hid rfl)
  · by_cases hr : a % b = 0
    · have e : modN na nb a b = a % b := by unfold modN; rw [if_neg]; exact fun h => h.2 hr
      rw [e]
      cases na <;> cases nb <;> first | exact absurd rfl hx | exact modS_none_ft A1 A2 n1 c1 a n2 c2 b _ w h1 h2 l1 l2 hb hD (Lib.hid rfl) (Lib.hid hr) | exact modS_none_tf A1 A2 n1 c1 a n2 c2 b _ w h1 h2 l1 l2 hb hD (Lib.hid rfl) (Lib.hid hr)
    · have e : modN na nb a b = b - a % b := by unfold modN; rw [if_pos ⟨hx, hr⟩]
      rw [e]
      cases na <;> cases nb <;> first | exact absurd rfl hx | exact modS_turn_ft A1 A2 n1 c1 a n2 c2 b _ w h1 h2 l1 l2 hb hD (Lib.hid rfl) (Lib.hid hr) | exact modS_turn_tf A1 A2 n1 c1 a n2 c2 b _ w h1 h2 l1 l2 hb hD (Lib.hid rfl) (Lib.hid hr)
theorem sg_quo (na nb : Bool) (a b : Nat) : sg (!(na == nb)) (a / b) = Int.tdiv (sg na a) (sg nb b) := by
  cases na <;> cases nb <;> simp [sg, Int.neg_tdiv, Int.tdiv_neg]
theorem sg_rem (na nb : Bool) (a b : Nat) : sg na (a % b) = Int.tmod (sg na a) (sg nb b) := by
  cases na <;> cases nb <;> simp [sg, Int.neg_tmod, Int.tmod_neg, Int.tmod_eq_emod_of_nonneg (Int.natCast_nonneg a)]
theorem sg_ne {nb : Bool} {b : Nat} (h : sg nb b ≠ 0) : b ≠ 0 := by
  intro e
  subst e
  cases nb <;> exact h rfl
theorem fmod_turn {a b : Nat} (hb : 0 < b) (hr : a % b ≠ 0) : Int.fmod (-(a : Int)) (b : Int) = ((b - a % b : Nat) : Int) := by
  have hl := Nat.mod_lt a hb
  rw [Int.fmod_eq_emod_of_nonneg _ (Int.natCast_nonneg b)]
  have h1 : (-(a : Int)) = ((b - a % b : Nat) : Int) + (b : Int) * (-((a / b : Nat) : Int) - 1) := by
    have h2 : (a : Int) = (b : Int) * ((a / b : Nat) : Int) + ((a % b : Nat) : Int) := by
      rw [← Int.natCast_mul, ← Int.natCast_add, Nat.div_add_mod]
    rw [Int.mul_sub, Int.mul_neg, Int.mul_one]
    omega
  rw [h1, Int.add_mul_emod_self_left]
  exact Int.emod_eq_of_lt (by omega) (by omega)
theorem sg_mod (na nb : Bool) (a b : Nat) (hb : b ≠ 0) : sg nb (modN na nb a b) = Int.fmod (sg na a) (sg nb b) := by
  have h0 : 0 < b := by omega
  have hl := Nat.mod_lt a h0
  by_cases hx : na = nb
  · have e : modN na nb a b = a % b := by unfold modN; rw [if_neg]; exact fun h => h.1 hx
    rw [e]
    subst hx
    cases na
    · simp [sg, Int.fmod_eq_emod_of_nonneg]
    · simp [sg, Int.neg_fmod_neg, Int.fmod_eq_emod_of_nonneg]
  · by_cases hr : a % b = 0
    · have e : modN na nb a b = a % b := by unfold modN; rw [if_neg]; exact fun h => h.2 hr
      rw [e, hr]
      have hd : b ∣ a := Nat.dvd_of_mod_eq_zero hr
      have hi : (b : Int) ∣ (a : Int) := Int.natCast_dvd_natCast.mpr hd
      cases na <;> cases nb <;> first | exact absurd rfl hx | (simp only [sg]; symm; simp; exact Int.fmod_eq_zero_of_dvd (by first | exact Int.dvd_neg.mpr hi | exact Int.neg_dvd.mpr hi))
    · have e : modN na nb a b = b - a % b := by unfold modN; rw [if_pos ⟨hx, hr⟩]
      rw [e]
      have h1 := fmod_turn h0 hr
      cases na <;> cases nb <;> first | exact absurd rfl hx | exact h1.symm | skip
      show -(((b - a % b : Nat) : Int)) = Int.fmod (a : Int) (-(b : Int))
      have h2 := Int.neg_fmod_neg (-(a : Int)) (b : Int)
      rw [Int.neg_neg] at h2
      rw [h2, h1]
theorem quo_at {na nb : Bool} {A1 A2 : Option Addr} {n1 c1 n2 c2 : Nat} {x y : Int} (w : World) (h1 : NumAt w na A1 n1 c1 x) (h2 : NumAt w nb A2 n2 c2 y) (l1 : n1 ≤ 1000) (l2 : n2 ≤ 1000) (hy : y ≠ 0) :
    Calls Tryd.prog 40 #[.agg #[.bool na, .slice A1 n1 c1], .agg #[.bool nb, .slice A2 n2 c2]] w fun e w' => Gives w w' e (Int.tdiv x y) := by
  obtain ⟨a, m1, rfl⟩ := h1
  obtain ⟨b, m2, rfl⟩ := h2
  exact (quo_any na nb A1 A2 n1 c1 a n2 c2 b _ rfl w m1 m2 l1 l2 (sg_ne hy)).mono fun e w' h => ⟨_, _, h, sg_quo na nb a b⟩
theorem rem_at {na nb : Bool} {A1 A2 : Option Addr} {n1 c1 n2 c2 : Nat} {x y : Int} (w : World) (h1 : NumAt w na A1 n1 c1 x) (h2 : NumAt w nb A2 n2 c2 y) (l1 : n1 ≤ 1000) (l2 : n2 ≤ 1000) (hy : y ≠ 0) :
    Calls Tryd.prog 41 #[.agg #[.bool na, .slice A1 n1 c1], .agg #[.bool nb, .slice A2 n2 c2]] w fun e w' => Gives w w' e (Int.tmod x y) := by
  obtain ⟨a, m1, rfl⟩ := h1
  obtain ⟨b, m2, rfl⟩ := h2
  exact (rem_any na nb A1 A2 n1 c1 a n2 c2 b w m1 m2 l1 l2 (sg_ne hy)).mono fun e w' h => ⟨_, _, h, sg_rem na nb a b⟩
theorem mod_at {na nb : Bool} {A1 A2 : Option Addr} {n1 c1 n2 c2 : Nat} {x y : Int} (w : World) (h1 : NumAt w na A1 n1 c1 x) (h2 : NumAt w nb A2 n2 c2 y) (l1 : n1 ≤ 1000) (l2 : n2 ≤ 1000) (hy : y ≠ 0) :
    Calls Tryd.prog 42 #[.agg #[.bool na, .slice A1 n1 c1], .agg #[.bool nb, .slice A2 n2 c2]] w fun e w' => Gives w w' e (Int.fmod x y) := by
  obtain ⟨a, m1, rfl⟩ := h1
  obtain ⟨b, m2, rfl⟩ := h2
  exact (mod_said na nb A1 A2 n1 c1 a n2 c2 b w m1 m2 l1 l2 (sg_ne hy)).mono fun e w' h => ⟨_, _, h, sg_mod na nb a b (sg_ne hy)⟩
end Go.Proofs.YtocoflojlliapaaDoor
