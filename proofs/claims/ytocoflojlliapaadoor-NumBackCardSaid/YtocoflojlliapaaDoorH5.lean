import Derived.Test.YtocoflojlliapaaDoorH4
set_option linter.unusedVariables false
namespace Go.Proofs.YtocoflojlliapaaDoor
open Go.RowKit
theorem fresh_nil {w w' : World} (hb : Below w.heap.size w w') : Fresh w w' none 0 0 := ⟨own_nil, hb⟩
theorem said_zero {w w' : World} {e : Ending} {R : Bool} {N : Nat} (hN : N = 0) (he : e = .returned (.tuple #[.agg #[.bool false, .slice none 0 0], .int .i64 0])) (hb : Below w.heap.size w w') : Said w w' e R N := by
  subst hN
  exact ⟨false, none, 0, 0, 0, he, .inl ⟨by rw [dl_zero]; omega, (signB_zero R).symm, dl_zero.symm, rfl, fresh_nil hb⟩⟩
theorem said_big {w w' : World} {e : Ending} {R : Bool} {N : Nat} (hN : 48 < dl N) (he : e = .returned (.tuple #[.agg #[.bool false, .slice none 0 0], .int .i64 6])) (hb : Below w.heap.size w w') : Said w w' e R N :=
  ⟨false, none, 0, 0, 6, he, .inr ⟨hN, rfl, rfl, rfl, rfl, rfl, hb⟩⟩
theorem dl_nz {N : Nat} (h : 0 < dl N) : N ≠ 0 := by
  rintro rfl
  rw [dl_zero] at h
  omega
theorem dl_z {N : Nat} (h : dl N = 0) : N = 0 := by
  rcases Nat.eq_zero_or_pos N with h0 | h0
  · exact h0
  · have := dl_pos (N := N) (by omega)
    omega
theorem dl_mul {a b : Nat} (ha : 0 < dl a) (hb : 0 < dl b) (h : 48 < dl a + dl b - 1) : 48 < dl (a * b) := by
  rcases Nat.lt_or_ge 48 (dl (a * b)) with h1 | h1
  · exact h1
  · have h2 := (dl_le (a * b) 48).1 h1
    have h3 := dl_low a (dl_nz ha)
    have h4 := dl_low b (dl_nz hb)
    have h5 : 4294967296 ^ (dl a - 1) * 4294967296 ^ (dl b - 1) ≤ a * b := Nat.mul_le_mul h3 h4
    rw [← Nat.pow_add] at h5
    have h6 : (4294967296 : Nat) ^ 48 ≤ 4294967296 ^ (dl a - 1 + (dl b - 1)) := Nat.pow_le_pow_right (by decide) (by omega)
    omega
set_option maxHeartbeats 3200000 in
theorem mul_za (na nb : Bool) (R : Bool) (A1 A2 : Option Addr) (n1 c1 a n2 c2 b : Nat) (w : World) (h1 : Mag w A1 n1 c1 a) (h2 : Mag w A2 n2 c2 b) (l1 : n1 ≤ 1000) (l2 : n2 ≤ 1000) (da db : Nat) (hda : Hid (dl a = da)) (hdb : Hid (dl b = db)) (h0 : da = 0) :
    Calls Tryd.prog 38 #[.agg #[.bool na, .slice A1 n1 c1], .agg #[.bool nb, .slice A2 n2 c2]] w fun e w' => Said w w' e R (a * b) := by
  obtain ⟨W, hW⟩ : ∃ W, W = ((w.alloc (.cells #[.bool na, .slice A1 n1 c1] 24)).alloc (.cells #[.bool nb, .slice A2 n2 c2] 24)).alloc (.cells #[.bool false, .slice none 0 0] 24) := ⟨_, rfl⟩
  obtain ⟨t1, t2, t3, hbW, hWs⟩ := boxes3 w _ _ _ _ _ _ W hW
  have m1 := h1.below hbW
  have m2 := h2.below hbW
  have k1 := t1.fst
  have k2 := t1.snd
  have k3 := t2.fst
  have k4 := t2.snd
  have dlb : db ≤ 1000 := by rw [← hdb.out]; exact Nat.le_trans h2.le l2
  have dla : da ≤ 1000 := by rw [← hda.out]; exact Nat.le_trans h1.le l1
  have T1 : ∀ V, Mag V A1 n1 c1 a → Calls Tryd.prog 54 #[.slice A1 n1 c1] V fun e w' => e = .returned (.slice A1 da c1) ∧ V = w' := fun V h => by rw [← hda.out]; exact trim_mag A1 n1 c1 a V h (by omega)
  have T2 : ∀ V, Mag V A2 n2 c2 b → Calls Tryd.prog 54 #[.slice A2 n2 c2] V fun e w' => e = .returned (.slice A2 db c2) ∧ V = w' := fun V h => by rw [← hdb.out]; exact trim_mag A2 n2 c2 b V h (by omega)
  have T1' : ∀ V, Mag V A1 n1 c1 a → Hid (Mag V A1 da c1 a) := fun V h => Lib.hid (by rw [← hda.out]; exact h.trim)
  have T2' : ∀ V, Mag V A2 n2 c2 b → Hid (Mag V A2 db c2 b) := fun V h => Lib.hid (by rw [← hdb.out]; exact h.trim)
  have TH1 := fun V h => Lib.hid (T1 V h)
  have TH2 := fun V h => Lib.hid (T2 V h)
  clear T1 T2
  have HN : Hid (a * b = 0) := Lib.hid (by rw [dl_z (hda.out.trans h0), Nat.zero_mul])
  subst h0
  go_enter Tryd.func38, Tryd.ntmps38
  go_wp2_with fail
  rw [← hW]
  have HW := Lib.hid hW
  have HWS := Lib.hid hWs
  clear hW hWs
  go_quiet ((go_at_call 54; (first | (with_reducible exact calm (TH1 _ (m1.drewN _)).out) | (with_reducible exact calm (TH2 _ (m2.drewN _)).out))))
  obtain ⟨V, hV⟩ : ∃ V, V = W.drewN nq := ⟨_, rfl⟩
  have hbV : Below w.heap.size w V := by rw [hV]; exact below_drewN hbW _
  have u1 : Two V w.heap.size 24 (.bool na) (.slice A1 n1 c1) := by rw [hV]; exact t1
  have u2 : Two V (w.heap.size + 1) 24 (.bool nb) (.slice A2 n2 c2) := by rw [hV]; exact t2
  have u3 : Two V (w.heap.size + 2) 24 (.bool false) (.slice none 0 0) := by rw [hV]; exact t3
  have m1' : Mag V A1 n1 c1 a := by rw [hV]; exact m1
  have m2' : Mag V A2 n2 c2 b := by rw [hV]; exact m2
  have hVs : Hid (V.heap.size = w.heap.size + 3) := by rw [hV]; exact HWS
  rw [← hV]
  clear hV m1 m2 t1 t2 t3 k1 k2 k3 k4
  have k1 := u1.fst
  have k2 := u2.fst
  have k3 := u3.fst
  have k4 := u3.snd
  have k5 := u3.free 0
  have k6 := u3.free 1
  go_wp2
  all_goals exact bodyPost_ret (v := .tuple #[.agg #[.bool false, .slice none 0 0], .int .i64 0]) (by simp [results, Tryd.results38, go_sem, k3, k4]) rfl (said_zero HN.out rfl (below_two (g := w.heap.size + 1 + 1) hbV (by omega)))
set_option maxHeartbeats 3200000 in
theorem mul_zb (na nb : Bool) (R : Bool) (A1 A2 : Option Addr) (n1 c1 a n2 c2 b : Nat) (w : World) (h1 : Mag w A1 n1 c1 a) (h2 : Mag w A2 n2 c2 b) (l1 : n1 ≤ 1000) (l2 : n2 ≤ 1000) (da db : Nat) (hda : Hid (dl a = da)) (hdb : Hid (dl b = db)) (h0 : 0 < da) (h00 : db = 0) :
    Calls Tryd.prog 38 #[.agg #[.bool na, .slice A1 n1 c1], .agg #[.bool nb, .slice A2 n2 c2]] w fun e w' => Said w w' e R (a * b) := by
  obtain ⟨W, hW⟩ : ∃ W, W = ((w.alloc (.cells #[.bool na, .slice A1 n1 c1] 24)).alloc (.cells #[.bool nb, .slice A2 n2 c2] 24)).alloc (.cells #[.bool false, .slice none 0 0] 24) := ⟨_, rfl⟩
  obtain ⟨t1, t2, t3, hbW, hWs⟩ := boxes3 w _ _ _ _ _ _ W hW
  have m1 := h1.below hbW
  have m2 := h2.below hbW
  have k1 := t1.fst
  have k2 := t1.snd
  have k3 := t2.fst
  have k4 := t2.snd
  have dlb : db ≤ 1000 := by rw [← hdb.out]; exact Nat.le_trans h2.le l2
  have dla : da ≤ 1000 := by rw [← hda.out]; exact Nat.le_trans h1.le l1
  have T1 : ∀ V, Mag V A1 n1 c1 a → Calls Tryd.prog 54 #[.slice A1 n1 c1] V fun e w' => e = .returned (.slice A1 da c1) ∧ V = w' := fun V h => by rw [← hda.out]; exact trim_mag A1 n1 c1 a V h (by omega)
  have T2 : ∀ V, Mag V A2 n2 c2 b → Calls Tryd.prog 54 #[.slice A2 n2 c2] V fun e w' => e = .returned (.slice A2 db c2) ∧ V = w' := fun V h => by rw [← hdb.out]; exact trim_mag A2 n2 c2 b V h (by omega)
  have T1' : ∀ V, Mag V A1 n1 c1 a → Hid (Mag V A1 da c1 a) := fun V h => Lib.hid (by rw [← hda.out]; exact h.trim)
  have T2' : ∀ V, Mag V A2 n2 c2 b → Hid (Mag V A2 db c2 b) := fun V h => Lib.hid (by rw [← hdb.out]; exact h.trim)
  have TH1 := fun V h => Lib.hid (T1 V h)
  have TH2 := fun V h => Lib.hid (T2 V h)
  clear T1 T2
  have HN : Hid (a * b = 0) := Lib.hid (by rw [dl_z (hdb.out.trans h00), Nat.mul_zero])
  subst h00
  go_enter Tryd.func38, Tryd.ntmps38
  go_wp2_with fail
  rw [← hW]
  have HW := Lib.hid hW
  have HWS := Lib.hid hWs
  clear hW hWs
  go_quiet ((go_at_call 54; (first | (with_reducible exact calm (TH1 _ (m1.drewN _)).out) | (with_reducible exact calm (TH2 _ (m2.drewN _)).out))))
  obtain ⟨V, hV⟩ : ∃ V, V = W.drewN nq := ⟨_, rfl⟩
  have hbV : Below w.heap.size w V := by rw [hV]; exact below_drewN hbW _
  have u1 : Two V w.heap.size 24 (.bool na) (.slice A1 n1 c1) := by rw [hV]; exact t1
  have u2 : Two V (w.heap.size + 1) 24 (.bool nb) (.slice A2 n2 c2) := by rw [hV]; exact t2
  have u3 : Two V (w.heap.size + 2) 24 (.bool false) (.slice none 0 0) := by rw [hV]; exact t3
  have m1' : Mag V A1 n1 c1 a := by rw [hV]; exact m1
  have m2' : Mag V A2 n2 c2 b := by rw [hV]; exact m2
  have hVs : Hid (V.heap.size = w.heap.size + 3) := by rw [hV]; exact HWS
  rw [← hV]
  clear hV m1 m2 t1 t2 t3 k1 k2 k3 k4
  have k1 := u1.fst
  have k2 := u2.fst
  have k3 := u3.fst
  have k4 := u3.snd
  have k5 := u3.free 0
  have k6 := u3.free 1
  go_wp2
  all_goals exact bodyPost_ret (v := .tuple #[.agg #[.bool false, .slice none 0 0], .int .i64 0]) (by simp [results, Tryd.results38, go_sem, k3, k4]) rfl (said_zero HN.out rfl (below_two (g := w.heap.size + 1 + 1) hbV (by omega)))
set_option maxHeartbeats 3200000 in
theorem mul_big (na nb : Bool) (R : Bool) (A1 A2 : Option Addr) (n1 c1 a n2 c2 b : Nat) (w : World) (h1 : Mag w A1 n1 c1 a) (h2 : Mag w A2 n2 c2 b) (l1 : n1 ≤ 1000) (l2 : n2 ≤ 1000) (da db : Nat) (hda : Hid (dl a = da)) (hdb : Hid (dl b = db)) (h0 : 0 < da) (h00 : 0 < db) (hs : 49 < da + db) :
    Calls Tryd.prog 38 #[.agg #[.bool na, .slice A1 n1 c1], .agg #[.bool nb, .slice A2 n2 c2]] w fun e w' => Said w w' e R (a * b) := by
  obtain ⟨W, hW⟩ : ∃ W, W = ((w.alloc (.cells #[.bool na, .slice A1 n1 c1] 24)).alloc (.cells #[.bool nb, .slice A2 n2 c2] 24)).alloc (.cells #[.bool false, .slice none 0 0] 24) := ⟨_, rfl⟩
  obtain ⟨t1, t2, t3, hbW, hWs⟩ := boxes3 w _ _ _ _ _ _ W hW
  have m1 := h1.below hbW
  have m2 := h2.below hbW
  have k1 := t1.fst
  have k2 := t1.snd
  have k3 := t2.fst
  have k4 := t2.snd
  have dlb : db ≤ 1000 := by rw [← hdb.out]; exact Nat.le_trans h2.le l2
  have dla : da ≤ 1000 := by rw [← hda.out]; exact Nat.le_trans h1.le l1
  have T1 : ∀ V, Mag V A1 n1 c1 a → Calls Tryd.prog 54 #[.slice A1 n1 c1] V fun e w' => e = .returned (.slice A1 da c1) ∧ V = w' := fun V h => by rw [← hda.out]; exact trim_mag A1 n1 c1 a V h (by omega)
  have T2 : ∀ V, Mag V A2 n2 c2 b → Calls Tryd.prog 54 #[.slice A2 n2 c2] V fun e w' => e = .returned (.slice A2 db c2) ∧ V = w' := fun V h => by rw [← hdb.out]; exact trim_mag A2 n2 c2 b V h (by omega)
  have T1' : ∀ V, Mag V A1 n1 c1 a → Hid (Mag V A1 da c1 a) := fun V h => Lib.hid (by rw [← hda.out]; exact h.trim)
  have T2' : ∀ V, Mag V A2 n2 c2 b → Hid (Mag V A2 db c2 b) := fun V h => Lib.hid (by rw [← hdb.out]; exact h.trim)
  have TH1 := fun V h => Lib.hid (T1 V h)
  have TH2 := fun V h => Lib.hid (T2 V h)
  clear T1 T2
  have HN : Hid (48 < dl (a * b)) := Lib.hid (dl_mul (by rw [hda.out]; exact h0) (by rw [hdb.out]; exact h00) (by rw [hda.out, hdb.out]; omega))
  have e1 : ((da : Int) == 0) = false := by simp; omega
  have e2 : ((db : Int) == 0) = false := by simp; omega
  go_enter Tryd.func38, Tryd.ntmps38
  go_wp2_with fail
  rw [← hW]
  have HW := Lib.hid hW
  have HWS := Lib.hid hWs
  clear hW hWs
  go_quiet ((go_at_call 54; (first | (with_reducible exact calm (TH1 _ (m1.drewN _)).out) | (with_reducible exact calm (TH2 _ (m2.drewN _)).out))))
  obtain ⟨V, hV⟩ : ∃ V, V = W.drewN nq := ⟨_, rfl⟩
  have hbV : Below w.heap.size w V := by rw [hV]; exact below_drewN hbW _
  have u1 : Two V w.heap.size 24 (.bool na) (.slice A1 n1 c1) := by rw [hV]; exact t1
  have u2 : Two V (w.heap.size + 1) 24 (.bool nb) (.slice A2 n2 c2) := by rw [hV]; exact t2
  have u3 : Two V (w.heap.size + 2) 24 (.bool false) (.slice none 0 0) := by rw [hV]; exact t3
  have m1' : Mag V A1 n1 c1 a := by rw [hV]; exact m1
  have m2' : Mag V A2 n2 c2 b := by rw [hV]; exact m2
  have hVs : Hid (V.heap.size = w.heap.size + 3) := by rw [hV]; exact HWS
  rw [← hV]
  clear hV m1 m2 t1 t2 t3 k1 k2 k3 k4
  have k1 := u1.fst
  have k2 := u2.fst
  have k3 := u3.fst
  have k4 := u3.snd
  have k5 := u3.free 0
  have k6 := u3.free 1
  go_wp2
  all_goals exact bodyPost_ret (v := .tuple #[.agg #[.bool false, .slice none 0 0], .int .i64 6]) (by simp [results, Tryd.results38, go_sem, k3, k4]) rfl (said_big HN.out rfl (below_two (g := w.heap.size + 1 + 1) hbV (by omega)))
set_option maxHeartbeats 3200000 in
theorem mul_tt (A1 A2 : Option Addr) (n1 c1 a n2 c2 b : Nat) (w : World) (h1 : Mag w A1 n1 c1 a) (h2 : Mag w A2 n2 c2 b) (l1 : n1 ≤ 1000) (l2 : n2 ≤ 1000) (da db : Nat) (hda : Hid (dl a = da)) (hdb : Hid (dl b = db)) (h0 : 0 < da) (h00 : 0 < db) (hs : da + db ≤ 49) :
    Calls Tryd.prog 38 #[.agg #[.bool true, .slice A1 n1 c1], .agg #[.bool true, .slice A2 n2 c2]] w fun e w' => Said w w' e false (a * b) := by
  obtain ⟨W, hW⟩ : ∃ W, W = ((w.alloc (.cells #[.bool true, .slice A1 n1 c1] 24)).alloc (.cells #[.bool true, .slice A2 n2 c2] 24)).alloc (.cells #[.bool false, .slice none 0 0] 24) := ⟨_, rfl⟩
  obtain ⟨t1, t2, t3, hbW, hWs⟩ := boxes3 w _ _ _ _ _ _ W hW
  have m1 := h1.below hbW
  have m2 := h2.below hbW
  have k1 := t1.fst
  have k2 := t1.snd
  have k3 := t2.fst
  have k4 := t2.snd
  have dlb : db ≤ 1000 := by rw [← hdb.out]; exact Nat.le_trans h2.le l2
  have dla : da ≤ 1000 := by rw [← hda.out]; exact Nat.le_trans h1.le l1
  have T1 : ∀ V, Mag V A1 n1 c1 a → Calls Tryd.prog 54 #[.slice A1 n1 c1] V fun e w' => e = .returned (.slice A1 da c1) ∧ V = w' := fun V h => by rw [← hda.out]; exact trim_mag A1 n1 c1 a V h (by omega)
  have T2 : ∀ V, Mag V A2 n2 c2 b → Calls Tryd.prog 54 #[.slice A2 n2 c2] V fun e w' => e = .returned (.slice A2 db c2) ∧ V = w' := fun V h => by rw [← hdb.out]; exact trim_mag A2 n2 c2 b V h (by omega)
  have T1' : ∀ V, Mag V A1 n1 c1 a → Hid (Mag V A1 da c1 a) := fun V h => Lib.hid (by rw [← hda.out]; exact h.trim)
  have T2' : ∀ V, Mag V A2 n2 c2 b → Hid (Mag V A2 db c2 b) := fun V h => Lib.hid (by rw [← hdb.out]; exact h.trim)
  have TH1 := fun V h => Lib.hid (T1 V h)
  have TH2 := fun V h => Lib.hid (T2 V h)
  clear T1 T2
  have e1 : ((da : Int) == 0) = false := by simp; omega
  have e2 : ((db : Int) == 0) = false := by simp; omega
  go_enter Tryd.func38, Tryd.ntmps38
  go_wp2_with fail
  rw [← hW]
  have HW := Lib.hid hW
  have HWS := Lib.hid hWs
  clear hW hWs
  go_quiet ((go_at_call 54; (first | (with_reducible exact calm (TH1 _ (m1.drewN _)).out) | (with_reducible exact calm (TH2 _ (m2.drewN _)).out))))
  obtain ⟨V, hV⟩ : ∃ V, V = W.drewN nq := ⟨_, rfl⟩
  have hbV : Below w.heap.size w V := by rw [hV]; exact below_drewN hbW _
  have u1 : Two V w.heap.size 24 (.bool true) (.slice A1 n1 c1) := by rw [hV]; exact t1
  have u2 : Two V (w.heap.size + 1) 24 (.bool true) (.slice A2 n2 c2) := by rw [hV]; exact t2
  have u3 : Two V (w.heap.size + 2) 24 (.bool false) (.slice none 0 0) := by rw [hV]; exact t3
  have m1' : Mag V A1 n1 c1 a := by rw [hV]; exact m1
  have m2' : Mag V A2 n2 c2 b := by rw [hV]; exact m2
  have hVs : Hid (V.heap.size = w.heap.size + 3) := by rw [hV]; exact HWS
  rw [← hV]
  clear hV m1 m2 t1 t2 t3 k1 k2 k3 k4
  have k1 := u1.fst
  have k2 := u2.fst
  have k3 := u3.fst
  have k4 := u3.snd
  have k5 := u3.free 0
  have k6 := u3.free 1
  have PL := fun W h h' => Lib.hid (times_mag A1 A2 da db c1 c2 a b W h h' (by omega) (by omega))
  have q1 : ∀ V', Below V.heap.size V V' → Hid (Mag V' A1 da c1 a) := fun V' h => T1' _ (m1'.below h)
  have q2 : ∀ V', Below V.heap.size V V' → Hid (Mag V' A2 db c2 b) := fun V' h => T2' _ (m2'.below h)
  go_wp2_with (first
    | (go_at_call 52; refine (signed_box false _).mono ?_; rintro e vb ⟨bx, rfl, xa, hb1⟩)
    | (go_at_call 61; refine ((PL _ (q1 _ hb1).out (q2 _ hb1).out).out).mono ?_; rintro e wp ⟨rfl, mp, bp⟩)
    | (go_at_call 79; refine (signed1_any bx false _ _ _ (a * b) _ (xa.below bp) mp (by omega)).mono ?_; rintro e ws ⟨r, A, m, c, v, rfl, ha⟩; have hbs : Below V.heap.size V ws := below_then hb1 (below_then bp ha.low); have z3 := (u3.below' hbs).fst; have z4 := (u3.below' hbs).snd; have z5 := (u3.below' hbs).free 0; have z6 := (u3.below' hbs).free 1))
  exact bodyPost_ret (v := .tuple #[.agg #[.bool r, .slice A m c], .int .i64 v]) (by simp [results, Tryd.results38, go_sem, z3, z4]) rfl
    ⟨r, A, m, c, v, rfl, ha.two (g := w.heap.size + 1 + 1) (below_then (below_then hbV hb1) bp) (by omega) (by have := hVs.out; have := hb1.size; have := bp.size; omega)⟩
set_option maxHeartbeats 3200000 in
theorem mul_tf (A1 A2 : Option Addr) (n1 c1 a n2 c2 b : Nat) (w : World) (h1 : Mag w A1 n1 c1 a) (h2 : Mag w A2 n2 c2 b) (l1 : n1 ≤ 1000) (l2 : n2 ≤ 1000) (da db : Nat) (hda : Hid (dl a = da)) (hdb : Hid (dl b = db)) (h0 : 0 < da) (h00 : 0 < db) (hs : da + db ≤ 49) :
    Calls Tryd.prog 38 #[.agg #[.bool true, .slice A1 n1 c1], .agg #[.bool false, .slice A2 n2 c2]] w fun e w' => Said w w' e true (a * b) := by
  obtain ⟨W, hW⟩ : ∃ W, W = ((w.alloc (.cells #[.bool true, .slice A1 n1 c1] 24)).alloc (.cells #[.bool false, .slice A2 n2 c2] 24)).alloc (.cells #[.bool false, .slice none 0 0] 24) := ⟨_, rfl⟩
  obtain ⟨t1, t2, t3, hbW, hWs⟩ := boxes3 w _ _ _ _ _ _ W hW
  have m1 := h1.below hbW
  have m2 := h2.below hbW
  have k1 := t1.fst
  have k2 := t1.snd
  have k3 := t2.fst
  have k4 := t2.snd
  have dlb : db ≤ 1000 := by rw [← hdb.out]; exact Nat.le_trans h2.le l2
  have dla : da ≤ 1000 := by rw [← hda.out]; exact Nat.le_trans h1.le l1
  have T1 : ∀ V, Mag V A1 n1 c1 a → Calls Tryd.prog 54 #[.slice A1 n1 c1] V fun e w' => e = .returned (.slice A1 da c1) ∧ V = w' := fun V h => by rw [← hda.out]; exact trim_mag A1 n1 c1 a V h (by omega)
  have T2 : ∀ V, Mag V A2 n2 c2 b → Calls Tryd.prog 54 #[.slice A2 n2 c2] V fun e w' => e = .returned (.slice A2 db c2) ∧ V = w' := fun V h => by rw [← hdb.out]; exact trim_mag A2 n2 c2 b V h (by omega)
  have T1' : ∀ V, Mag V A1 n1 c1 a → Hid (Mag V A1 da c1 a) := fun V h => Lib.hid (by rw [← hda.out]; exact h.trim)
  have T2' : ∀ V, Mag V A2 n2 c2 b → Hid (Mag V A2 db c2 b) := fun V h => Lib.hid (by rw [← hdb.out]; exact h.trim)
  have TH1 := fun V h => Lib.hid (T1 V h)
  have TH2 := fun V h => Lib.hid (T2 V h)
  clear T1 T2
  have e1 : ((da : Int) == 0) = false := by simp; omega
  have e2 : ((db : Int) == 0) = false := by simp; omega
  go_enter Tryd.func38, Tryd.ntmps38
  go_wp2_with fail
  rw [← hW]
  have HW := Lib.hid hW
  have HWS := Lib.hid hWs
  clear hW hWs
  go_quiet ((go_at_call 54; (first | (with_reducible exact calm (TH1 _ (m1.drewN _)).out) | (with_reducible exact calm (TH2 _ (m2.drewN _)).out))))
  obtain ⟨V, hV⟩ : ∃ V, V = W.drewN nq := ⟨_, rfl⟩
  have hbV : Below w.heap.size w V := by rw [hV]; exact below_drewN hbW _
  have u1 : Two V w.heap.size 24 (.bool true) (.slice A1 n1 c1) := by rw [hV]; exact t1
  have u2 : Two V (w.heap.size + 1) 24 (.bool false) (.slice A2 n2 c2) := by rw [hV]; exact t2
  have u3 : Two V (w.heap.size + 2) 24 (.bool false) (.slice none 0 0) := by rw [hV]; exact t3
  have m1' : Mag V A1 n1 c1 a := by rw [hV]; exact m1
  have m2' : Mag V A2 n2 c2 b := by rw [hV]; exact m2
  have hVs : Hid (V.heap.size = w.heap.size + 3) := by rw [hV]; exact HWS
  rw [← hV]
  clear hV m1 m2 t1 t2 t3 k1 k2 k3 k4
  have k1 := u1.fst
  have k2 := u2.fst
  have k3 := u3.fst
  have k4 := u3.snd
  have k5 := u3.free 0
  have k6 := u3.free 1
  have PL := fun W h h' => Lib.hid (times_mag A1 A2 da db c1 c2 a b W h h' (by omega) (by omega))
  have q1 : ∀ V', Below V.heap.size V V' → Hid (Mag V' A1 da c1 a) := fun V' h => T1' _ (m1'.below h)
  have q2 : ∀ V', Below V.heap.size V V' → Hid (Mag V' A2 db c2 b) := fun V' h => T2' _ (m2'.below h)
  go_wp2_with (first
    | (go_at_call 52; refine (signed_box true _).mono ?_; rintro e vb ⟨bx, rfl, xa, hb1⟩)
    | (go_at_call 61; refine ((PL _ (q1 _ hb1).out (q2 _ hb1).out).out).mono ?_; rintro e wp ⟨rfl, mp, bp⟩)
    | (go_at_call 79; refine (signed1_any bx true _ _ _ (a * b) _ (xa.below bp) mp (by omega)).mono ?_; rintro e ws ⟨r, A, m, c, v, rfl, ha⟩; have hbs : Below V.heap.size V ws := below_then hb1 (below_then bp ha.low); have z3 := (u3.below' hbs).fst; have z4 := (u3.below' hbs).snd; have z5 := (u3.below' hbs).free 0; have z6 := (u3.below' hbs).free 1))
  exact bodyPost_ret (v := .tuple #[.agg #[.bool r, .slice A m c], .int .i64 v]) (by simp [results, Tryd.results38, go_sem, z3, z4]) rfl
    ⟨r, A, m, c, v, rfl, ha.two (g := w.heap.size + 1 + 1) (below_then (below_then hbV hb1) bp) (by omega) (by have := hVs.out; have := hb1.size; have := bp.size; omega)⟩
set_option maxHeartbeats 3200000 in
theorem mul_ft (A1 A2 : Option Addr) (n1 c1 a n2 c2 b : Nat) (w : World) (h1 : Mag w A1 n1 c1 a) (h2 : Mag w A2 n2 c2 b) (l1 : n1 ≤ 1000) (l2 : n2 ≤ 1000) (da db : Nat) (hda : Hid (dl a = da)) (hdb : Hid (dl b = db)) (h0 : 0 < da) (h00 : 0 < db) (hs : da + db ≤ 49) :
    Calls Tryd.prog 38 #[.agg #[.bool false, .slice A1 n1 c1], .agg #[.bool true, .slice A2 n2 c2]] w fun e w' => Said w w' e true (a * b) := by
  obtain ⟨W, hW⟩ : ∃ W, W = ((w.alloc (.cells #[.bool false, .slice A1 n1 c1] 24)).alloc (.cells #[.bool true, .slice A2 n2 c2] 24)).alloc (.cells #[.bool false, .slice none 0 0] 24) := ⟨_, rfl⟩
  obtain ⟨t1, t2, t3, hbW, hWs⟩ := boxes3 w _ _ _ _ _ _ W hW
  have m1 := h1.below hbW
  have m2 := h2.below hbW
  have k1 := t1.fst
  have k2 := t1.snd
  have k3 := t2.fst
  have k4 := t2.snd
  have dlb : db ≤ 1000 := by rw [← hdb.out]; exact Nat.le_trans h2.le l2
  have dla : da ≤ 1000 := by rw [← hda.out]; exact Nat.le_trans h1.le l1
  have T1 : ∀ V, Mag V A1 n1 c1 a → Calls Tryd.prog 54 #[.slice A1 n1 c1] V fun e w' => e = .returned (.slice A1 da c1) ∧ V = w' := fun V h => by rw [← hda.out]; exact trim_mag A1 n1 c1 a V h (by omega)
  have T2 : ∀ V, Mag V A2 n2 c2 b → Calls Tryd.prog 54 #[.slice A2 n2 c2] V fun e w' => e = .returned (.slice A2 db c2) ∧ V = w' := fun V h => by rw [← hdb.out]; exact trim_mag A2 n2 c2 b V h (by omega)
  have T1' : ∀ V, Mag V A1 n1 c1 a → Hid (Mag V A1 da c1 a) := fun V h => Lib.hid (by rw [← hda.out]; exact h.trim)
  have T2' : ∀ V, Mag V A2 n2 c2 b → Hid (Mag V A2 db c2 b) := fun V h => Lib.hid (by rw [← hdb.out]; exact h.trim)
  have TH1 := fun V h => Lib.hid (T1 V h)
  have TH2 := fun V h => Lib.hid (T2 V h)
  clear T1 T2
  have e1 : ((da : Int) == 0) = false := by simp; omega
  have e2 : ((db : Int) == 0) = false := by simp; omega
  go_enter Tryd.func38, Tryd.ntmps38
  go_wp2_with fail
  rw [← hW]
  have HW := Lib.hid hW
  have HWS := Lib.hid hWs
  clear hW hWs
  go_quiet ((go_at_call 54; (first | (with_reducible exact calm (TH1 _ (m1.drewN _)).out) | (with_reducible exact calm (TH2 _ (m2.drewN _)).out))))
  obtain ⟨V, hV⟩ : ∃ V, V = W.drewN nq := ⟨_, rfl⟩
  have hbV : Below w.heap.size w V := by rw [hV]; exact below_drewN hbW _
  have u1 : Two V w.heap.size 24 (.bool false) (.slice A1 n1 c1) := by rw [hV]; exact t1
  have u2 : Two V (w.heap.size + 1) 24 (.bool true) (.slice A2 n2 c2) := by rw [hV]; exact t2
  have u3 : Two V (w.heap.size + 2) 24 (.bool false) (.slice none 0 0) := by rw [hV]; exact t3
  have m1' : Mag V A1 n1 c1 a := by rw [hV]; exact m1
  have m2' : Mag V A2 n2 c2 b := by rw [hV]; exact m2
  have hVs : Hid (V.heap.size = w.heap.size + 3) := by rw [hV]; exact HWS
  rw [← hV]
  clear hV m1 m2 t1 t2 t3 k1 k2 k3 k4
  have k1 := u1.fst
  have k2 := u2.fst
  have k3 := u3.fst
  have k4 := u3.snd
  have k5 := u3.free 0
  have k6 := u3.free 1
  have PL := fun W h h' => Lib.hid (times_mag A1 A2 da db c1 c2 a b W h h' (by omega) (by omega))
  have q1 : ∀ V', Below V.heap.size V V' → Hid (Mag V' A1 da c1 a) := fun V' h => T1' _ (m1'.below h)
  have q2 : ∀ V', Below V.heap.size V V' → Hid (Mag V' A2 db c2 b) := fun V' h => T2' _ (m2'.below h)
  go_wp2_with (first
    | (go_at_call 52; refine (signed_box true _).mono ?_; rintro e vb ⟨bx, rfl, xa, hb1⟩)
    | (go_at_call 61; refine ((PL _ (q1 _ hb1).out (q2 _ hb1).out).out).mono ?_; rintro e wp ⟨rfl, mp, bp⟩)
    | (go_at_call 79; refine (signed1_any bx true _ _ _ (a * b) _ (xa.below bp) mp (by omega)).mono ?_; rintro e ws ⟨r, A, m, c, v, rfl, ha⟩; have hbs : Below V.heap.size V ws := below_then hb1 (below_then bp ha.low); have z3 := (u3.below' hbs).fst; have z4 := (u3.below' hbs).snd; have z5 := (u3.below' hbs).free 0; have z6 := (u3.below' hbs).free 1))
  exact bodyPost_ret (v := .tuple #[.agg #[.bool r, .slice A m c], .int .i64 v]) (by simp [results, Tryd.results38, go_sem, z3, z4]) rfl
    ⟨r, A, m, c, v, rfl, ha.two (g := w.heap.size + 1 + 1) (below_then (below_then hbV hb1) bp) (by omega) (by have := hVs.out; have := hb1.size; have := bp.size; omega)⟩
set_option maxHeartbeats 3200000 in
theorem mul_ff (A1 A2 : Option Addr) (n1 c1 a n2 c2 b : Nat) (w : World) (h1 : Mag w A1 n1 c1 a) (h2 : Mag w A2 n2 c2 b) (l1 : n1 ≤ 1000) (l2 : n2 ≤ 1000) (da db : Nat) (hda : Hid (dl a = da)) (hdb : Hid (dl b = db)) (h0 : 0 < da) (h00 : 0 < db) (hs : da + db ≤ 49) :
    Calls Tryd.prog 38 #[.agg #[.bool false, .slice A1 n1 c1], .agg #[.bool false, .slice A2 n2 c2]] w fun e w' => Said w w' e false (a * b) := by
  obtain ⟨W, hW⟩ : ∃ W, W = ((w.alloc (.cells #[.bool false, .slice A1 n1 c1] 24)).alloc (.cells #[.bool false, .slice A2 n2 c2] 24)).alloc (.cells #[.bool false, .slice none 0 0] 24) := ⟨_, rfl⟩
  obtain ⟨t1, t2, t3, hbW, hWs⟩ := boxes3 w _ _ _ _ _ _ W hW
  have m1 := h1.below hbW
  have m2 := h2.below hbW
  have k1 := t1.fst
  have k2 := t1.snd
  have k3 := t2.fst
  have k4 := t2.snd
  have dlb : db ≤ 1000 := by rw [← hdb.out]; exact Nat.le_trans h2.le l2
  have dla : da ≤ 1000 := by rw [← hda.out]; exact Nat.le_trans h1.le l1
  have T1 : ∀ V, Mag V A1 n1 c1 a → Calls Tryd.prog 54 #[.slice A1 n1 c1] V fun e w' => e = .returned (.slice A1 da c1) ∧ V = w' := fun V h => by rw [← hda.out]; exact trim_mag A1 n1 c1 a V h (by omega)
  have T2 : ∀ V, Mag V A2 n2 c2 b → Calls Tryd.prog 54 #[.slice A2 n2 c2] V fun e w' => e = .returned (.slice A2 db c2) ∧ V = w' := fun V h => by rw [← hdb.out]; exact trim_mag A2 n2 c2 b V h (by omega)
  have T1' : ∀ V, Mag V A1 n1 c1 a → Hid (Mag V A1 da c1 a) := fun V h => Lib.hid (by rw [← hda.out]; exact h.trim)
  have T2' : ∀ V, Mag V A2 n2 c2 b → Hid (Mag V A2 db c2 b) := fun V h => Lib.hid (by rw [← hdb.out]; exact h.trim)
  have TH1 := fun V h => Lib.hid (T1 V h)
  have TH2 := fun V h => Lib.hid (T2 V h)
  clear T1 T2
  have e1 : ((da : Int) == 0) = false := by simp; omega
  have e2 : ((db : Int) == 0) = false := by simp; omega
  go_enter Tryd.func38, Tryd.ntmps38
  go_wp2_with fail
  rw [← hW]
  have HW := Lib.hid hW
  have HWS := Lib.hid hWs
  clear hW hWs
  go_quiet ((go_at_call 54; (first | (with_reducible exact calm (TH1 _ (m1.drewN _)).out) | (with_reducible exact calm (TH2 _ (m2.drewN _)).out))))
  obtain ⟨V, hV⟩ : ∃ V, V = W.drewN nq := ⟨_, rfl⟩
  have hbV : Below w.heap.size w V := by rw [hV]; exact below_drewN hbW _
  have u1 : Two V w.heap.size 24 (.bool false) (.slice A1 n1 c1) := by rw [hV]; exact t1
  have u2 : Two V (w.heap.size + 1) 24 (.bool false) (.slice A2 n2 c2) := by rw [hV]; exact t2
  have u3 : Two V (w.heap.size + 2) 24 (.bool false) (.slice none 0 0) := by rw [hV]; exact t3
  have m1' : Mag V A1 n1 c1 a := by rw [hV]; exact m1
  have m2' : Mag V A2 n2 c2 b := by rw [hV]; exact m2
  have hVs : Hid (V.heap.size = w.heap.size + 3) := by rw [hV]; exact HWS
  rw [← hV]
  clear hV m1 m2 t1 t2 t3 k1 k2 k3 k4
  have k1 := u1.fst
  have k2 := u2.fst
  have k3 := u3.fst
  have k4 := u3.snd
  have k5 := u3.free 0
  have k6 := u3.free 1
  have PL := fun W h h' => Lib.hid (times_mag A1 A2 da db c1 c2 a b W h h' (by omega) (by omega))
  have q1 : ∀ V', Below V.heap.size V V' → Hid (Mag V' A1 da c1 a) := fun V' h => T1' _ (m1'.below h)
  have q2 : ∀ V', Below V.heap.size V V' → Hid (Mag V' A2 db c2 b) := fun V' h => T2' _ (m2'.below h)
  go_wp2_with (first
    | (go_at_call 52; refine (signed_box false _).mono ?_; rintro e vb ⟨bx, rfl, xa, hb1⟩)
    | (go_at_call 61; refine ((PL _ (q1 _ hb1).out (q2 _ hb1).out).out).mono ?_; rintro e wp ⟨rfl, mp, bp⟩)
    | (go_at_call 79; refine (signed1_any bx false _ _ _ (a * b) _ (xa.below bp) mp (by omega)).mono ?_; rintro e ws ⟨r, A, m, c, v, rfl, ha⟩; have hbs : Below V.heap.size V ws := below_then hb1 (below_then bp ha.low); have z3 := (u3.below' hbs).fst; have z4 := (u3.below' hbs).snd; have z5 := (u3.below' hbs).free 0; have z6 := (u3.below' hbs).free 1))
  exact bodyPost_ret (v := .tuple #[.agg #[.bool r, .slice A m c], .int .i64 v]) (by simp [results, Tryd.results38, go_sem, z3, z4]) rfl
    ⟨r, A, m, c, v, rfl, ha.two (g := w.heap.size + 1 + 1) (below_then (below_then hbV hb1) bp) (by omega) (by have := hVs.out; have := hb1.size; have := bp.size; omega)⟩
theorem mul_any (na nb : Bool) (A1 A2 : Option Addr) (n1 c1 a n2 c2 b : Nat) (w : World) (h1 : Mag w A1 n1 c1 a) (h2 : Mag w A2 n2 c2 b) (l1 : n1 ≤ 1000) (l2 : n2 ≤ 1000) :
    Calls Tryd.prog 38 #[.agg #[.bool na, .slice A1 n1 c1], .agg #[.bool nb, .slice A2 n2 c2]] w fun e w' => Said w w' e (na != nb) (a * b) := by
  rcases Nat.eq_zero_or_pos (dl a) with h0 | h0
  · exact mul_za na nb _ A1 A2 n1 c1 a n2 c2 b w h1 h2 l1 l2 _ _ (Lib.hid rfl) (Lib.hid rfl) h0
  · rcases Nat.eq_zero_or_pos (dl b) with h00 | h00
    · exact mul_zb na nb _ A1 A2 n1 c1 a n2 c2 b w h1 h2 l1 l2 _ _ (Lib.hid rfl) (Lib.hid rfl) h0 h00
    · by_cases hs : dl a + dl b ≤ 49
      · cases na <;> cases nb
        · exact mul_ff A1 A2 n1 c1 a n2 c2 b w h1 h2 l1 l2 _ _ (Lib.hid rfl) (Lib.hid rfl) h0 h00 hs
        · exact mul_ft A1 A2 n1 c1 a n2 c2 b w h1 h2 l1 l2 _ _ (Lib.hid rfl) (Lib.hid rfl) h0 h00 hs
        · exact mul_tf A1 A2 n1 c1 a n2 c2 b w h1 h2 l1 l2 _ _ (Lib.hid rfl) (Lib.hid rfl) h0 h00 hs
        · exact mul_tt A1 A2 n1 c1 a n2 c2 b w h1 h2 l1 l2 _ _ (Lib.hid rfl) (Lib.hid rfl) h0 h00 hs
      · exact mul_big na nb _ A1 A2 n1 c1 a n2 c2 b w h1 h2 l1 l2 _ _ (Lib.hid rfl) (Lib.hid rfl) h0 h00 (by omega)
theorem sg_mul (na nb : Bool) (a b : Nat) : sg (na != nb) (a * b) = sg na a * sg nb b := by
  cases na <;> cases nb <;> simp [sg, Int.mul_neg, Int.neg_mul]
theorem mul_at {na nb : Bool} {A1 A2 : Option Addr} {n1 c1 n2 c2 : Nat} {x y : Int} (w : World) (h1 : NumAt w na A1 n1 c1 x) (h2 : NumAt w nb A2 n2 c2 y) (l1 : n1 ≤ 1000) (l2 : n2 ≤ 1000) :
    Calls Tryd.prog 38 #[.agg #[.bool na, .slice A1 n1 c1], .agg #[.bool nb, .slice A2 n2 c2]] w fun e w' => Gives w w' e (x * y) := by
  obtain ⟨a, m1, rfl⟩ := h1
  obtain ⟨b, m2, rfl⟩ := h2
  exact (mul_any na nb A1 A2 n1 c1 a n2 c2 b w m1 m2 l1 l2).mono fun e w' h => ⟨_, _, h, sg_mul na nb a b⟩
end Go.Proofs.YtocoflojlliapaaDoor
