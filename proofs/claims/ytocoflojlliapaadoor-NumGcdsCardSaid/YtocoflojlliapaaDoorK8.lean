import Derived.Test.YtocoflojlliapaaDoorK6
import Derived.Lib.SmallJoins
import Derived.Carry
import Derived.Test.YtocoflojlliapaaDoorK7
import Derived.Test.YtocoflojlliapaaDoorK5
import Derived.Test.YtocoflojlliapaaDoorK4
import Derived.SizedLaws
/- What a call answers that puts a number together: the number, or that it is too big. -/
set_option linter.unusedVariables false
namespace Go.Proofs.YtocoflojlliapaaDoor
open Go.RowKit
def Reply (w w' : World) (r : Bool) (A : Option Addr) (m c : Nat) (v : Int) (neg : Bool) (N : Nat) : Prop :=
  (dl N ≤ 48 ∧ r = signB neg N ∧ m = dl N ∧ v = 0 ∧ Fresh w w' A c N) ∨ (48 < dl N ∧ r = false ∧ A = none ∧ m = 0 ∧ c = 0 ∧ v = 6 ∧ Below w.heap.size w w')
def Said (w w' : World) (e : Ending) (neg : Bool) (N : Nat) : Prop :=
  ∃ r A m c v, e = .returned (.tuple #[.agg #[.bool r, .slice A m c], .int .i64 v]) ∧ Reply w w' r A m c v neg N
section
variable {w w0 w1 w' : World} {r neg : Bool} {A : Option Addr} {m c N g : Nat} {v : Int} {e : Ending}
theorem Reply.low (h : Reply w w' r A m c v neg N) : Below w.heap.size w w' := by
  rcases h with h | h
  · exact h.2.2.2.2.2
  · exact h.2.2.2.2.2.2
theorem Reply.two {a b : Value} (h : Reply w0 w1 r A m c v neg N) (hb : Below w.heap.size w w0) (hg : w.heap.size ≤ g) (hg2 : g < w0.heap.size) :
    Reply w ((w1.setCell ⟨g, 0, none⟩ a).setCell ⟨g, 1, none⟩ b) r A m c v neg N := by
  rcases h with ⟨h1, h2, h3, h4, h5⟩ | ⟨h1, h2, h3, h4, h5, h6, h7⟩
  · exact .inl ⟨h1, h2, h3, h4, h5.two hb hg hg2⟩
  · exact .inr ⟨h1, h2, h3, h4, h5, h6, below_two (below_then hb h7) hg⟩
theorem Said.yes (h : Said w w' e neg N) (hfit : dl N ≤ 48) : Num w w' e neg N := by
  obtain ⟨r, A, m, c, v, rfl, h | h⟩ := h
  · obtain ⟨_, rfl, rfl, rfl, hf⟩ := h
    exact ⟨A, c, rfl, hf⟩
  · omega
theorem Said.no (h : Said w w' e neg N) (hbig : 48 < dl N) : Big w w' e := by
  obtain ⟨r, A, m, c, v, rfl, h | h⟩ := h
  · omega
  · obtain ⟨_, rfl, rfl, rfl, rfl, rfl, hf⟩ := h
    exact ⟨rfl, hf⟩
theorem Said.of_yes (h : Num w w' e neg N) (hfit : dl N ≤ 48) : Said w w' e neg N := by
  obtain ⟨A, c, rfl, hf⟩ := h
  exact ⟨_, A, _, c, 0, rfl, .inl ⟨hfit, rfl, rfl, rfl, hf⟩⟩
theorem Said.of_no (h : Big w w' e) (hbig : 48 < dl N) : Said w w' e neg N := by
  obtain ⟨rfl, hf⟩ := h
  exact ⟨_, none, 0, 0, 6, rfl, .inr ⟨hbig, rfl, rfl, rfl, rfl, rfl, hf⟩⟩
/-- the number that is answered beside whatever error, by its value -/
theorem Reply.mag (h : Reply w w' r A m c v neg N) : ∃ M, Mag w' A m c M ∧ sg r M = (if dl N ≤ 48 then sg neg N else 0) ∧ m ≤ 48 := by
  rcases h with ⟨h1, rfl, rfl, h4, h5⟩ | ⟨h1, rfl, rfl, rfl, rfl, h6, h7⟩
  · exact ⟨N, (Mag.of_fresh h5).1, by rw [if_pos h1, sg_signB], h1⟩
  · exact ⟨0, Mag.none_ _, by rw [if_neg (by omega), sg_zero], by omega⟩
end
theorem signed1_any (b : Nat) (neg : Bool) (A : Option Addr) (n c N : Nat) (w : World) (hb : w.heap[b]? = some (.cells #[.bool neg] 4 (0, 0))) (h : Mag w A n c N) (hl : n ≤ 35184372088832) :
    Calls Tryd.prog 79 #[.slice A n c, .pointer (some ⟨b, 0, none⟩)] w fun e w' => Said w w' e neg N := by
  by_cases hf : dl N ≤ 48
  · exact (signed1_yes b neg A n c N w hb h hl hf).mono fun e w' h => Said.of_yes h hf
  · exact (signed1_no b neg A n c N w hb h hl (by omega)).mono fun e w' h => Said.of_no h (by omega)
/-- the closure's cell -/
def Boxed (w : World) (b : Nat) (neg : Bool) : Prop := w.heap[b]? = some (.cells #[.bool neg] 4 (0, 0))
theorem Boxed.below {w w' : World} {b : Nat} {neg : Bool} (h : Boxed w b neg) (hb : Below w.heap.size w w') : Boxed w' b neg := (hb.block b (lt_of_block h)).trans h
theorem signed_box (neg : Bool) (w : World) :
    Calls Tryd.prog 52 #[.bool neg] w fun e w' => ∃ b, e = .returned (.func (Fn.func 79) #[] #[.pointer (some ⟨b, 0, none⟩)]) ∧ Boxed w' b neg ∧ Below w.heap.size w w' :=
  (signed_any neg w).mono fun e w' ⟨he, hw⟩ => ⟨w.heap.size, he, by rw [← hw]; exact one_made _ _ _, by rw [← hw]; exact below_al (Below.refl _ _) _⟩
theorem norm_any (neg : Bool) (A : Option Addr) (n c N : Nat) (w : World) (h : Mag w A n c N) (hl : n ≤ 35184372088832) :
    Calls Tryd.prog 21 #[.agg #[.bool neg, .slice A n c]] w fun e w' => Said w w' e neg N := by
  by_cases hf : dl N ≤ 48
  · exact (norm_yes neg A n c N w h hl hf).mono fun e w' h => Said.of_yes h hf
  · exact (norm_no neg A n c N w h hl (by omega)).mono fun e w' h => Said.of_no h (by omega)
theorem neg_any (neg : Bool) (A : Option Addr) (n c N : Nat) (w : World) (h : Mag w A n c N) (hl : n ≤ 35184372088832) :
    Calls Tryd.prog 22 #[.agg #[.bool neg, .slice A n c]] w fun e w' => Said w w' e (!neg) N := by
  by_cases hf : dl N ≤ 48
  · exact (neg_yes neg A n c N w h hl hf).mono fun e w' h => Said.of_yes h hf
  · exact (neg_no neg A n c N w h hl (by omega)).mono fun e w' h => Said.of_no h (by omega)
end Go.Proofs.YtocoflojlliapaaDoor
set_option linter.unusedVariables false
namespace Go.Proofs.YtocoflojlliapaaDoor
open Go.RowKit
theorem boxes1a (w : World) (x y : Bool) : Boxed ((w.alloc (.cells #[.bool x] 4)).alloc (.cells #[.bool y] 4)).drew w.heap.size x :=
  (Below.heap_alloc _ _ w.heap.size (by simp)).trans (one_made w (.bool x) 4)
theorem boxes1b (w : World) (x y : Bool) : Boxed ((w.alloc (.cells #[.bool x] 4)).alloc (.cells #[.bool y] 4)).drew (w.heap.size + 1) y := by
  have h := one_made (w.alloc (.cells #[.bool x] 4)) (.bool y) 4
  have e : (w.alloc (.cells #[.bool x] 4)).heap.size = w.heap.size + 1 := by simp
  rw [e] at h
  exact h
set_option maxHeartbeats 3200000 in
theorem join_like_t (A1 A2 : Option Addr) (n1 c1 a n2 c2 b : Nat) (nb : Bool) (w : World) (h1 : Mag w A1 n1 c1 a) (h2 : Mag w A2 n2 c2 b) (l1 : n1 ≤ 1000) (l2 : n2 ≤ 1000) :
    Calls Tryd.prog 58 #[.agg #[.bool true, .slice A1 n1 c1], .agg #[.bool nb, .slice A2 n2 c2], .bool true] w fun e w' => Said w w' e true (a + b) := by
  obtain ⟨W, hW⟩ : ∃ W, W = ((w.alloc (.cells #[.bool true, .slice A1 n1 c1] 24)).alloc (.cells #[.bool nb, .slice A2 n2 c2] 24)).alloc (.cells #[.bool false, .slice none 0 0] 24) := ⟨_, rfl⟩
  obtain ⟨t1, t2, t3, hbW, hWs⟩ := boxes3 w _ _ _ _ _ _ W hW
  have m1 := h1.below hbW
  have m2 := h2.below hbW
  have k1 := t1.fst
  have k2 := t1.snd
  have k3 := t2.fst
  have k4 := t2.snd
  have dlb : dl b ≤ 1000 := Nat.le_trans h2.le l2
  have dla : dl a ≤ 1000 := Nat.le_trans h1.le l1
  have T2 := fun W h => Lib.hid (trim_mag A2 n2 c2 b W h (by omega))
  have T1 := fun W h => Lib.hid (trim_mag A1 n1 c1 a W h (by omega))
  go_enter Tryd.func58, Tryd.ntmps58
  go_wp2_with fail
  rw [← hW]
  have HW := Lib.hid hW
  have HWS := Lib.hid hWs
  clear hW hWs
  go_quiet ((go_at_call 54; (first | (with_reducible exact calm (trim_mag A1 n1 c1 a _ (m1.drewN _) (by omega))) | (with_reducible exact calm (trim_mag A2 n2 c2 b _ (m2.drewN _) (by omega))))))
  obtain ⟨V, hV⟩ : ∃ V, V = W.drewN nq := ⟨_, rfl⟩
  have hbV : Below w.heap.size w V := by rw [hV]; exact below_drewN hbW _
  have u1 : Two V w.heap.size 24 (.bool true) (.slice A1 n1 c1) := by rw [hV]; exact t1
  have u3 : Two V (w.heap.size + 2) 24 (.bool false) (.slice none 0 0) := by rw [hV]; exact t3
  have m1' : Mag V A1 n1 c1 a := by rw [hV]; exact m1
  have m2' : Mag V A2 n2 c2 b := by rw [hV]; exact m2
  have hVs : Hid (V.heap.size = w.heap.size + 3) := by rw [hV]; exact HWS
  rw [← hV]
  clear hV m1 m2 t1 t2 t3 k1 k2 k3 k4
  have k1 := u1.fst
  go_wp2_with fail
  go_region_held3 (fun w' => w'.cell? ⟨w.heap.size, 0, none⟩ = some (.bool true)) (go_keep)
    (first
      | (go_at_call 52; (first | (with_reducible refine (signed_any true _).mono ?_) | (with_reducible refine (signed_any false _).mono ?_)); rintro e w' ⟨rfl, rfl⟩))
  obtain ⟨X, hX⟩ : ∃ X, X = ((V.alloc (.cells #[.bool true] 4)).alloc (.cells #[.bool false] 4)).drew := ⟨_, rfl⟩
  rw [← hX]
  have hbX : Below V.heap.size V X := by rw [hX]; exact (below_al (below_al (Below.refl _ _) _) _).drew
  have xa : Boxed X V.heap.size true := by rw [hX]; exact boxes1a V _ _
  have xb : Boxed X (V.heap.size + 1) false := by rw [hX]; exact boxes1b V _ _
  have y1 := u1.below' hbX
  have y3 := u3.below' hbX
  have q1 := m1'.below hbX
  have q2 := m2'.below hbX
  clear hX u1 u3 m1' m2' k1
  have k1 := y1.fst
  have PL := fun W h h' => Lib.hid (plus_mag A1 A2 (dl a) (dl b) c1 c2 a b W h h' (by omega) (by omega))
  go_wp2_with (first
    | (go_at_call 80; refine ((PL _ q1.trim q2.trim).out).mono ?_; rintro e wp ⟨rfl, mp, bp⟩)
    | (go_at_call 79; refine (signed1_any V.heap.size true _ _ _ (a + b) _ (xa.below bp) mp (by omega)).mono ?_; rintro e ws ⟨r, A, m, c, v, rfl, ha⟩; have hbs : Below X.heap.size X ws := below_then bp ha.low; have z3 := (y3.below' hbs).fst; have z4 := (y3.below' hbs).snd; have z5 := (y3.below' hbs).free 0; have z6 := (y3.below' hbs).free 1))
  exact bodyPost_ret (v := .tuple #[.agg #[.bool r, .slice A m c], .int .i64 v]) (by simp [results, Tryd.results58, go_sem, z3, z4]) rfl
    ⟨r, A, m, c, v, rfl, ha.two (g := w.heap.size + 1 + 1) (below_then (below_then hbV hbX) bp) (by omega) (by have := hVs.out; have := hbX.size; have := bp.size; omega)⟩
set_option maxHeartbeats 3200000 in
theorem join_like_f (A1 A2 : Option Addr) (n1 c1 a n2 c2 b : Nat) (nb : Bool) (w : World) (h1 : Mag w A1 n1 c1 a) (h2 : Mag w A2 n2 c2 b) (l1 : n1 ≤ 1000) (l2 : n2 ≤ 1000) :
    Calls Tryd.prog 58 #[.agg #[.bool false, .slice A1 n1 c1], .agg #[.bool nb, .slice A2 n2 c2], .bool false] w fun e w' => Said w w' e false (a + b) := by
  obtain ⟨W, hW⟩ : ∃ W, W = ((w.alloc (.cells #[.bool false, .slice A1 n1 c1] 24)).alloc (.cells #[.bool nb, .slice A2 n2 c2] 24)).alloc (.cells #[.bool false, .slice none 0 0] 24) := ⟨_, rfl⟩
  obtain ⟨t1, t2, t3, hbW, hWs⟩ := boxes3 w _ _ _ _ _ _ W hW
  have m1 := h1.below hbW
  have m2 := h2.below hbW
  have k1 := t1.fst
  have k2 := t1.snd
  have k3 := t2.fst
  have k4 := t2.snd
  have dlb : dl b ≤ 1000 := Nat.le_trans h2.le l2
  have dla : dl a ≤ 1000 := Nat.le_trans h1.le l1
  have T2 := fun W h => Lib.hid (trim_mag A2 n2 c2 b W h (by omega))
  have T1 := fun W h => Lib.hid (trim_mag A1 n1 c1 a W h (by omega))
  go_enter Tryd.func58, Tryd.ntmps58
  go_wp2_with fail
  rw [← hW]
  have HW := Lib.hid hW
  have HWS := Lib.hid hWs
  clear hW hWs
  go_quiet ((go_at_call 54; (first | (with_reducible exact calm (trim_mag A1 n1 c1 a _ (m1.drewN _) (by omega))) | (with_reducible exact calm (trim_mag A2 n2 c2 b _ (m2.drewN _) (by omega))))))
  obtain ⟨V, hV⟩ : ∃ V, V = W.drewN nq := ⟨_, rfl⟩
  have hbV : Below w.heap.size w V := by rw [hV]; exact below_drewN hbW _
  have u1 : Two V w.heap.size 24 (.bool false) (.slice A1 n1 c1) := by rw [hV]; exact t1
  have u3 : Two V (w.heap.size + 2) 24 (.bool false) (.slice none 0 0) := by rw [hV]; exact t3
  have m1' : Mag V A1 n1 c1 a := by rw [hV]; exact m1
  have m2' : Mag V A2 n2 c2 b := by rw [hV]; exact m2
  have hVs : Hid (V.heap.size = w.heap.size + 3) := by rw [hV]; exact HWS
  rw [← hV]
  clear hV m1 m2 t1 t2 t3 k1 k2 k3 k4
  have k1 := u1.fst
  go_wp2_with fail
  go_region_held3 (fun w' => w'.cell? ⟨w.heap.size, 0, none⟩ = some (.bool false)) (go_keep)
    (first
      | (go_at_call 52; (first | (with_reducible refine (signed_any false _).mono ?_) | (with_reducible refine (signed_any true _).mono ?_)); rintro e w' ⟨rfl, rfl⟩))
  obtain ⟨X, hX⟩ : ∃ X, X = ((V.alloc (.cells #[.bool false] 4)).alloc (.cells #[.bool true] 4)).drew := ⟨_, rfl⟩
  rw [← hX]
  have hbX : Below V.heap.size V X := by rw [hX]; exact (below_al (below_al (Below.refl _ _) _) _).drew
  have xa : Boxed X V.heap.size false := by rw [hX]; exact boxes1a V _ _
  have xb : Boxed X (V.heap.size + 1) true := by rw [hX]; exact boxes1b V _ _
  have y1 := u1.below' hbX
  have y3 := u3.below' hbX
  have q1 := m1'.below hbX
  have q2 := m2'.below hbX
  clear hX u1 u3 m1' m2' k1
  have k1 := y1.fst
  have PL := fun W h h' => Lib.hid (plus_mag A1 A2 (dl a) (dl b) c1 c2 a b W h h' (by omega) (by omega))
  go_wp2_with (first
    | (go_at_call 80; refine ((PL _ q1.trim q2.trim).out).mono ?_; rintro e wp ⟨rfl, mp, bp⟩)
    | (go_at_call 79; refine (signed1_any V.heap.size false _ _ _ (a + b) _ (xa.below bp) mp (by omega)).mono ?_; rintro e ws ⟨r, A, m, c, v, rfl, ha⟩; have hbs : Below X.heap.size X ws := below_then bp ha.low; have z3 := (y3.below' hbs).fst; have z4 := (y3.below' hbs).snd; have z5 := (y3.below' hbs).free 0; have z6 := (y3.below' hbs).free 1))
  exact bodyPost_ret (v := .tuple #[.agg #[.bool r, .slice A m c], .int .i64 v]) (by simp [results, Tryd.results58, go_sem, z3, z4]) rfl
    ⟨r, A, m, c, v, rfl, ha.two (g := w.heap.size + 1 + 1) (below_then (below_then hbV hbX) bp) (by omega) (by have := hVs.out; have := hbX.size; have := bp.size; omega)⟩
set_option maxHeartbeats 3200000 in
theorem join_lt_t (A1 A2 : Option Addr) (n1 c1 a n2 c2 b : Nat) (nb : Bool) (w : World) (h1 : Mag w A1 n1 c1 a) (h2 : Mag w A2 n2 c2 b) (l1 : n1 ≤ 1000) (l2 : n2 ≤ 1000) (hc : Hid (a < b)) :
    Calls Tryd.prog 58 #[.agg #[.bool true, .slice A1 n1 c1], .agg #[.bool nb, .slice A2 n2 c2], .bool false] w fun e w' => Said w w' e false (b - a) := by
  obtain ⟨W, hW⟩ : ∃ W, W = ((w.alloc (.cells #[.bool true, .slice A1 n1 c1] 24)).alloc (.cells #[.bool nb, .slice A2 n2 c2] 24)).alloc (.cells #[.bool false, .slice none 0 0] 24) := ⟨_, rfl⟩
  obtain ⟨t1, t2, t3, hbW, hWs⟩ := boxes3 w _ _ _ _ _ _ W hW
  have m1 := h1.below hbW
  have m2 := h2.below hbW
  have k1 := t1.fst
  have k2 := t1.snd
  have k3 := t2.fst
  have k4 := t2.snd
  have dlb : dl b ≤ 1000 := Nat.le_trans h2.le l2
  have dla : dl a ≤ 1000 := Nat.le_trans h1.le l1
  have T2 := fun W h => Lib.hid (trim_mag A2 n2 c2 b W h (by omega))
  have T1 := fun W h => Lib.hid (trim_mag A1 n1 c1 a W h (by omega))
  go_enter Tryd.func58, Tryd.ntmps58
  go_wp2_with fail
  rw [← hW]
  have HW := Lib.hid hW
  have HWS := Lib.hid hWs
  clear hW hWs
  go_quiet ((go_at_call 54; (first | (with_reducible exact calm (trim_mag A1 n1 c1 a _ (m1.drewN _) (by omega))) | (with_reducible exact calm (trim_mag A2 n2 c2 b _ (m2.drewN _) (by omega))))))
  obtain ⟨V, hV⟩ : ∃ V, V = W.drewN nq := ⟨_, rfl⟩
  have hbV : Below w.heap.size w V := by rw [hV]; exact below_drewN hbW _
  have u1 : Two V w.heap.size 24 (.bool true) (.slice A1 n1 c1) := by rw [hV]; exact t1
  have u3 : Two V (w.heap.size + 2) 24 (.bool false) (.slice none 0 0) := by rw [hV]; exact t3
  have m1' : Mag V A1 n1 c1 a := by rw [hV]; exact m1
  have m2' : Mag V A2 n2 c2 b := by rw [hV]; exact m2
  have hVs : Hid (V.heap.size = w.heap.size + 3) := by rw [hV]; exact HWS
  rw [← hV]
  clear hV m1 m2 t1 t2 t3 k1 k2 k3 k4
  have k1 := u1.fst
  go_wp2_with fail
  go_region_held3 (fun w' => w'.cell? ⟨w.heap.size, 0, none⟩ = some (.bool true)) (go_keep)
    (first
      | (go_at_call 52; (first | (with_reducible refine (signed_any true _).mono ?_) | (with_reducible refine (signed_any false _).mono ?_)); rintro e w' ⟨rfl, rfl⟩))
  obtain ⟨X, hX⟩ : ∃ X, X = ((V.alloc (.cells #[.bool true] 4)).alloc (.cells #[.bool false] 4)).drew := ⟨_, rfl⟩
  rw [← hX]
  have hbX : Below V.heap.size V X := by rw [hX]; exact (below_al (below_al (Below.refl _ _) _) _).drew
  have xa : Boxed X V.heap.size true := by rw [hX]; exact boxes1a V _ _
  have xb : Boxed X (V.heap.size + 1) false := by rw [hX]; exact boxes1b V _ _
  have y1 := u1.below' hbX
  have y3 := u3.below' hbX
  have q1 := m1'.below hbX
  have q2 := m2'.below hbX
  clear hX u1 u3 m1' m2' k1
  have k1 := y1.fst
  have dlm := dl_mono (Nat.le_of_lt hc.out)
  have cN : cmpN a b = -1 := cmpN_lt hc.out
  have PL := fun W h h' => Lib.hid (minus_mag A2 A1 (dl b) (dl a) c2 c1 b a W h h' (by omega) (by omega) (Lib.hid (Nat.le_of_lt hc.out)))
  have CM : ∀ W, Mag W A1 (dl a) c1 a → Mag W A2 (dl b) c2 b → Hid (Calls Tryd.prog 57 #[.slice A1 (dl a) c1, .slice A2 (dl b) c2] W fun e w' => e = .returned (.int .i64 (cmpN a b)) ∧ Below W.heap.size W w') :=
    fun W h h' => Lib.hid ((compare_mag A1 A2 c1 c2 a b W h h' (by omega) (by omega)).mono fun e w' ⟨he, m, hm⟩ => ⟨he, by rw [hm]; exact below_drewN (Below.refl _ _) _⟩)
  rw [cN] at CM
  clear cN
  go_wp2_with (first
    | (go_at_call 57; refine ((CM _ q1.trim q2.trim).out).mono ?_; rintro e wc ⟨rfl, bc⟩; have o1 := q1.below bc; have o2 := q2.below bc; have xa' := xa.below bc; have xb' := xb.below bc)
    | (go_at_call 63; refine ((PL _ o2.trim o1.trim).out).mono ?_; rintro e wp ⟨rfl, mp, bp⟩)
    | (go_at_call 79; refine (signed1_any (V.heap.size + 1) false _ _ _ (b - a) _ (xb'.below bp) mp (by omega)).mono ?_; rintro e ws ⟨r, A, m, c, v, rfl, ha⟩; have hbs : Below X.heap.size X ws := below_then bc (below_then bp ha.low); have z3 := (y3.below' hbs).fst; have z4 := (y3.below' hbs).snd; have z5 := (y3.below' hbs).free 0; have z6 := (y3.below' hbs).free 1))
  exact bodyPost_ret (v := .tuple #[.agg #[.bool r, .slice A m c], .int .i64 v]) (by simp [results, Tryd.results58, go_sem, z3, z4]) rfl
    ⟨r, A, m, c, v, rfl, ha.two (g := w.heap.size + 1 + 1) (below_then (below_then (below_then hbV hbX) bc) bp) (by omega) (by have := hVs.out; have := hbX.size; have := bc.size; have := bp.size; omega)⟩
set_option maxHeartbeats 3200000 in
theorem join_lt_f (A1 A2 : Option Addr) (n1 c1 a n2 c2 b : Nat) (nb : Bool) (w : World) (h1 : Mag w A1 n1 c1 a) (h2 : Mag w A2 n2 c2 b) (l1 : n1 ≤ 1000) (l2 : n2 ≤ 1000) (hc : Hid (a < b)) :
    Calls Tryd.prog 58 #[.agg #[.bool false, .slice A1 n1 c1], .agg #[.bool nb, .slice A2 n2 c2], .bool true] w fun e w' => Said w w' e true (b - a) := by
  obtain ⟨W, hW⟩ : ∃ W, W = ((w.alloc (.cells #[.bool false, .slice A1 n1 c1] 24)).alloc (.cells #[.bool nb, .slice A2 n2 c2] 24)).alloc (.cells #[.bool false, .slice none 0 0] 24) := ⟨_, rfl⟩
  obtain ⟨t1, t2, t3, hbW, hWs⟩ := boxes3 w _ _ _ _ _ _ W hW
  have m1 := h1.below hbW
  have m2 := h2.below hbW
  have k1 := t1.fst
  have k2 := t1.snd
  have k3 := t2.fst
  have k4 := t2.snd
  have dlb : dl b ≤ 1000 := Nat.le_trans h2.le l2
  have dla : dl a ≤ 1000 := Nat.le_trans h1.le l1
  have T2 := fun W h => Lib.hid (trim_mag A2 n2 c2 b W h (by omega))
  have T1 := fun W h => Lib.hid (trim_mag A1 n1 c1 a W h (by omega))
  go_enter Tryd.func58, Tryd.ntmps58
  go_wp2_with fail
  rw [← hW]
  have HW := Lib.hid hW
  have HWS := Lib.hid hWs
  clear hW hWs
  go_quiet ((go_at_call 54; (first | (with_reducible exact calm (trim_mag A1 n1 c1 a _ (m1.drewN _) (by omega))) | (with_reducible exact calm (trim_mag A2 n2 c2 b _ (m2.drewN _) (by omega))))))
  obtain ⟨V, hV⟩ : ∃ V, V = W.drewN nq := ⟨_, rfl⟩
  have hbV : Below w.heap.size w V := by rw [hV]; exact below_drewN hbW _
  have u1 : Two V w.heap.size 24 (.bool false) (.slice A1 n1 c1) := by rw [hV]; exact t1
  have u3 : Two V (w.heap.size + 2) 24 (.bool false) (.slice none 0 0) := by rw [hV]; exact t3
  have m1' : Mag V A1 n1 c1 a := by rw [hV]; exact m1
  have m2' : Mag V A2 n2 c2 b := by rw [hV]; exact m2
  have hVs : Hid (V.heap.size = w.heap.size + 3) := by rw [hV]; exact HWS
  rw [← hV]
  clear hV m1 m2 t1 t2 t3 k1 k2 k3 k4
  have k1 := u1.fst
  go_wp2_with fail
  go_region_held3 (fun w' => w'.cell? ⟨w.heap.size, 0, none⟩ = some (.bool false)) (go_keep)
    (first
      | (go_at_call 52; (first | (with_reducible refine (signed_any false _).mono ?_) | (with_reducible refine (signed_any true _).mono ?_)); rintro e w' ⟨rfl, rfl⟩))
  obtain ⟨X, hX⟩ : ∃ X, X = ((V.alloc (.cells #[.bool false] 4)).alloc (.cells #[.bool true] 4)).drew := ⟨_, rfl⟩
  rw [← hX]
  have hbX : Below V.heap.size V X := by rw [hX]; exact (below_al (below_al (Below.refl _ _) _) _).drew
  have xa : Boxed X V.heap.size false := by rw [hX]; exact boxes1a V _ _
  have xb : Boxed X (V.heap.size + 1) true := by rw [hX]; exact boxes1b V _ _
  have y1 := u1.below' hbX
  have y3 := u3.below' hbX
  have q1 := m1'.below hbX
  have q2 := m2'.below hbX
  clear hX u1 u3 m1' m2' k1
  have k1 := y1.fst
  have dlm := dl_mono (Nat.le_of_lt hc.out)
  have cN : cmpN a b = -1 := cmpN_lt hc.out
  have PL := fun W h h' => Lib.hid (minus_mag A2 A1 (dl b) (dl a) c2 c1 b a W h h' (by omega) (by omega) (Lib.hid (Nat.le_of_lt hc.out)))
  have CM : ∀ W, Mag W A1 (dl a) c1 a → Mag W A2 (dl b) c2 b → Hid (Calls Tryd.prog 57 #[.slice A1 (dl a) c1, .slice A2 (dl b) c2] W fun e w' => e = .returned (.int .i64 (cmpN a b)) ∧ Below W.heap.size W w') :=
    fun W h h' => Lib.hid ((compare_mag A1 A2 c1 c2 a b W h h' (by omega) (by omega)).mono fun e w' ⟨he, m, hm⟩ => ⟨he, by rw [hm]; exact below_drewN (Below.refl _ _) _⟩)
  rw [cN] at CM
  clear cN
  go_wp2_with (first
    | (go_at_call 57; refine ((CM _ q1.trim q2.trim).out).mono ?_; rintro e wc ⟨rfl, bc⟩; have o1 := q1.below bc; have o2 := q2.below bc; have xa' := xa.below bc; have xb' := xb.below bc)
    | (go_at_call 63; refine ((PL _ o2.trim o1.trim).out).mono ?_; rintro e wp ⟨rfl, mp, bp⟩)
    | (go_at_call 79; refine (signed1_any (V.heap.size + 1) true _ _ _ (b - a) _ (xb'.below bp) mp (by omega)).mono ?_; rintro e ws ⟨r, A, m, c, v, rfl, ha⟩; have hbs : Below X.heap.size X ws := below_then bc (below_then bp ha.low); have z3 := (y3.below' hbs).fst; have z4 := (y3.below' hbs).snd; have z5 := (y3.below' hbs).free 0; have z6 := (y3.below' hbs).free 1))
  exact bodyPost_ret (v := .tuple #[.agg #[.bool r, .slice A m c], .int .i64 v]) (by simp [results, Tryd.results58, go_sem, z3, z4]) rfl
    ⟨r, A, m, c, v, rfl, ha.two (g := w.heap.size + 1 + 1) (below_then (below_then (below_then hbV hbX) bc) bp) (by omega) (by have := hVs.out; have := hbX.size; have := bc.size; have := bp.size; omega)⟩
set_option maxHeartbeats 3200000 in
theorem join_ge_t (A1 A2 : Option Addr) (n1 c1 a n2 c2 b : Nat) (nb : Bool) (w : World) (h1 : Mag w A1 n1 c1 a) (h2 : Mag w A2 n2 c2 b) (l1 : n1 ≤ 1000) (l2 : n2 ≤ 1000) (hc : Hid (b ≤ a)) :
    Calls Tryd.prog 58 #[.agg #[.bool true, .slice A1 n1 c1], .agg #[.bool nb, .slice A2 n2 c2], .bool false] w fun e w' => Said w w' e true (a - b) := by
  obtain ⟨W, hW⟩ : ∃ W, W = ((w.alloc (.cells #[.bool true, .slice A1 n1 c1] 24)).alloc (.cells #[.bool nb, .slice A2 n2 c2] 24)).alloc (.cells #[.bool false, .slice none 0 0] 24) := ⟨_, rfl⟩
  obtain ⟨t1, t2, t3, hbW, hWs⟩ := boxes3 w _ _ _ _ _ _ W hW
  have m1 := h1.below hbW
  have m2 := h2.below hbW
  have k1 := t1.fst
  have k2 := t1.snd
  have k3 := t2.fst
  have k4 := t2.snd
  have dlb : dl b ≤ 1000 := Nat.le_trans h2.le l2
  have dla : dl a ≤ 1000 := Nat.le_trans h1.le l1
  have T2 := fun W h => Lib.hid (trim_mag A2 n2 c2 b W h (by omega))
  have T1 := fun W h => Lib.hid (trim_mag A1 n1 c1 a W h (by omega))
  go_enter Tryd.func58, Tryd.ntmps58
  go_wp2_with fail
  rw [← hW]
  have HW := Lib.hid hW
  have HWS := Lib.hid hWs
  clear hW hWs
  go_quiet ((go_at_call 54; (first | (with_reducible exact calm (trim_mag A1 n1 c1 a _ (m1.drewN _) (by omega))) | (with_reducible exact calm (trim_mag A2 n2 c2 b _ (m2.drewN _) (by omega))))))
  obtain ⟨V, hV⟩ : ∃ V, V = W.drewN nq := ⟨_, rfl⟩
  have hbV : Below w.heap.size w V := by rw [hV]; exact below_drewN hbW _
  have u1 : Two V w.heap.size 24 (.bool true) (.slice A1 n1 c1) := by rw [hV]; exact t1
  have u3 : Two V (w.heap.size + 2) 24 (.bool false) (.slice none 0 0) := by rw [hV]; exact t3
  have m1' : Mag V A1 n1 c1 a := by rw [hV]; exact m1
  have m2' : Mag V A2 n2 c2 b := by rw [hV]; exact m2
  have hVs : Hid (V.heap.size = w.heap.size + 3) := by rw [hV]; exact HWS
  rw [← hV]
  clear hV m1 m2 t1 t2 t3 k1 k2 k3 k4
  have k1 := u1.fst
  go_wp2_with fail
  go_region_held3 (fun w' => w'.cell? ⟨w.heap.size, 0, none⟩ = some (.bool true)) (go_keep)
    (first
      | (go_at_call 52; (first | (with_reducible refine (signed_any true _).mono ?_) | (with_reducible refine (signed_any false _).mono ?_)); rintro e w' ⟨rfl, rfl⟩))
  obtain ⟨X, hX⟩ : ∃ X, X = ((V.alloc (.cells #[.bool true] 4)).alloc (.cells #[.bool false] 4)).drew := ⟨_, rfl⟩
  rw [← hX]
  have hbX : Below V.heap.size V X := by rw [hX]; exact (below_al (below_al (Below.refl _ _) _) _).drew
  have xa : Boxed X V.heap.size true := by rw [hX]; exact boxes1a V _ _
  have xb : Boxed X (V.heap.size + 1) false := by rw [hX]; exact boxes1b V _ _
  have y1 := u1.below' hbX
  have y3 := u3.below' hbX
  have q1 := m1'.below hbX
  have q2 := m2'.below hbX
  clear hX u1 u3 m1' m2' k1
  have k1 := y1.fst
  have dlm := dl_mono hc.out
  have cN : ¬ cmpN a b < 0 := by
    rcases Nat.lt_or_ge b a with h | h
    · rw [cmpN_gt h]; decide
    · rw [Nat.le_antisymm h hc.out, cmpN_self]; decide
  have PL := fun W h h' => Lib.hid (minus_mag A1 A2 (dl a) (dl b) c1 c2 a b W h h' (by omega) (by omega) hc)
  have CM : ∀ W, Mag W A1 (dl a) c1 a → Mag W A2 (dl b) c2 b → Hid (Calls Tryd.prog 57 #[.slice A1 (dl a) c1, .slice A2 (dl b) c2] W fun e w' => e = .returned (.int .i64 (cmpN a b)) ∧ Below W.heap.size W w') :=
    fun W h h' => Lib.hid ((compare_mag A1 A2 c1 c2 a b W h h' (by omega) (by omega)).mono fun e w' ⟨he, m, hm⟩ => ⟨he, by rw [hm]; exact below_drewN (Below.refl _ _) _⟩)
  go_wp2_with (first
    | (go_at_call 57; refine ((CM _ q1.trim q2.trim).out).mono ?_; rintro e wc ⟨rfl, bc⟩; have o1 := q1.below bc; have o2 := q2.below bc; have xa' := xa.below bc; have xb' := xb.below bc)
    | (go_at_call 63; refine ((PL _ o1.trim o2.trim).out).mono ?_; rintro e wp ⟨rfl, mp, bp⟩)
    | (go_at_call 79; refine (signed1_any V.heap.size true _ _ _ (a - b) _ (xa'.below bp) mp (by omega)).mono ?_; rintro e ws ⟨r, A, m, c, v, rfl, ha⟩; have hbs : Below X.heap.size X ws := below_then bc (below_then bp ha.low); have z3 := (y3.below' hbs).fst; have z4 := (y3.below' hbs).snd; have z5 := (y3.below' hbs).free 0; have z6 := (y3.below' hbs).free 1))
  exact bodyPost_ret (v := .tuple #[.agg #[.bool r, .slice A m c], .int .i64 v]) (by simp [results, Tryd.results58, go_sem, z3, z4]) rfl
    ⟨r, A, m, c, v, rfl, ha.two (g := w.heap.size + 1 + 1) (below_then (below_then (below_then hbV hbX) bc) bp) (by omega) (by have := hVs.out; have := hbX.size; have := bc.size; have := bp.size; omega)⟩
set_option maxHeartbeats 3200000 in
theorem join_ge_f (A1 A2 : Option Addr) (n1 c1 a n2 c2 b : Nat) (nb : Bool) (w : World) (h1 : Mag w A1 n1 c1 a) (h2 : Mag w A2 n2 c2 b) (l1 : n1 ≤ 1000) (l2 : n2 ≤ 1000) (hc : Hid (b ≤ a)) :
    Calls Tryd.prog 58 #[.agg #[.bool false, .slice A1 n1 c1], .agg #[.bool nb, .slice A2 n2 c2], .bool true] w fun e w' => Said w w' e false (a - b) := by
  obtain ⟨W, hW⟩ : ∃ W, W = ((w.alloc (.cells #[.bool false, .slice A1 n1 c1] 24)).alloc (.cells #[.bool nb, .slice A2 n2 c2] 24)).alloc (.cells #[.bool false, .slice none 0 0] 24) := ⟨_, rfl⟩
  obtain ⟨t1, t2, t3, hbW, hWs⟩ := boxes3 w _ _ _ _ _ _ W hW
  have m1 := h1.below hbW
  have m2 := h2.below hbW
  have k1 := t1.fst
  have k2 := t1.snd
  have k3 := t2.fst
  have k4 := t2.snd
  have dlb : dl b ≤ 1000 := Nat.le_trans h2.le l2
  have dla : dl a ≤ 1000 := Nat.le_trans h1.le l1
  have T2 := fun W h => Lib.hid (trim_mag A2 n2 c2 b W h (by omega))
  have T1 := fun W h => Lib.hid (trim_mag A1 n1 c1 a W h (by omega))
  go_enter Tryd.func58, Tryd.ntmps58
  go_wp2_with fail
  rw [← hW]
  have HW := Lib.hid hW
  have HWS := Lib.hid hWs
  clear hW hWs
  go_quiet ((go_at_call 54; (first | (with_reducible exact calm (trim_mag A1 n1 c1 a _ (m1.drewN _) (by omega))) | (with_reducible exact calm (trim_mag A2 n2 c2 b _ (m2.drewN _) (by omega))))))
  obtain ⟨V, hV⟩ : ∃ V, V = W.drewN nq := ⟨_, rfl⟩
  have hbV : Below w.heap.size w V := by rw [hV]; exact below_drewN hbW _
  have u1 : Two V w.heap.size 24 (.bool false) (.slice A1 n1 c1) := by rw [hV]; exact t1
  have u3 : Two V (w.heap.size + 2) 24 (.bool false) (.slice none 0 0) := by rw [hV]; exact t3
  have m1' : Mag V A1 n1 c1 a := by rw [hV]; exact m1
  have m2' : Mag V A2 n2 c2 b := by rw [hV]; exact m2
  have hVs : Hid (V.heap.size = w.heap.size + 3) := by rw [hV]; exact HWS
  rw [← hV]
  clear hV m1 m2 t1 t2 t3 k1 k2 k3 k4
  have k1 := u1.fst
  go_wp2_with fail
  go_region_held3 (fun w' => w'.cell? ⟨w.heap.size, 0, none⟩ = some (.bool false)) (go_keep)
    (first
      | (go_at_call 52; (first | (with_reducible refine (signed_any false _).mono ?_) | (with_reducible refine (signed_any true _).mono ?_)); rintro e w' ⟨rfl, rfl⟩))
  obtain ⟨X, hX⟩ : ∃ X, X = ((V.alloc (.cells #[.bool false] 4)).alloc (.cells #[.bool true] 4)).drew := ⟨_, rfl⟩
  rw [← hX]
  have hbX : Below V.heap.size V X := by rw [hX]; exact (below_al (below_al (Below.refl _ _) _) _).drew
  have xa : Boxed X V.heap.size false := by rw [hX]; exact boxes1a V _ _
  have xb : Boxed X (V.heap.size + 1) true := by rw [hX]; exact boxes1b V _ _
  have y1 := u1.below' hbX
  have y3 := u3.below' hbX
  have q1 := m1'.below hbX
  have q2 := m2'.below hbX
  clear hX u1 u3 m1' m2' k1
  have k1 := y1.fst
  have dlm := dl_mono hc.out
  have cN : ¬ cmpN a b < 0 := by
    rcases Nat.lt_or_ge b a with h | h
    · rw [cmpN_gt h]; decide
    · rw [Nat.le_antisymm h hc.out, cmpN_self]; decide
  have PL := fun W h h' => Lib.hid (minus_mag A1 A2 (dl a) (dl b) c1 c2 a b W h h' (by omega) (by omega) hc)
  have CM : ∀ W, Mag W A1 (dl a) c1 a → Mag W A2 (dl b) c2 b → Hid (Calls Tryd.prog 57 #[.slice A1 (dl a) c1, .slice A2 (dl b) c2] W fun e w' => e = .returned (.int .i64 (cmpN a b)) ∧ Below W.heap.size W w') :=
    fun W h h' => Lib.hid ((compare_mag A1 A2 c1 c2 a b W h h' (by omega) (by omega)).mono fun e w' ⟨he, m, hm⟩ => ⟨he, by rw [hm]; exact below_drewN (Below.refl _ _) _⟩)
  go_wp2_with (first
    | (go_at_call 57; refine ((CM _ q1.trim q2.trim).out).mono ?_; rintro e wc ⟨rfl, bc⟩; have o1 := q1.below bc; have o2 := q2.below bc; have xa' := xa.below bc; have xb' := xb.below bc)
    | (go_at_call 63; refine ((PL _ o1.trim o2.trim).out).mono ?_; rintro e wp ⟨rfl, mp, bp⟩)
    | (go_at_call 79; refine (signed1_any V.heap.size false _ _ _ (a - b) _ (xa'.below bp) mp (by omega)).mono ?_; rintro e ws ⟨r, A, m, c, v, rfl, ha⟩; have hbs : Below X.heap.size X ws := below_then bc (below_then bp ha.low); have z3 := (y3.below' hbs).fst; have z4 := (y3.below' hbs).snd; have z5 := (y3.below' hbs).free 0; have z6 := (y3.below' hbs).free 1))
  exact bodyPost_ret (v := .tuple #[.agg #[.bool r, .slice A m c], .int .i64 v]) (by simp [results, Tryd.results58, go_sem, z3, z4]) rfl
    ⟨r, A, m, c, v, rfl, ha.two (g := w.heap.size + 1 + 1) (below_then (below_then (below_then hbV hbX) bc) bp) (by omega) (by have := hVs.out; have := hbX.size; have := bc.size; have := bp.size; omega)⟩
end Go.Proofs.YtocoflojlliapaaDoor
set_option linter.unusedVariables false
namespace Go.Proofs.YtocoflojlliapaaDoor
open Go.RowKit
/-- the number of the value z, or that it is too big -/
def Gives (w w' : World) (e : Ending) (z : Int) : Prop := ∃ R N, Said w w' e R N ∧ sg R N = z
theorem join_any (na nb ng : Bool) (A1 A2 : Option Addr) (n1 c1 a n2 c2 b : Nat) (w : World) (h1 : Mag w A1 n1 c1 a) (h2 : Mag w A2 n2 c2 b) (l1 : n1 ≤ 1000) (l2 : n2 ≤ 1000) :
    Calls Tryd.prog 58 #[.agg #[.bool na, .slice A1 n1 c1], .agg #[.bool nb, .slice A2 n2 c2], .bool ng] w fun e w' => Gives w w' e (sg na a + sg ng b) := by
  have K : ∀ {R N}, sg R N = sg na a + sg ng b → ∀ e w', Said w w' e R N → Gives w w' e (sg na a + sg ng b) := fun h e w' hs => ⟨_, _, hs, h⟩
  cases na <;> cases ng
  · exact (join_like_f A1 A2 n1 c1 a n2 c2 b nb w h1 h2 l1 l2).mono (K (by rw [sg_false, sg_false, sg_false]; omega))
  · by_cases h : a < b
    · exact (join_lt_f A1 A2 n1 c1 a n2 c2 b nb w h1 h2 l1 l2 (Lib.hid h)).mono (K (by rw [sg_true, sg_false, sg_true]; omega))
    · exact (join_ge_f A1 A2 n1 c1 a n2 c2 b nb w h1 h2 l1 l2 (Lib.hid (by omega))).mono (K (by rw [sg_false, sg_false, sg_true]; omega))
  · by_cases h : a < b
    · exact (join_lt_t A1 A2 n1 c1 a n2 c2 b nb w h1 h2 l1 l2 (Lib.hid h)).mono (K (by rw [sg_false, sg_false, sg_true]; omega))
    · exact (join_ge_t A1 A2 n1 c1 a n2 c2 b nb w h1 h2 l1 l2 (Lib.hid (by omega))).mono (K (by rw [sg_true, sg_false, sg_true]; omega))
  · exact (join_like_t A1 A2 n1 c1 a n2 c2 b nb w h1 h2 l1 l2).mono (K (by rw [sg_true, sg_true, sg_true]; omega))
set_option maxHeartbeats 1600000 in
theorem add_any (na nb : Bool) (A1 A2 : Option Addr) (n1 c1 a n2 c2 b : Nat) (w : World) (h1 : Mag w A1 n1 c1 a) (h2 : Mag w A2 n2 c2 b) (l1 : n1 ≤ 1000) (l2 : n2 ≤ 1000) :
    Calls Tryd.prog 35 #[.agg #[.bool na, .slice A1 n1 c1], .agg #[.bool nb, .slice A2 n2 c2]] w fun e w' => Gives w w' e (sg na a + sg nb b) := by
  obtain ⟨W, hW⟩ : ∃ W, W = ((w.alloc (.cells #[.bool na, .slice A1 n1 c1] 24)).alloc (.cells #[.bool nb, .slice A2 n2 c2] 24)).alloc (.cells #[.bool false, .slice none 0 0] 24) := ⟨_, rfl⟩
  obtain ⟨t1, t2, t3, hbW, hWs⟩ := boxes3 w _ _ _ _ _ _ W hW
  have m1 := h1.below hbW
  have m2 := h2.below hbW
  have k1 := t1.fst
  have k2 := t1.snd
  have k3 := t2.fst
  have k4 := t2.snd
  have J := fun W h h' => Lib.hid (join_any na nb nb A1 A2 n1 c1 a n2 c2 b W h h' l1 l2)
  generalize hz : sg na a + sg nb b = z at J ⊢
  have HZ := Lib.hid hz
  clear hz
  go_enter Tryd.func35, Tryd.ntmps35
  go_wp2_with fail
  rw [← hW]
  have HW := Lib.hid hW
  have HWS := Lib.hid hWs
  clear hW hWs
  go_wp2_with (go_at_call 58; refine ((J _ m1 m2).out).mono ?_; rintro e w1 ⟨R, N, ⟨r, A, m, c, v, rfl, ha⟩, hs⟩; have HS := Lib.hid hs; clear hs; have z3 := (t3.below' ha.low).fst; have z4 := (t3.below' ha.low).snd; have z5 := (t3.below' ha.low).free 0; have z6 := (t3.below' ha.low).free 1)
  exact bodyPost_ret (v := .tuple #[.agg #[.bool r, .slice A m c], .int .i64 v]) (by simp [results, Tryd.results35, go_sem, z3, z4]) rfl
    ⟨R, N, ⟨r, A, m, c, v, rfl, ha.two (g := w.heap.size + 1 + 1) hbW (by omega) (by have := HWS.out; omega)⟩, HS.out⟩
set_option maxHeartbeats 1600000 in
theorem sub_any (na nb : Bool) (A1 A2 : Option Addr) (n1 c1 a n2 c2 b : Nat) (w : World) (h1 : Mag w A1 n1 c1 a) (h2 : Mag w A2 n2 c2 b) (l1 : n1 ≤ 1000) (l2 : n2 ≤ 1000) :
    Calls Tryd.prog 36 #[.agg #[.bool na, .slice A1 n1 c1], .agg #[.bool nb, .slice A2 n2 c2]] w fun e w' => Gives w w' e (sg na a - sg nb b) := by
  obtain ⟨W, hW⟩ : ∃ W, W = ((w.alloc (.cells #[.bool na, .slice A1 n1 c1] 24)).alloc (.cells #[.bool nb, .slice A2 n2 c2] 24)).alloc (.cells #[.bool false, .slice none 0 0] 24) := ⟨_, rfl⟩
  obtain ⟨t1, t2, t3, hbW, hWs⟩ := boxes3 w _ _ _ _ _ _ W hW
  have m1 := h1.below hbW
  have m2 := h2.below hbW
  have k1 := t1.fst
  have k2 := t1.snd
  have k3 := t2.fst
  have k4 := t2.snd
  have J := fun W h h' => Lib.hid (join_any na nb (!nb) A1 A2 n1 c1 a n2 c2 b W h h' l1 l2)
  have hn : sg (!nb) b = - sg nb b := by cases nb <;> simp [sg]
  rw [hn, ← Int.sub_eq_add_neg] at J
  clear hn
  generalize hz : sg na a - sg nb b = z at J ⊢
  have HZ := Lib.hid hz
  clear hz
  go_enter Tryd.func36, Tryd.ntmps36
  go_wp2_with fail
  rw [← hW]
  have HW := Lib.hid hW
  have HWS := Lib.hid hWs
  clear hW hWs
  go_wp2_with (go_at_call 58; refine ((J _ m1 m2).out).mono ?_; rintro e w1 ⟨R, N, ⟨r, A, m, c, v, rfl, ha⟩, hs⟩; have HS := Lib.hid hs; clear hs; have z3 := (t3.below' ha.low).fst; have z4 := (t3.below' ha.low).snd; have z5 := (t3.below' ha.low).free 0; have z6 := (t3.below' ha.low).free 1)
  exact bodyPost_ret (v := .tuple #[.agg #[.bool r, .slice A m c], .int .i64 v]) (by simp [results, Tryd.results36, go_sem, z3, z4]) rfl
    ⟨R, N, ⟨r, A, m, c, v, rfl, ha.two (g := w.heap.size + 1 + 1) hbW (by omega) (by have := HWS.out; omega)⟩, HS.out⟩
end Go.Proofs.YtocoflojlliapaaDoor
/- A NUMBER HANDED IN BY VALUE, OPENED; WHAT IS HANDED IN READS AS IT DID; the law's own 'long'. -/
set_option linter.unusedVariables false
namespace Go.Proofs.YtocoflojlliapaaDoor
open Go.ChangeShapes Go.WideShapes Go.ChangeAt Go.RowKit
theorem lt_of_cell' {w : World} {a : Addr} {v : Value} (h : w.cell? a = some v) : a.block < w.heap.size := by
  rcases Nat.lt_or_ge a.block w.heap.size with hb | hb
  · exact hb
  · have h0 : w.heap[a.block]? = none := Array.getElem?_eq_none hb
    unfold World.cell? at h
    simp [h0] at h
theorem laidOut : laidOutB Tryd.prog = true := by kernel_rfl
set_option maxRecDepth 100000
section
variable {H : Type} {enc : TypeId × Value → H}
theorem lim_of {w : World} {a : Addr} {len cap : Nat} {zs : List Int} (hl : len ≤ cap) (hz : zs.length = cap) (hc : ∀ i, i < zs.length → w.cell? (a.add i) = some (.int .u32 (zs.getD i 0))) (hw : ∀ n ∈ zs, (Lit.int .u32 n).wf = true) :
    Mag w (some a) len cap (val 4294967296 ((zs.take len).map Int.toNat)) := by
  have hlen : ((zs.take len).map Int.toNat).length = len := by simp; omega
  refine ⟨(zs.take len).map Int.toNat, fun h0 => ⟨a, rfl, ?_, fun i hi => ?_⟩, ?_, hlen, rfl, hl⟩
  · have h1 : 0 < len := by
      rcases Nat.eq_zero_or_pos len with h | h
      · rw [h] at h0
        simp at h0
      · exact h
    have h2 := hc 0 (by omega)
    have h3 := lt_of_cell' h2
    rwa [add_block] at h3
  · have hi' : i < len := by rw [hlen] at hi; exact hi
    have hi2 : i < zs.length := by omega
    rw [hc i hi2]
    have e1 : zs.getD i 0 = zs[i] := by simp [List.getD, hi2]
    have e2 : ((zs.take len).map Int.toNat)[i] = (zs[i]).toNat := by simp
    have hb := (bounds_u32 (hw zs[i] (List.getElem_mem hi2))).1
    rw [e1, e2, Int.toNat_of_nonneg hb]
  · intro x hx
    obtain ⟨z, hz', rfl⟩ := List.mem_map.1 hx
    have hb := bounds_u32 (hw z (List.mem_of_mem_take hz'))
    omega
theorem open_num {W : World} {b0 : Nat} {v : Value} {d : DataW H} {p : List MemPlace} (hv : Value.okWide Tryd.prog W .any b0 24 v) (h : DataW.Trod enc Tryd.prog W 0 (fun _ => true) true 24 v d p) :
    ∃ neg A n c N, v = .agg #[.bool neg, .slice A n c] ∧ Mag W A n c N := by
  obtain ⟨v0, v1, y0, y1, m, rfl, rfl, rfl, t0, t1⟩ := Go.Joins.open_agg2 Tryd.underlying24 (by kernel_rfl) (by kernel_rfl) hv h
  obtain ⟨b, hb, _⟩ := DataW.trod_bool Tryd.underlying4 t0
  rcases open_ints Tryd.underlying22 Tryd.underlying43 (by kernel_rfl) t1 with ⟨hcs, hx⟩ | ⟨a, len, cap, zs, hcs, _, hl, hm, hz, hx, hc, hw⟩
  · simp at hb hcs
    subst hb hcs
    exact ⟨b, none, 0, 0, 0, rfl, Mag.none_ W⟩
  · simp at hb hcs
    subst hb hcs
    exact ⟨b, some a, len, cap, _, rfl, lim_of hl (by simpa using hz) hc hw⟩
theorem below_all0 {P : Program} (hl : laidOutB P = true) {W W' : World} (hb : Below W.heap.size W W') (ts : List TypeId) : ∀ {vs : List Value} {ds : List (DataW H)} {ps : List MemPlace},
    (∀ t ∈ ts, P.readableRec t = true ∧ t < P.types.size) → DataW.TrodAll enc P W 0 (fun _ => true) true ts vs ds ps → (∀ x ∈ ps, x.block < W.heap.size) →
    DataW.TrodAll enc P W' 0 (fun b => decide (b < W.heap.size)) true ts vs ds ps := by
  induction ts with
  | nil =>
    intro vs ds ps _ h _
    obtain ⟨rfl, rfl, rfl⟩ := trodAll_nil h
    exact trodAll_mk0
  | cons t ts ih =>
    intro vs ds ps hr h hlt
    obtain ⟨v, vs', d, ds', p, q, rfl, rfl, rfl, h0, r0⟩ := trodAll_cons h
    have h1 := hr t (by simp)
    exact trodAll_cons_mk (Below.trod hl h1.1 h1.2 h0 hb fun x hx => hlt x (List.mem_append_left _ hx)) (ih (fun t ht => hr t (by simp [ht])) r0 fun x hx => hlt x (List.mem_append_right _ hx))
theorem below_all {W W' : World} (hb : Below W.heap.size W W') {ts : List TypeId} {vs : List Value} {ds : List (DataW H)} {ps : List MemPlace}
    (hr : (ts.all fun t => Tryd.prog.readableRec t && decide (t < Tryd.prog.types.size)) = true) (h : DataW.TrodAll enc Tryd.prog W 0 (fun _ => true) true ts vs ds ps) (hlt : ∀ x ∈ ps, x.block < W.heap.size) :
    DataW.TrodAll enc Tryd.prog W' 0 (fun b => decide (b < W.heap.size)) true ts vs ds ps :=
  below_all0 laidOut hb ts (fun t ht => by have := List.all_eq_true.1 hr t ht; simp only [Bool.and_eq_true, decide_eq_true_eq] at this; exact this) h hlt
end
theorem long_no (neg : Bool) (A : Option Addr) (n c : Nat) (hn : n ≤ 60) (w : World) :
    Calls Tryd.prog 17 #[.agg #[.bool neg, .slice A n c]] w fun e w' => e = .returned (.bool false) ∧ Below w.heap.size w w' := by
  have hT := Two.made w 24 (.bool neg) (.slice A n c)
  have k1 := hT.snd
  go_enter Tryd.func17, Tryd.ntmps17
  go_wp2
  all_goals go_ret
  all_goals exact ⟨by simp; omega, below_al (Below.refl _ _) _⟩
theorem long_yes (neg : Bool) (A : Option Addr) (n c : Nat) (hn : 60 < n) (w : World) :
    Calls Tryd.prog 17 #[.agg #[.bool neg, .slice A n c]] w fun e w' => e = .returned (.bool true) ∧ Below w.heap.size w w' := by
  have hT := Two.made w 24 (.bool neg) (.slice A n c)
  have k1 := hT.snd
  go_enter Tryd.func17, Tryd.ntmps17
  go_wp2
  all_goals go_ret
  all_goals exact ⟨by simp; omega, below_al (Below.refl _ _) _⟩
end Go.Proofs.YtocoflojlliapaaDoor
set_option linter.unusedVariables false
namespace Go.Proofs.YtocoflojlliapaaDoor
open Go.RowKit
/-- the number at A, by its sign and limbs, is z -/
def NumAt (w : World) (r : Bool) (A : Option Addr) (m c : Nat) (z : Int) : Prop := ∃ M, Mag w A m c M ∧ sg r M = z
theorem NumAt.below {w w' : World} {r : Bool} {A : Option Addr} {m c : Nat} {z : Int} (h : NumAt w r A m c z) (hb : Below w.heap.size w w') : NumAt w' r A m c z := by
  obtain ⟨M, hm, hs⟩ := h
  exact ⟨M, hm.below hb, hs⟩
theorem sg_abs {R : Bool} {N : Nat} {z : Int} (h : sg R N = z) : N = z.natAbs := by
  cases R
  · rw [sg_false] at h; omega
  · rw [sg_true] at h; omega
theorem Gives.yes {w w' : World} {e : Ending} {z : Int} (h : Gives w w' e z) (hfit : dl z.natAbs ≤ 48) :
    ∃ r A m c, e = .returned (.tuple #[.agg #[.bool r, .slice A m c], .int .i64 0]) ∧ NumAt w' r A m c z ∧ m ≤ 48 ∧ Below w.heap.size w w' := by
  obtain ⟨R, N, hs, hz⟩ := h
  have hN := sg_abs hz
  rw [← hN] at hfit
  obtain ⟨A, c, rfl, hf⟩ := hs.yes hfit
  exact ⟨_, A, _, c, rfl, ⟨N, (Mag.of_fresh hf).1, by rw [sg_signB]; exact hz⟩, hfit, hf.2⟩
theorem Gives.no {w w' : World} {e : Ending} {z : Int} (h : Gives w w' e z) (hbig : 48 < dl z.natAbs) :
    e = .returned (.tuple #[.agg #[.bool false, .slice none 0 0], .int .i64 6]) ∧ Below w.heap.size w w' := by
  obtain ⟨R, N, hs, hz⟩ := h
  rw [← sg_abs hz] at hbig
  exact hs.no hbig
theorem cmp_at {na nb : Bool} {A1 A2 : Option Addr} {n1 c1 n2 c2 : Nat} {x y : Int} (w : World) (h1 : NumAt w na A1 n1 c1 x) (h2 : NumAt w nb A2 n2 c2 y) (l1 : n1 ≤ 1000000) (l2 : n2 ≤ 1000000) :
    Calls Tryd.prog 31 #[.agg #[.bool na, .slice A1 n1 c1], .agg #[.bool nb, .slice A2 n2 c2]] w fun e w' => e = .returned (.int .i64 (cmpI x y)) ∧ Below w.heap.size w w' := by
  obtain ⟨a, m1, rfl⟩ := h1
  obtain ⟨b, m2, rfl⟩ := h2
  exact cmp_any na nb A1 A2 n1 c1 a n2 c2 b w m1 m2 l1 l2
theorem sign_at {r : Bool} {A : Option Addr} {m c : Nat} {x : Int} (w : World) (h : NumAt w r A m c x) (hl : m ≤ 35184372088832) :
    Calls Tryd.prog 27 #[.agg #[.bool r, .slice A m c]] w fun e w' => e = .returned (.int .i64 (cmpI x 0)) ∧ Below w.heap.size w w' := by
  obtain ⟨a, m1, rfl⟩ := h
  exact (sign_any r A m c a w m1 hl).mono fun e w' ⟨he, hw⟩ => ⟨he, by rw [← hw]; exact below_al (Below.refl _ _) _⟩
theorem add_at {na nb : Bool} {A1 A2 : Option Addr} {n1 c1 n2 c2 : Nat} {x y : Int} (w : World) (h1 : NumAt w na A1 n1 c1 x) (h2 : NumAt w nb A2 n2 c2 y) (l1 : n1 ≤ 1000) (l2 : n2 ≤ 1000) :
    Calls Tryd.prog 35 #[.agg #[.bool na, .slice A1 n1 c1], .agg #[.bool nb, .slice A2 n2 c2]] w fun e w' => Gives w w' e (x + y) := by
  obtain ⟨a, m1, rfl⟩ := h1
  obtain ⟨b, m2, rfl⟩ := h2
  exact add_any na nb A1 A2 n1 c1 a n2 c2 b w m1 m2 l1 l2
theorem sub_at {na nb : Bool} {A1 A2 : Option Addr} {n1 c1 n2 c2 : Nat} {x y : Int} (w : World) (h1 : NumAt w na A1 n1 c1 x) (h2 : NumAt w nb A2 n2 c2 y) (l1 : n1 ≤ 1000) (l2 : n2 ≤ 1000) :
    Calls Tryd.prog 36 #[.agg #[.bool na, .slice A1 n1 c1], .agg #[.bool nb, .slice A2 n2 c2]] w fun e w' => Gives w w' e (x - y) := by
  obtain ⟨a, m1, rfl⟩ := h1
  obtain ⟨b, m2, rfl⟩ := h2
  exact sub_any na nb A1 A2 n1 c1 a n2 c2 b w m1 m2 l1 l2
end Go.Proofs.YtocoflojlliapaaDoor
set_option linter.unusedVariables false
namespace Go.Proofs.YtocoflojlliapaaDoor
open Go.RowKit
theorem fresh_nil {w w' : World} (hb : Below w.heap.size w w') : Fresh w w' none 0 0 := ⟨own_nil, hb⟩
theorem said_zero {w w' : World} {e : Ending} {R : Bool} {N : Nat} (hN : N = 0) (he : e = .returned (.tuple #[.agg #[.bool false, .slice none 0 0], .int .i64 0])) (hb : Below w.heap.size w w') : Said w w' e R N := by
  subst hN
  exact ⟨false, none, 0, 0, 0, he, .inl ⟨by rw [dl_zero]; omega, (signB_zero R).symm, dl_zero.symm, rfl, fresh_nil hb⟩⟩
theorem said_big {w w' : World} {e : Ending} {R : Bool} {N : Nat} (hN : 48 < dl N) (he : e = .returned (.tuple #[.agg #[.bool false, .slice none 0 0], .int .i64 6])) (hb : Below w.heap.size w w') : Said w w' e R N :=
  ⟨false, none, 0, 0, 6, he, .inr ⟨hN, rfl, rfl, rfl, rfl, rfl, hb⟩⟩
theorem dl_nz {N : Nat} (h : 0 < dl N) : N ≠ 0 := by
  rintro rfl
  rw [dl_zero] at h
  omega
theorem dl_z {N : Nat} (h : dl N = 0) : N = 0 := by
  rcases Nat.eq_zero_or_pos N with h0 | h0
  · exact h0
  · have := dl_pos (N := N) (by omega)
    omega
theorem dl_mul {a b : Nat} (ha : 0 < dl a) (hb : 0 < dl b) (h : 48 < dl a + dl b - 1) : 48 < dl (a * b) := by
  rcases Nat.lt_or_ge 48 (dl (a * b)) with h1 | h1
  · exact h1
  · have h2 := (dl_le (a * b) 48).1 h1
    have h3 := dl_low a (dl_nz ha)
    have h4 := dl_low b (dl_nz hb)
    have h5 : 4294967296 ^ (dl a - 1) * 4294967296 ^ (dl b - 1) ≤ a * b := Nat.mul_le_mul h3 h4
    rw [← Nat.pow_add] at h5
    have h6 : (4294967296 : Nat) ^ 48 ≤ 4294967296 ^ (dl a - 1 + (dl b - 1)) := Nat.pow_le_pow_right (by decide) (by omega)
    omega
set_option maxHeartbeats 3200000 in
theorem mul_za (na nb : Bool) (R : Bool) (A1 A2 : Option Addr) (n1 c1 a n2 c2 b : Nat) (w : World) (h1 : Mag w A1 n1 c1 a) (h2 : Mag w A2 n2 c2 b) (l1 : n1 ≤ 1000) (l2 : n2 ≤ 1000) (da db : Nat) (hda : Hid (dl a = da)) (hdb : Hid (dl b = db)) (h0 : da = 0) :
    Calls Tryd.prog 38 #[.agg #[.bool na, .slice A1 n1 c1], .agg #[.bool nb, .slice A2 n2 c2]] w fun e w' => Said w w' e R (a * b) := by
  obtain ⟨W, hW⟩ : ∃ W, W = ((w.alloc (.cells #[.bool na, .slice A1 n1 c1] 24)).alloc (.cells #[.bool nb, .slice A2 n2 c2] 24)).alloc (.cells #[.bool false, .slice none 0 0] 24) := ⟨_, rfl⟩
  obtain ⟨t1, t2, t3, hbW, hWs⟩ := boxes3 w _ _ _ _ _ _ W hW
  have m1 := h1.below hbW
  have m2 := h2.below hbW
  have k1 := t1.fst
  have k2 := t1.snd
  have k3 := t2.fst
  have k4 := t2.snd
  have dlb : db ≤ 1000 := by rw [← hdb.out]; exact Nat.le_trans h2.le l2
  have dla : da ≤ 1000 := by rw [← hda.out]; exact Nat.le_trans h1.le l1
  have T1 : ∀ V, Mag V A1 n1 c1 a → Calls Tryd.prog 54 #[.slice A1 n1 c1] V fun e w' => e = .returned (.slice A1 da c1) ∧ V = w' := fun V h => by rw [← hda.out]; exact trim_mag A1 n1 c1 a V h (by omega)
  have T2 : ∀ V, Mag V A2 n2 c2 b → Calls Tryd.prog 54 #[.slice A2 n2 c2] V fun e w' => e = .returned (.slice A2 db c2) ∧ V = w' := fun V h => by rw [← hdb.out]; exact trim_mag A2 n2 c2 b V h (by omega)
  have T1' : ∀ V, Mag V A1 n1 c1 a → Hid (Mag V A1 da c1 a) := fun V h => Lib.hid (by rw [← hda.out]; exact h.trim)
  have T2' : ∀ V, Mag V A2 n2 c2 b → Hid (Mag V A2 db c2 b) := fun V h => Lib.hid (by rw [← hdb.out]; exact h.trim)
  have TH1 := fun V h => Lib.hid (T1 V h)
  have TH2 := fun V h => Lib.hid (T2 V h)
  clear T1 T2
  have HN : Hid (a * b = 0) := Lib.hid (by rw [dl_z (hda.out.trans h0), Nat.zero_mul])
  subst h0
  go_enter Tryd.func38, Tryd.ntmps38
  go_wp2_with fail
  rw [← hW]
  have HW := Lib.hid hW
  have HWS := Lib.hid hWs
  clear hW hWs
  go_quiet ((go_at_call 54; (first | (with_reducible exact calm (TH1 _ (m1.drewN _)).out) | (with_reducible exact calm (TH2 _ (m2.drewN _)).out))))
  obtain ⟨V, hV⟩ : ∃ V, V = W.drewN nq := ⟨_, rfl⟩
  have hbV : Below w.heap.size w V := by rw [hV]; exact below_drewN hbW _
  have u1 : Two V w.heap.size 24 (.bool na) (.slice A1 n1 c1) := by rw [hV]; exact t1
  have u2 : Two V (w.heap.size + 1) 24 (.bool nb) (.slice A2 n2 c2) := by rw [hV]; exact t2
  have u3 : Two V (w.heap.size + 2) 24 (.bool false) (.slice none 0 0) := by rw [hV]; exact t3
  have m1' : Mag V A1 n1 c1 a := by rw [hV]; exact m1
  have m2' : Mag V A2 n2 c2 b := by rw [hV]; exact m2
  have hVs : Hid (V.heap.size = w.heap.size + 3) := by rw [hV]; exact HWS
  rw [← hV]
  clear hV m1 m2 t1 t2 t3 k1 k2 k3 k4
  have k1 := u1.fst
  have k2 := u2.fst
  have k3 := u3.fst
  have k4 := u3.snd
  have k5 := u3.free 0
  have k6 := u3.free 1
  go_wp2
  all_goals exact bodyPost_ret (v := .tuple #[.agg #[.bool false, .slice none 0 0], .int .i64 0]) (by simp [results, Tryd.results38, go_sem, k3, k4]) rfl (said_zero HN.out rfl (below_two (g := w.heap.size + 1 + 1) hbV (by omega)))
set_option maxHeartbeats 3200000 in
theorem mul_zb (na nb : Bool) (R : Bool) (A1 A2 : Option Addr) (n1 c1 a n2 c2 b : Nat) (w : World) (h1 : Mag w A1 n1 c1 a) (h2 : Mag w A2 n2 c2 b) (l1 : n1 ≤ 1000) (l2 : n2 ≤ 1000) (da db : Nat) (hda : Hid (dl a = da)) (hdb : Hid (dl b = db)) (h0 : 0 < da) (h00 : db = 0) :
    Calls Tryd.prog 38 #[.agg #[.bool na, .slice A1 n1 c1], .agg #[.bool nb, .slice A2 n2 c2]] w fun e w' => Said w w' e R (a * b) := by
  obtain ⟨W, hW⟩ : ∃ W, W = ((w.alloc (.cells #[.bool na, .slice A1 n1 c1] 24)).alloc (.cells #[.bool nb, .slice A2 n2 c2] 24)).alloc (.cells #[.bool false, .slice none 0 0] 24) := ⟨_, rfl⟩
  obtain ⟨t1, t2, t3, hbW, hWs⟩ := boxes3 w _ _ _ _ _ _ W hW
  have m1 := h1.below hbW
  have m2 := h2.below hbW
  have k1 := t1.fst
  have k2 := t1.snd
  have k3 := t2.fst
  have k4 := t2.snd
  have dlb : db ≤ 1000 := by rw [← hdb.out]; exact Nat.le_trans h2.le l2
  have dla : da ≤ 1000 := by rw [← hda.out]; exact Nat.le_trans h1.le l1
  have T1 : ∀ V, Mag V A1 n1 c1 a → Calls Tryd.prog 54 #[.slice A1 n1 c1] V fun e w' => e = .returned (.slice A1 da c1) ∧ V = w' := fun V h => by rw [← hda.out]; exact trim_mag A1 n1 c1 a V h (by omega)
  have T2 : ∀ V, Mag V A2 n2 c2 b → Calls Tryd.prog 54 #[.slice A2 n2 c2] V fun e w' => e = .returned (.slice A2 db c2) ∧ V = w' := fun V h => by rw [← hdb.out]; exact trim_mag A2 n2 c2 b V h (by omega)
  have T1' : ∀ V, Mag V A1 n1 c1 a → Hid (Mag V A1 da c1 a) := fun V h => Lib.hid (by rw [← hda.out]; exact h.trim)
  have T2' : ∀ V, Mag V A2 n2 c2 b → Hid (Mag V A2 db c2 b) := fun V h => Lib.hid (by rw [← hdb.out]; exact h.trim)
  have TH1 := fun V h => Lib.hid (T1 V h)
  have TH2 := fun V h => Lib.hid (T2 V h)
  clear T1 T2
  have HN : Hid (a * b = 0) := Lib.hid (by rw [dl_z (hdb.out.trans h00), Nat.mul_zero])
  subst h00
  go_enter Tryd.func38, Tryd.ntmps38
  go_wp2_with fail
  rw [← hW]
  have HW := Lib.hid hW
  have HWS := Lib.hid hWs
  clear hW hWs
  go_quiet ((go_at_call 54; (first | (with_reducible exact calm (TH1 _ (m1.drewN _)).out) | (with_reducible exact calm (TH2 _ (m2.drewN _)).out))))
  obtain ⟨V, hV⟩ : ∃ V, V = W.drewN nq := ⟨_, rfl⟩
  have hbV : Below w.heap.size w V := by rw [hV]; exact below_drewN hbW _
  have u1 : Two V w.heap.size 24 (.bool na) (.slice A1 n1 c1) := by rw [hV]; exact t1
  have u2 : Two V (w.heap.size + 1) 24 (.bool nb) (.slice A2 n2 c2) := by rw [hV]; exact t2
  have u3 : Two V (w.heap.size + 2) 24 (.bool false) (.slice none 0 0) := by rw [hV]; exact t3
  have m1' : Mag V A1 n1 c1 a := by rw [hV]; exact m1
  have m2' : Mag V A2 n2 c2 b := by rw [hV]; exact m2
  have hVs : Hid (V.heap.size = w.heap.size + 3) := by rw [hV]; exact HWS
  rw [← hV]
  clear hV m1 m2 t1 t2 t3 k1 k2 k3 k4
  have k1 := u1.fst
  have k2 := u2.fst
  have k3 := u3.fst
  have k4 := u3.snd
  have k5 := u3.free 0
  have k6 := u3.free 1
  go_wp2
  all_goals exact bodyPost_ret (v := .tuple #[.agg #[.bool false, .slice none 0 0], .int .i64 0]) (by simp [results, Tryd.results38, go_sem, k3, k4]) rfl (said_zero HN.out rfl (below_two (g := w.heap.size + 1 + 1) hbV (by omega)))
set_option maxHeartbeats 3200000 in
theorem mul_big (na nb : Bool) (R : Bool) (A1 A2 : Option Addr) (n1 c1 a n2 c2 b : Nat) (w : World) (h1 : Mag w A1 n1 c1 a) (h2 : Mag w A2 n2 c2 b) (l1 : n1 ≤ 1000) (l2 : n2 ≤ 1000) (da db : Nat) (hda : Hid (dl a = da)) (hdb : Hid (dl b = db)) (h0 : 0 < da) (h00 : 0 < db) (hs : 49 < da + db) :
    Calls Tryd.prog 38 #[.agg #[.bool na, .slice A1 n1 c1], .agg #[.bool nb, .slice A2 n2 c2]] w fun e w' => Said w w' e R (a * b) := by
  obtain ⟨W, hW⟩ : ∃ W, W = ((w.alloc (.cells #[.bool na, .slice A1 n1 c1] 24)).alloc (.cells #[.bool nb, .slice A2 n2 c2] 24)).alloc (.cells #[.bool false, .slice none 0 0] 24) := ⟨_, rfl⟩
  obtain ⟨t1, t2, t3, hbW, hWs⟩ := boxes3 w _ _ _ _ _ _ W hW
  have m1 := h1.below hbW
  have m2 := h2.below hbW
  have k1 := t1.fst
  have k2 := t1.snd
  have k3 := t2.fst
  have k4 := t2.snd
  have dlb : db ≤ 1000 := by rw [← hdb.out]; exact Nat.le_trans h2.le l2
  have dla : da ≤ 1000 := by rw [← hda.out]; exact Nat.le_trans h1.le l1
  have T1 : ∀ V, Mag V A1 n1 c1 a → Calls Tryd.prog 54 #[.slice A1 n1 c1] V fun e w' => e = .returned (.slice A1 da c1) ∧ V = w' := fun V h => by rw [← hda.out]; exact trim_mag A1 n1 c1 a V h (by omega)
  have T2 : ∀ V, Mag V A2 n2 c2 b → Calls Tryd.prog 54 #[.slice A2 n2 c2] V fun e w' => e = .returned (.slice A2 db c2) ∧ V = w' := fun V h => by rw [← hdb.out]; exact trim_mag A2 n2 c2 b V h (by omega)
  have T1' : ∀ V, Mag V A1 n1 c1 a → Hid (Mag V A1 da c1 a) := fun V h => Lib.hid (by rw [← hda.out]; exact h.trim)
  have T2' : ∀ V, Mag V A2 n2 c2 b → Hid (Mag V A2 db c2 b) := fun V h => Lib.hid (by rw [← hdb.out]; exact h.trim)
  have TH1 := fun V h => Lib.hid (T1 V h)
  have TH2 := fun V h => Lib.hid (T2 V h)
  clear T1 T2
  have HN : Hid (48 < dl (a * b)) := Lib.hid (dl_mul (by rw [hda.out]; exact h0) (by rw [hdb.out]; exact h00) (by rw [hda.out, hdb.out]; omega))
  have e1 : ((da : Int) == 0) = false := by simp; omega
  have e2 : ((db : Int) == 0) = false := by simp; omega
  go_enter Tryd.func38, Tryd.ntmps38
  go_wp2_with fail
  rw [← hW]
  have HW := Lib.hid hW
  have HWS := Lib.hid hWs
  clear hW hWs
  go_quiet ((go_at_call 54; (first | (with_reducible exact calm (TH1 _ (m1.drewN _)).out) | (with_reducible exact calm (TH2 _ (m2.drewN _)).out))))
  obtain ⟨V, hV⟩ : ∃ V, V = W.drewN nq := ⟨_, rfl⟩
  have hbV : Below w.heap.size w V := by rw [hV]; exact below_drewN hbW _
  have u1 : Two V w.heap.size 24 (.bool na) (.slice A1 n1 c1) := by rw [hV]; exact t1
  have u2 : Two V (w.heap.size + 1) 24 (.bool nb) (.slice A2 n2 c2) := by rw [hV]; exact t2
  have u3 : Two V (w.heap.size + 2) 24 (.bool false) (.slice none 0 0) := by rw [hV]; exact t3
  have m1' : Mag V A1 n1 c1 a := by rw [hV]; exact m1
  have m2' : Mag V A2 n2 c2 b := by rw [hV]; exact m2
  have hVs : Hid (V.heap.size = w.heap.size + 3) := by rw [hV]; exact HWS
  rw [← hV]
  clear hV m1 m2 t1 t2 t3 k1 k2 k3 k4
  have k1 := u1.fst
  have k2 := u2.fst
  have k3 := u3.fst
  have k4 := u3.snd
  have k5 := u3.free 0
  have k6 := u3.free 1
  go_wp2
  all_goals exact bodyPost_ret (v := .tuple #[.agg #[.bool false, .slice none 0 0], .int .i64 6]) (by simp [results, Tryd.results38, go_sem, k3, k4]) rfl (said_big HN.out rfl (below_two (g := w.heap.size + 1 + 1) hbV (by omega)))
set_option maxHeartbeats 3200000 in
theorem mul_tt (A1 A2 : Option Addr) (n1 c1 a n2 c2 b : Nat) (w : World) (h1 : Mag w A1 n1 c1 a) (h2 : Mag w A2 n2 c2 b) (l1 : n1 ≤ 1000) (l2 : n2 ≤ 1000) (da db : Nat) (hda : Hid (dl a = da)) (hdb : Hid (dl b = db)) (h0 : 0 < da) (h00 : 0 < db) (hs : da + db ≤ 49) :
    Calls Tryd.prog 38 #[.agg #[.bool true, .slice A1 n1 c1], .agg #[.bool true, .slice A2 n2 c2]] w fun e w' => Said w w' e false (a * b) := by
  obtain ⟨W, hW⟩ : ∃ W, W = ((w.alloc (.cells #[.bool true, .slice A1 n1 c1] 24)).alloc (.cells #[.bool true, .slice A2 n2 c2] 24)).alloc (.cells #[.bool false, .slice none 0 0] 24) := ⟨_, rfl⟩
  obtain ⟨t1, t2, t3, hbW, hWs⟩ := boxes3 w _ _ _ _ _ _ W hW
  have m1 := h1.below hbW
  have m2 := h2.below hbW
  have k1 := t1.fst
  have k2 := t1.snd
  have k3 := t2.fst
  have k4 := t2.snd
  have dlb : db ≤ 1000 := by rw [← hdb.out]; exact Nat.le_trans h2.le l2
  have dla : da ≤ 1000 := by rw [← hda.out]; exact Nat.le_trans h1.le l1
  have T1 : ∀ V, Mag V A1 n1 c1 a → Calls Tryd.prog 54 #[.slice A1 n1 c1] V fun e w' => e = .returned (.slice A1 da c1) ∧ V = w' := fun V h => by rw [← hda.out]; exact trim_mag A1 n1 c1 a V h (by omega)
  have T2 : ∀ V, Mag V A2 n2 c2 b → Calls Tryd.prog 54 #[.slice A2 n2 c2] V fun e w' => e = .returned (.slice A2 db c2) ∧ V = w' := fun V h => by rw [← hdb.out]; exact trim_mag A2 n2 c2 b V h (by omega)
  have T1' : ∀ V, Mag V A1 n1 c1 a → Hid (Mag V A1 da c1 a) := fun V h => Lib.hid (by rw [← hda.out]; exact h.trim)
  have T2' : ∀ V, Mag V A2 n2 c2 b → Hid (Mag V A2 db c2 b) := fun V h => Lib.hid (by rw [← hdb.out]; exact h.trim)
  have TH1 := fun V h => Lib.hid (T1 V h)
  have TH2 := fun V h => Lib.hid (T2 V h)
  clear T1 T2
  have e1 : ((da : Int) == 0) = false := by simp; omega
  have e2 : ((db : Int) == 0) = false := by simp; omega
  go_enter Tryd.func38, Tryd.ntmps38
  go_wp2_with fail
  rw [← hW]
  have HW := Lib.hid hW
  have HWS := Lib.hid hWs
  clear hW hWs
  go_quiet ((go_at_call 54; (first | (with_reducible exact calm (TH1 _ (m1.drewN _)).out) | (with_reducible exact calm (TH2 _ (m2.drewN _)).out))))
  obtain ⟨V, hV⟩ : ∃ V, V = W.drewN nq := ⟨_, rfl⟩
  have hbV : Below w.heap.size w V := by rw [hV]; exact below_drewN hbW _
  have u1 : Two V w.heap.size 24 (.bool true) (.slice A1 n1 c1) := by rw [hV]; exact t1
  have u2 : Two V (w.heap.size + 1) 24 (.bool true) (.slice A2 n2 c2) := by rw [hV]; exact t2
  have u3 : Two V (w.heap.size + 2) 24 (.bool false) (.slice none 0 0) := by rw [hV]; exact t3
  have m1' : Mag V A1 n1 c1 a := by rw [hV]; exact m1
  have m2' : Mag V A2 n2 c2 b := by rw [hV]; exact m2
  have hVs : Hid (V.heap.size = w.heap.size + 3) := by rw [hV]; exact HWS
  rw [← hV]
  clear hV m1 m2 t1 t2 t3 k1 k2 k3 k4
  have k1 := u1.fst
  have k2 := u2.fst
  have k3 := u3.fst
  have k4 := u3.snd
  have k5 := u3.free 0
  have k6 := u3.free 1
  have PL := fun W h h' => Lib.hid (times_mag A1 A2 da db c1 c2 a b W h h' (by omega) (by omega))
  have q1 : ∀ V', Below V.heap.size V V' → Hid (Mag V' A1 da c1 a) := fun V' h => T1' _ (m1'.below h)
  have q2 : ∀ V', Below V.heap.size V V' → Hid (Mag V' A2 db c2 b) := fun V' h => T2' _ (m2'.below h)
  go_wp2_with (first
    | (go_at_call 52; refine (signed_box false _).mono ?_; rintro e vb ⟨bx, rfl, xa, hb1⟩)
    | (go_at_call 61; refine ((PL _ (q1 _ hb1).out (q2 _ hb1).out).out).mono ?_; rintro e wp ⟨rfl, mp, bp⟩)
    | (go_at_call 79; refine (signed1_any bx false _ _ _ (a * b) _ (xa.below bp) mp (by omega)).mono ?_; rintro e ws ⟨r, A, m, c, v, rfl, ha⟩; have hbs : Below V.heap.size V ws := below_then hb1 (below_then bp ha.low); have z3 := (u3.below' hbs).fst; have z4 := (u3.below' hbs).snd; have z5 := (u3.below' hbs).free 0; have z6 := (u3.below' hbs).free 1))
  exact bodyPost_ret (v := .tuple #[.agg #[.bool r, .slice A m c], .int .i64 v]) (by simp [results, Tryd.results38, go_sem, z3, z4]) rfl
    ⟨r, A, m, c, v, rfl, ha.two (g := w.heap.size + 1 + 1) (below_then (below_then hbV hb1) bp) (by omega) (by have := hVs.out; have := hb1.size; have := bp.size; omega)⟩
set_option maxHeartbeats 3200000 in
theorem mul_tf (A1 A2 : Option Addr) (n1 c1 a n2 c2 b : Nat) (w : World) (h1 : Mag w A1 n1 c1 a) (h2 : Mag w A2 n2 c2 b) (l1 : n1 ≤ 1000) (l2 : n2 ≤ 1000) (da db : Nat) (hda : Hid (dl a = da)) (hdb : Hid (dl b = db)) (h0 : 0 < da) (h00 : 0 < db) (hs : da + db ≤ 49) :
    Calls Tryd.prog 38 #[.agg #[.bool true, .slice A1 n1 c1], .agg #[.bool false, .slice A2 n2 c2]] w fun e w' => Said w w' e true (a * b) := by
  obtain ⟨W, hW⟩ : ∃ W, W = ((w.alloc (.cells #[.bool true, .slice A1 n1 c1] 24)).alloc (.cells #[.bool false, .slice A2 n2 c2] 24)).alloc (.cells #[.bool false, .slice none 0 0] 24) := ⟨_, rfl⟩
  obtain ⟨t1, t2, t3, hbW, hWs⟩ := boxes3 w _ _ _ _ _ _ W hW
  have m1 := h1.below hbW
  have m2 := h2.below hbW
  have k1 := t1.fst
  have k2 := t1.snd
  have k3 := t2.fst
  have k4 := t2.snd
  have dlb : db ≤ 1000 := by rw [← hdb.out]; exact Nat.le_trans h2.le l2
  have dla : da ≤ 1000 := by rw [← hda.out]; exact Nat.le_trans h1.le l1
  have T1 : ∀ V, Mag V A1 n1 c1 a → Calls Tryd.prog 54 #[.slice A1 n1 c1] V fun e w' => e = .returned (.slice A1 da c1) ∧ V = w' := fun V h => by rw [← hda.out]; exact trim_mag A1 n1 c1 a V h (by omega)
  have T2 : ∀ V, Mag V A2 n2 c2 b → Calls Tryd.prog 54 #[.slice A2 n2 c2] V fun e w' => e = .returned (.slice A2 db c2) ∧ V = w' := fun V h => by rw [← hdb.out]; exact trim_mag A2 n2 c2 b V h (by omega)
  have T1' : ∀ V, Mag V A1 n1 c1 a → Hid (Mag V A1 da c1 a) := fun V h => Lib.hid (by rw [← hda.out]; exact h.trim)
  have T2' : ∀ V, Mag V A2 n2 c2 b → Hid (Mag V A2 db c2 b) := fun V h => Lib.hid (by rw [← hdb.out]; exact h.trim)
  have TH1 := fun V h => Lib.hid (T1 V h)
  have TH2 := fun V h => Lib.hid (T2 V h)
  clear T1 T2
  have e1 : ((da : Int) == 0) = false := by simp; omega
  have e2 : ((db : Int) == 0) = false := by simp; omega
  go_enter Tryd.func38, Tryd.ntmps38
  go_wp2_with fail
  rw [← hW]
  have HW := Lib.hid hW
  have HWS := Lib.hid hWs
  clear hW hWs
  go_quiet ((go_at_call 54; (first | (with_reducible exact calm (TH1 _ (m1.drewN _)).out) | (with_reducible exact calm (TH2 _ (m2.drewN _)).out))))
  obtain ⟨V, hV⟩ : ∃ V, V = W.drewN nq := ⟨_, rfl⟩
  have hbV : Below w.heap.size w V := by rw [hV]; exact below_drewN hbW _
  have u1 : Two V w.heap.size 24 (.bool true) (.slice A1 n1 c1) := by rw [hV]; exact t1
  have u2 : Two V (w.heap.size + 1) 24 (.bool false) (.slice A2 n2 c2) := by rw [hV]; exact t2
  have u3 : Two V (w.heap.size + 2) 24 (.bool false) (.slice none 0 0) := by rw [hV]; exact t3
  have m1' : Mag V A1 n1 c1 a := by rw [hV]; exact m1
  have m2' : Mag V A2 n2 c2 b := by rw [hV]; exact m2
  have hVs : Hid (V.heap.size = w.heap.size + 3) := by rw [hV]; exact HWS
  rw [← hV]
  clear hV m1 m2 t1 t2 t3 k1 k2 k3 k4
  have k1 := u1.fst
  have k2 := u2.fst
  have k3 := u3.fst
  have k4 := u3.snd
  have k5 := u3.free 0
  have k6 := u3.free 1
  have PL := fun W h h' => Lib.hid (times_mag A1 A2 da db c1 c2 a b W h h' (by omega) (by omega))
  have q1 : ∀ V', Below V.heap.size V V' → Hid (Mag V' A1 da c1 a) := fun V' h => T1' _ (m1'.below h)
  have q2 : ∀ V', Below V.heap.size V V' → Hid (Mag V' A2 db c2 b) := fun V' h => T2' _ (m2'.below h)
  go_wp2_with (first
    | (go_at_call 52; refine (signed_box true _).mono ?_; rintro e vb ⟨bx, rfl, xa, hb1⟩)
    | (go_at_call 61; refine ((PL _ (q1 _ hb1).out (q2 _ hb1).out).out).mono ?_; rintro e wp ⟨rfl, mp, bp⟩)
    | (go_at_call 79; refine (signed1_any bx true _ _ _ (a * b) _ (xa.below bp) mp (by omega)).mono ?_; rintro e ws ⟨r, A, m, c, v, rfl, ha⟩; have hbs : Below V.heap.size V ws := below_then hb1 (below_then bp ha.low); have z3 := (u3.below' hbs).fst; have z4 := (u3.below' hbs).snd; have z5 := (u3.below' hbs).free 0; have z6 := (u3.below' hbs).free 1))
  exact bodyPost_ret (v := .tuple #[.agg #[.bool r, .slice A m c], .int .i64 v]) (by simp [results, Tryd.results38, go_sem, z3, z4]) rfl
    ⟨r, A, m, c, v, rfl, ha.two (g := w.heap.size + 1 + 1) (below_then (below_then hbV hb1) bp) (by omega) (by have := hVs.out; have := hb1.size; have := bp.size; omega)⟩
set_option maxHeartbeats 3200000 in
theorem mul_ft (A1 A2 : Option Addr) (n1 c1 a n2 c2 b : Nat) (w : World) (h1 : Mag w A1 n1 c1 a) (h2 : Mag w A2 n2 c2 b) (l1 : n1 ≤ 1000) (l2 : n2 ≤ 1000) (da db : Nat) (hda : Hid (dl a = da)) (hdb : Hid (dl b = db)) (h0 : 0 < da) (h00 : 0 < db) (hs : da + db ≤ 49) :
    Calls Tryd.prog 38 #[.agg #[.bool false, .slice A1 n1 c1], .agg #[.bool true, .slice A2 n2 c2]] w fun e w' => Said w w' e true (a * b) := by
  obtain ⟨W, hW⟩ : ∃ W, W = ((w.alloc (.cells #[.bool false, .slice A1 n1 c1] 24)).alloc (.cells #[.bool true, .slice A2 n2 c2] 24)).alloc (.cells #[.bool false, .slice none 0 0] 24) := ⟨_, rfl⟩
  obtain ⟨t1, t2, t3, hbW, hWs⟩ := boxes3 w _ _ _ _ _ _ W hW
  have m1 := h1.below hbW
  have m2 := h2.below hbW
  have k1 := t1.fst
  have k2 := t1.snd
  have k3 := t2.fst
  have k4 := t2.snd
  have dlb : db ≤ 1000 := by rw [← hdb.out]; exact Nat.le_trans h2.le l2
  have dla : da ≤ 1000 := by rw [← hda.out]; exact Nat.le_trans h1.le l1
  have T1 : ∀ V, Mag V A1 n1 c1 a → Calls Tryd.prog 54 #[.slice A1 n1 c1] V fun e w' => e = .returned (.slice A1 da c1) ∧ V = w' := fun V h => by rw [← hda.out]; exact trim_mag A1 n1 c1 a V h (by omega)
  have T2 : ∀ V, Mag V A2 n2 c2 b → Calls Tryd.prog 54 #[.slice A2 n2 c2] V fun e w' => e = .returned (.slice A2 db c2) ∧ V = w' := fun V h => by rw [← hdb.out]; exact trim_mag A2 n2 c2 b V h (by omega)
  have T1' : ∀ V, Mag V A1 n1 c1 a → Hid (Mag V A1 da c1 a) := fun V h => Lib.hid (by rw [← hda.out]; exact h.trim)
  have T2' : ∀ V, Mag V A2 n2 c2 b → Hid (Mag V A2 db c2 b) := fun V h => Lib.hid (by rw [← hdb.out]; exact h.trim)
  have TH1 := fun V h => Lib.hid (T1 V h)
  have TH2 := fun V h => Lib.hid (T2 V h)
  clear T1 T2
  have e1 : ((da : Int) == 0) = false := by simp; omega
  have e2 : ((db : Int) == 0) = false := by simp; omega
  go_enter Tryd.func38, Tryd.ntmps38
  go_wp2_with fail
  rw [← hW]
  have HW := Lib.hid hW
  have HWS := Lib.hid hWs
  clear hW hWs
  go_quiet ((go_at_call 54; (first | (with_reducible exact calm (TH1 _ (m1.drewN _)).out) | (with_reducible exact calm (TH2 _ (m2.drewN _)).out))))
  obtain ⟨V, hV⟩ : ∃ V, V = W.drewN nq := ⟨_, rfl⟩
  have hbV : Below w.heap.size w V := by rw [hV]; exact below_drewN hbW _
  have u1 : Two V w.heap.size 24 (.bool false) (.slice A1 n1 c1) := by rw [hV]; exact t1
  have u2 : Two V (w.heap.size + 1) 24 (.bool true) (.slice A2 n2 c2) := by rw [hV]; exact t2
  have u3 : Two V (w.heap.size + 2) 24 (.bool false) (.slice none 0 0) := by rw [hV]; exact t3
  have m1' : Mag V A1 n1 c1 a := by rw [hV]; exact m1
  have m2' : Mag V A2 n2 c2 b := by rw [hV]; exact m2
  have hVs : Hid (V.heap.size = w.heap.size + 3) := by rw [hV]; exact HWS
  rw [← hV]
  clear hV m1 m2 t1 t2 t3 k1 k2 k3 k4
  have k1 := u1.fst
  have k2 := u2.fst
  have k3 := u3.fst
  have k4 := u3.snd
  have k5 := u3.free 0
  have k6 := u3.free 1
  have PL := fun W h h' => Lib.hid (times_mag A1 A2 da db c1 c2 a b W h h' (by omega) (by omega))
  have q1 : ∀ V', Below V.heap.size V V' → Hid (Mag V' A1 da c1 a) := fun V' h => T1' _ (m1'.below h)
  have q2 : ∀ V', Below V.heap.size V V' → Hid (Mag V' A2 db c2 b) := fun V' h => T2' _ (m2'.below h)
  go_wp2_with (first
    | (go_at_call 52; refine (signed_box true _).mono ?_; rintro e vb ⟨bx, rfl, xa, hb1⟩)
    | (go_at_call 61; refine ((PL _ (q1 _ hb1).out (q2 _ hb1).out).out).mono ?_; rintro e wp ⟨rfl, mp, bp⟩)
    | (go_at_call 79; refine (signed1_any bx true _ _ _ (a * b) _ (xa.below bp) mp (by omega)).mono ?_; rintro e ws ⟨r, A, m, c, v, rfl, ha⟩; have hbs : Below V.heap.size V ws := below_then hb1 (below_then bp ha.low); have z3 := (u3.below' hbs).fst; have z4 := (u3.below' hbs).snd; have z5 := (u3.below' hbs).free 0; have z6 := (u3.below' hbs).free 1))
  exact bodyPost_ret (v := .tuple #[.agg #[.bool r, .slice A m c], .int .i64 v]) (by simp [results, Tryd.results38, go_sem, z3, z4]) rfl
    ⟨r, A, m, c, v, rfl, ha.two (g := w.heap.size + 1 + 1) (below_then (below_then hbV hb1) bp) (by omega) (by have := hVs.out; have := hb1.size; have := bp.size; omega)⟩
set_option maxHeartbeats 3200000 in
theorem mul_ff (A1 A2 : Option Addr) (n1 c1 a n2 c2 b : Nat) (w : World) (h1 : Mag w A1 n1 c1 a) (h2 : Mag w A2 n2 c2 b) (l1 : n1 ≤ 1000) (l2 : n2 ≤ 1000) (da db : Nat) (hda : Hid (dl a = da)) (hdb : Hid (dl b = db)) (h0 : 0 < da) (h00 : 0 < db) (hs : da + db ≤ 49) :
    Calls Tryd.prog 38 #[.agg #[.bool false, .slice A1 n1 c1], .agg #[.bool false, .slice A2 n2 c2]] w fun e w' => Said w w' e false (a * b) := by
  obtain ⟨W, hW⟩ : ∃ W, W = ((w.alloc (.cells #[.bool false, .slice A1 n1 c1] 24)).alloc (.cells #[.bool false, .slice A2 n2 c2] 24)).alloc (.cells #[.bool false, .slice none 0 0] 24) := ⟨_, rfl⟩
  obtain ⟨t1, t2, t3, hbW, hWs⟩ := boxes3 w _ _ _ _ _ _ W hW
  have m1 := h1.below hbW
  have m2 := h2.below hbW
  have k1 := t1.fst
  have k2 := t1.snd
  have k3 := t2.fst
  have k4 := t2.snd
  have dlb : db ≤ 1000 := by rw [← hdb.out]; exact Nat.le_trans h2.le l2
  have dla : da ≤ 1000 := by rw [← hda.out]; exact Nat.le_trans h1.le l1
  have T1 : ∀ V, Mag V A1 n1 c1 a → Calls Tryd.prog 54 #[.slice A1 n1 c1] V fun e w' => e = .returned (.slice A1 da c1) ∧ V = w' := fun V h => by rw [← hda.out]; exact trim_mag A1 n1 c1 a V h (by omega)
  have T2 : ∀ V, Mag V A2 n2 c2 b → Calls Tryd.prog 54 #[.slice A2 n2 c2] V fun e w' => e = .returned (.slice A2 db c2) ∧ V = w' := fun V h => by rw [← hdb.out]; exact trim_mag A2 n2 c2 b V h (by omega)
  have T1' : ∀ V, Mag V A1 n1 c1 a → Hid (Mag V A1 da c1 a) := fun V h => Lib.hid (by rw [← hda.out]; exact h.trim)
  have T2' : ∀ V, Mag V A2 n2 c2 b → Hid (Mag V A2 db c2 b) := fun V h => Lib.hid (by rw [← hdb.out]; exact h.trim)
  have TH1 := fun V h => Lib.hid (T1 V h)
  have TH2 := fun V h => Lib.hid (T2 V h)
  clear T1 T2
  have e1 : ((da : Int) == 0) = false := by simp; omega
  have e2 : ((db : Int) == 0) = false := by simp; omega
  go_enter Tryd.func38, Tryd.ntmps38
  go_wp2_with fail
  rw [← hW]
  have HW := Lib.hid hW
  have HWS := Lib.hid hWs
  clear hW hWs
  go_quiet ((go_at_call 54; (first | (with_reducible exact calm (TH1 _ (m1.drewN _)).out) | (with_reducible exact calm (TH2 _ (m2.drewN _)).out))))
  obtain ⟨V, hV⟩ : ∃ V, V = W.drewN nq := ⟨_, rfl⟩
  have hbV : Below w.heap.size w V := by rw [hV]; exact below_drewN hbW _
  have u1 : Two V w.heap.size 24 (.bool false) (.slice A1 n1 c1) := by rw [hV]; exact t1
  have u2 : Two V (w.heap.size + 1) 24 (.bool false) (.slice A2 n2 c2) := by rw [hV]; exact t2
  have u3 : Two V (w.heap.size + 2) 24 (.bool false) (.slice none 0 0) := by rw [hV]; exact t3
  have m1' : Mag V A1 n1 c1 a := by rw [hV]; exact m1
  have m2' : Mag V A2 n2 c2 b := by rw [hV]; exact m2
  have hVs : Hid (V.heap.size = w.heap.size + 3) := by rw [hV]; exact HWS
  rw [← hV]
  clear hV m1 m2 t1 t2 t3 k1 k2 k3 k4
  have k1 := u1.fst
  have k2 := u2.fst
  have k3 := u3.fst
  have k4 := u3.snd
  have k5 := u3.free 0
  have k6 := u3.free 1
  have PL := fun W h h' => Lib.hid (times_mag A1 A2 da db c1 c2 a b W h h' (by omega) (by omega))
  have q1 : ∀ V', Below V.heap.size V V' → Hid (Mag V' A1 da c1 a) := fun V' h => T1' _ (m1'.below h)
  have q2 : ∀ V', Below V.heap.size V V' → Hid (Mag V' A2 db c2 b) := fun V' h => T2' _ (m2'.below h)
  go_wp2_with (first
    | (go_at_call 52; refine (signed_box false _).mono ?_; rintro e vb ⟨bx, rfl, xa, hb1⟩)
    | (go_at_call 61; refine ((PL _ (q1 _ hb1).out (q2 _ hb1).out).out).mono ?_; rintro e wp ⟨rfl, mp, bp⟩)
    | (go_at_call 79; refine (signed1_any bx false _ _ _ (a * b) _ (xa.below bp) mp (by omega)).mono ?_; rintro e ws ⟨r, A, m, c, v, rfl, ha⟩; have hbs : Below V.heap.size V ws := below_then hb1 (below_then bp ha.low); have z3 := (u3.below' hbs).fst; have z4 := (u3.below' hbs).snd; have z5 := (u3.below' hbs).free 0; have z6 := (u3.below' hbs).free 1))
  exact bodyPost_ret (v := .tuple #[.agg #[.bool r, .slice A m c], .int .i64 v]) (by simp [results, Tryd.results38, go_sem, z3, z4]) rfl
    ⟨r, A, m, c, v, rfl, ha.two (g := w.heap.size + 1 + 1) (below_then (below_then hbV hb1) bp) (by omega) (by have := hVs.out; have := hb1.size; have := bp.size; omega)⟩
theorem mul_any (na nb : Bool) (A1 A2 : Option Addr) (n1 c1 a n2 c2 b : Nat) (w : World) (h1 : Mag w A1 n1 c1 a) (h2 : Mag w A2 n2 c2 b) (l1 : n1 ≤ 1000) (l2 : n2 ≤ 1000) :
    Calls Tryd.prog 38 #[.agg #[.bool na, .slice A1 n1 c1], .agg #[.bool nb, .slice A2 n2 c2]] w fun e w' => Said w w' e (na != nb) (a * b) := by
  rcases Nat.eq_zero_or_pos (dl a) with h0 | h0
  · exact mul_za na nb _ A1 A2 n1 c1 a n2 c2 b w h1 h2 l1 l2 _ _ (Lib.hid rfl) (Lib.hid rfl) h0
  · rcases Nat.eq_zero_or_pos (dl b) with h00 | h00
    · exact mul_zb na nb _ A1 A2 n1 c1 a n2 c2 b w h1 h2 l1 l2 _ _ (Lib.hid rfl) (Lib.hid rfl) h0 h00
    · by_cases hs : dl a + dl b ≤ 49
      · cases na <;> cases nb
        · exact mul_ff A1 A2 n1 c1 a n2 c2 b w h1 h2 l1 l2 _ _ (Lib.hid rfl) (Lib.hid rfl) h0 h00 hs
        · exact mul_ft A1 A2 n1 c1 a n2 c2 b w h1 h2 l1 l2 _ _ (Lib.hid rfl) (Lib.hid rfl) h0 h00 hs
        · exact mul_tf A1 A2 n1 c1 a n2 c2 b w h1 h2 l1 l2 _ _ (Lib.hid rfl) (Lib.hid rfl) h0 h00 hs
        · exact mul_tt A1 A2 n1 c1 a n2 c2 b w h1 h2 l1 l2 _ _ (Lib.hid rfl) (Lib.hid rfl) h0 h00 hs
      · exact mul_big na nb _ A1 A2 n1 c1 a n2 c2 b w h1 h2 l1 l2 _ _ (Lib.hid rfl) (Lib.hid rfl) h0 h00 (by omega)
theorem sg_mul (na nb : Bool) (a b : Nat) : sg (na != nb) (a * b) = sg na a * sg nb b := by
  cases na <;> cases nb <;> simp [sg, Int.mul_neg, Int.neg_mul]
theorem mul_at {na nb : Bool} {A1 A2 : Option Addr} {n1 c1 n2 c2 : Nat} {x y : Int} (w : World) (h1 : NumAt w na A1 n1 c1 x) (h2 : NumAt w nb A2 n2 c2 y) (l1 : n1 ≤ 1000) (l2 : n2 ≤ 1000) :
    Calls Tryd.prog 38 #[.agg #[.bool na, .slice A1 n1 c1], .agg #[.bool nb, .slice A2 n2 c2]] w fun e w' => Gives w w' e (x * y) := by
  obtain ⟨a, m1, rfl⟩ := h1
  obtain ⟨b, m2, rfl⟩ := h2
  exact (mul_any na nb A1 A2 n1 c1 a n2 c2 b w m1 m2 l1 l2).mono fun e w' h => ⟨_, _, h, sg_mul na nb a b⟩
end Go.Proofs.YtocoflojlliapaaDoor
set_option linter.unusedVariables false
namespace Go.Proofs.YtocoflojlliapaaDoor
open Go.RowKit
/-- the number at A is the one of the value z that may be -/
def Can (w : World) (r : Bool) (A : Option Addr) (m c : Nat) (z : Int) : Prop := r = decide (z < 0) ∧ m = dl z.natAbs ∧ m ≤ 48 ∧ Mag w A m c z.natAbs
section
variable {w w' V V' : World} {r r1 r2 R : Bool} {A A1 A2 : Option Addr} {m m1 m2 c c1 c2 N : Nat} {x y z : Int} {e : Ending}
theorem Can.below (h : Can w r A m c z) (hb : Below w.heap.size w w') : Can w' r A m c z := ⟨h.1, h.2.1, h.2.2.1, h.2.2.2.below hb⟩
theorem Can.le (h : Can w r A m c z) : m ≤ 48 := h.2.2.1
theorem Can.at (h : Can w r A m c z) : NumAt w r A m c z := by
  obtain ⟨h1, h2, h3, h4⟩ := h
  refine ⟨z.natAbs, h4, ?_⟩
  subst h1
  by_cases hz : z < 0
  · rw [decide_eq_true hz, sg_true]; omega
  · rw [decide_eq_false hz, sg_false]; omega
theorem signB_sg (h : sg R N = z) : signB R N = decide (z < 0) := by
  by_cases h0 : N = 0
  · subst h0
    rw [sg_zero] at h
    subst h
    rw [signB_zero]; rfl
  · rw [signB_pos R h0]
    cases R
    · rw [sg_false] at h; subst h
      symm; apply decide_eq_false; omega
    · rw [sg_true] at h; subst h
      symm; apply decide_eq_true; omega
def resV (z : Int) : Int := if dl z.natAbs ≤ 48 then 0 else 6
def resZ (z : Int) : Int := if dl z.natAbs ≤ 48 then z else 0
theorem resV_yes (h : dl z.natAbs ≤ 48) : resV z = 0 := if_pos h
theorem resV_no (h : ¬ dl z.natAbs ≤ 48) : resV z = 6 := if_neg h
theorem resZ_yes (h : dl z.natAbs ≤ 48) : resZ z = z := if_pos h
theorem resZ_no (h : ¬ dl z.natAbs ≤ 48) : resZ z = 0 := if_neg h
theorem can_nil (w : World) : Can w false none 0 0 0 := ⟨rfl, rfl, by omega, Mag.none_ w⟩
/-- what a call answers, in one word -/
def Tells (w w' : World) (e : Ending) (z : Int) : Prop := ∃ r A m c, e = .returned (.tuple #[.agg #[.bool r, .slice A m c], .int .i64 (resV z)]) ∧ Can w' r A m c (resZ z) ∧ Below w.heap.size w w'
theorem Gives.tells (h : Gives w w' e z) : Tells w w' e z := by
  obtain ⟨R, N, hs, hz⟩ := h
  have hN := sg_abs hz
  by_cases hf : dl z.natAbs ≤ 48
  · obtain ⟨A, c, rfl, hfr⟩ := hs.yes (hN ▸ hf)
    refine ⟨_, A, _, c, by rw [resV_yes hf], ?_, hfr.2⟩
    rw [resZ_yes hf]
    exact ⟨signB_sg hz, by rw [hN], by rw [hN]; exact hf, hN ▸ (Mag.of_fresh hfr).1⟩
  · obtain ⟨rfl, hb⟩ := hs.no (by rw [hN]; omega)
    refine ⟨false, none, 0, 0, by rw [resV_no hf], ?_, hb⟩
    rw [resZ_no hf]
    exact can_nil _
theorem add_can (h1 : Can w r1 A1 m1 c1 x) (h2 : Can w r2 A2 m2 c2 y) :
    Calls Tryd.prog 35 #[.agg #[.bool r1, .slice A1 m1 c1], .agg #[.bool r2, .slice A2 m2 c2]] w fun e w' => Tells w w' e (x + y) :=
  (add_at w h1.at h2.at (by have := h1.le; omega) (by have := h2.le; omega)).mono fun e w' h => h.tells
theorem sub_can (h1 : Can w r1 A1 m1 c1 x) (h2 : Can w r2 A2 m2 c2 y) :
    Calls Tryd.prog 36 #[.agg #[.bool r1, .slice A1 m1 c1], .agg #[.bool r2, .slice A2 m2 c2]] w fun e w' => Tells w w' e (x - y) :=
  (sub_at w h1.at h2.at (by have := h1.le; omega) (by have := h2.le; omega)).mono fun e w' h => h.tells
theorem mul_can (h1 : Can w r1 A1 m1 c1 x) (h2 : Can w r2 A2 m2 c2 y) :
    Calls Tryd.prog 38 #[.agg #[.bool r1, .slice A1 m1 c1], .agg #[.bool r2, .slice A2 m2 c2]] w fun e w' => Tells w w' e (x * y) :=
  (mul_at w h1.at h2.at (by have := h1.le; omega) (by have := h2.le; omega)).mono fun e w' h => h.tells
theorem same_can (h1 : Can w r1 A1 m1 c1 x) (h2 : Can w r2 A2 m2 c2 x) :
    Calls Tryd.prog 33 #[.agg #[.bool r1, .slice A1 m1 c1], .agg #[.bool r2, .slice A2 m2 c2]] w fun e w' => e = .returned (.bool true) ∧ Below w.heap.size w w' := by
  obtain ⟨rfl, rfl, hl, hm⟩ := h1
  obtain ⟨rfl, rfl, _, hm2⟩ := h2
  exact same_yes _ A1 A2 (digs 4294967296 x.natAbs) (dl x.natAbs) c1 c2 w hm.list hm2.list (Lib.hid rfl) (by omega)
/-! ### what stays while the boxes of the three arguments are written -/
def Agr (g : Nat) (V V' : World) : Prop := V.heap.size ≤ V'.heap.size ∧ ∀ p : Addr, p.block < V.heap.size → (p.block < g ∨ g + 3 ≤ p.block) → V'.cell? p = V.cell? p
theorem Agr.of_below {g : Nat} (h : Below V.heap.size V V') : Agr g V V' := ⟨h.size, fun p hp _ => h.cell hp⟩
theorem Agr.trans {g : Nat} {V'' : World} (h : Agr g V V') (k : Agr g V' V'') : Agr g V V'' := ⟨Nat.le_trans h.1 k.1, fun p hp hg => (k.2 p (Nat.lt_of_lt_of_le hp h.1) hg).trans (h.2 p hp hg)⟩
theorem Agr.set2 {g b : Nat} (V : World) (u v : Value) (h1 : g ≤ b) (h2 : b < g + 3) : Agr g V ((V.setCell ⟨b, 0, none⟩ u).setCell ⟨b, 1, none⟩ v) := by
  refine ⟨by simp, fun p hp hg => ?_⟩
  rw [World.cell?_setCell_other _ _ _ _ (fun e => by subst e; simp at hg; omega), World.cell?_setCell_other _ _ _ _ (fun e => by subst e; simp at hg; omega)]
def Firm (Q : World → Prop) (g : Nat) (V : World) : Prop := ∀ V', Agr g V V' → Q V'
theorem Firm.step {Q : World → Prop} {g : Nat} (h : Firm Q g V) (k : Agr g V V') : Firm Q g V' := fun V'' k' => h V'' (k.trans k')
theorem Firm.out {Q : World → Prop} {g : Nat} (h : Firm Q g V) : Q V := h V ⟨Nat.le_refl _, fun _ _ _ => rfl⟩
theorem firm_old (h : NumAt w r A m c z) : Firm (fun V => NumAt V r A m c z) w.heap.size w := by
  intro V' hk
  obtain ⟨M, ⟨xs, h1, h2, h3, h4, h5⟩, hs⟩ := h
  exact ⟨M, ⟨xs, (h1.keep fun p hp => hk.2 p hp (Or.inl hp)).more hk.1, h2, h3, h4, h5⟩, hs⟩
theorem firm_new {g : Nat} (h : Fresh w w' A c z.natAbs) (hg : g + 3 ≤ w.heap.size) (hf : dl z.natAbs ≤ 48) : Firm (fun V => Can V (decide (z < 0)) A (dl z.natAbs) c z) g w' := by
  intro V' hk
  refine ⟨rfl, rfl, hf, digs 4294967296 z.natAbs, ?_, digs_low (by decide) _, rfl, digs_val (by decide) _, own_cap h.1⟩
  have hl := Lim.of_own h.1
  intro h0
  obtain ⟨ad, e1, hb, hc⟩ := hl h0
  subst e1
  have hge : w.heap.size ≤ ad.block := own_ge h.1 ad.block rfl
  exact ⟨ad, rfl, Nat.lt_of_lt_of_le hb hk.1, fun i hi => (hk.2 _ (by rw [add_block]; exact hb) (Or.inr (by rw [add_block]; omega))).trans (hc i hi)⟩
end
theorem Two.far2 {w : World} {g b : Nat} {t : TypeId} {u v u' v' : Value} (h : Two w g t u v) (hg : g ≠ b) : Two ((w.setCell ⟨b, 0, none⟩ u').setCell ⟨b, 1, none⟩ v') g t u v := by
  have e1 : (w.setCell ⟨b, 0, none⟩ u').heap[g]? = w.heap[g]? := Below.heap_setCell w ⟨b, 0, none⟩ u' g hg
  have e2 := Below.heap_setCell (w.setCell ⟨b, 0, none⟩ u') ⟨b, 1, none⟩ v' g hg
  exact e2.trans (e1.trans h)
end Go.Proofs.YtocoflojlliapaaDoor
set_option linter.unusedVariables false
namespace Go.Proofs.YtocoflojlliapaaDoor
open Go.RowKit
set_option maxHeartbeats 1600000 in
theorem fix_big (neg : Bool) (A : Option Addr) (n c N : Nat) (w : World) (h : Mag w A n c N) (hl : n ≤ 35184372088832) (h2 : 2 < dl N) :
    Calls Tryd.prog 30 #[.agg #[.bool neg, .slice A n c]] w fun e w' => e = .returned (.tuple #[.int .i64 0, .bool false]) ∧ Below w.heap.size w w' := by
  have hT := Two.made w 24 (.bool neg) (.slice A n c)
  have k1 := hT.snd
  have hm := h.alloc (.cells #[.bool neg, .slice A n c] 24)
  have TR := fun V h => Lib.hid (trim_mag A n c N V h hl)
  go_enter Tryd.func30, Tryd.ntmps30
  go_wp2_with fail
  refine ((TR _ hm).out).mono ?_
  rintro e w' ⟨rfl, rfl⟩
  go_wp2
  exact bodyPost_ret (v := .tuple #[.int .i64 0, .bool false]) (by simp [results, Tryd.results30, go_sem]) rfl ⟨rfl, below_al (Below.refl _ _) _⟩
set_option maxHeartbeats 1600000 in
set_option maxHeartbeats 1600000 in
theorem fix_t (A : Option Addr) (n c N lo hi : Nat) (w : World) (h : Mag w A n c N) (hl : n ≤ 35184372088832) (h2 : dl N ≤ 2) (hlo : Hid (lmb (digs 4294967296 N) 0 = lo)) (hhi : Hid (lmb (digs 4294967296 N) 1 = hi)) (bl : lo < 4294967296) (bh : hi < 4294967296) (hN : Hid (lo + 4294967296 * hi = N)) (hs : N ≤ 1152921504606846976) :
    Calls Tryd.prog 30 #[.agg #[.bool true, .slice A n c]] w fun e w' => e = .returned (.tuple #[.int .i64 (-(N : Int)), .bool true]) ∧ Below w.heap.size w w' := by
  have hT := Two.made w 24 (.bool true) (.slice A n c)
  have k1 := hT.snd
  have k0 := hT.fst
  have hm := h.alloc (.cells #[.bool true, .slice A n c] 24)
  have TR := fun V h => Lib.hid (trim_mag A n c N V h hl)
  go_enter Tryd.func30, Tryd.ntmps30
  go_wp2_with fail
  refine ((TR _ hm).out).mono ?_
  rintro e w' ⟨rfl, rfl⟩
  have L1 : ∀ V, Mag V A (dl N) c N → Hid (Calls Tryd.prog 56 #[.slice A (dl N) c, .int .i64 1] V fun e w' => e = .returned (.int .u32 hi) ∧ V = w') :=
    fun V hv => Lib.hid (by rw [← hhi.out]; exact limb_any A (digs 4294967296 N) c 1 V.heap.size V hv.list (by unfold dl at h2; omega) (by omega))
  have L0 : ∀ V, Mag V A (dl N) c N → Hid (Calls Tryd.prog 56 #[.slice A (dl N) c, .int .i64 0] V fun e w' => e = .returned (.int .u32 lo) ∧ V = w') :=
    fun V hv => Lib.hid (by rw [← hlo.out]; exact limb_any A (digs 4294967296 N) c 0 V.heap.size V hv.list (by unfold dl at h2; omega) (by omega))
  go_wp2_with fail
  refine ((L1 _ hm.trim).out).mono ?_
  rintro e w' ⟨rfl, rfl⟩
  go_wp2_with fail
  refine ((L0 _ hm.trim).out).mono ?_
  rintro e w' ⟨rfl, rfl⟩
  clear L1 L0 TR hm hlo hhi h
  have bN : (N : Int) ≤ 1152921504606846976 := by omega
  have e2 : bits BinOp.or IntKind.u64 ((hi : Int) * 4294967296) (lo : Int) = (N : Int) := by
    have hn := hN.out
    rw [bits_join .u64 64 (by decide) wraps_u64 32 _ _ (by omega) (by omega) (by omega) (by omega) (by omega) (by omega)]
    omega
  have bU : (N : Int) < 18446744073709551616 := by have hn := hN.out; omega
  clear hN h2 hs
  generalize dl N = dd
  go_wp2
  exact bodyPost_ret (v := .tuple #[.int .i64 (-(N : Int)), .bool true]) (by simp [results, Tryd.results30, go_sem]) rfl ⟨rfl, below_al (Below.refl _ _) _⟩
set_option maxHeartbeats 1600000 in
theorem fix_f (A : Option Addr) (n c N lo hi : Nat) (w : World) (h : Mag w A n c N) (hl : n ≤ 35184372088832) (h2 : dl N ≤ 2) (hlo : Hid (lmb (digs 4294967296 N) 0 = lo)) (hhi : Hid (lmb (digs 4294967296 N) 1 = hi)) (bl : lo < 4294967296) (bh : hi < 4294967296) (hN : Hid (lo + 4294967296 * hi = N)) (hs : N < 1152921504606846976) :
    Calls Tryd.prog 30 #[.agg #[.bool false, .slice A n c]] w fun e w' => e = .returned (.tuple #[.int .i64 (N : Int), .bool true]) ∧ Below w.heap.size w w' := by
  have hT := Two.made w 24 (.bool false) (.slice A n c)
  have k1 := hT.snd
  have k0 := hT.fst
  have hm := h.alloc (.cells #[.bool false, .slice A n c] 24)
  have TR := fun V h => Lib.hid (trim_mag A n c N V h hl)
  go_enter Tryd.func30, Tryd.ntmps30
  go_wp2_with fail
  refine ((TR _ hm).out).mono ?_
  rintro e w' ⟨rfl, rfl⟩
  have L1 : ∀ V, Mag V A (dl N) c N → Hid (Calls Tryd.prog 56 #[.slice A (dl N) c, .int .i64 1] V fun e w' => e = .returned (.int .u32 hi) ∧ V = w') :=
    fun V hv => Lib.hid (by rw [← hhi.out]; exact limb_any A (digs 4294967296 N) c 1 V.heap.size V hv.list (by unfold dl at h2; omega) (by omega))
  have L0 : ∀ V, Mag V A (dl N) c N → Hid (Calls Tryd.prog 56 #[.slice A (dl N) c, .int .i64 0] V fun e w' => e = .returned (.int .u32 lo) ∧ V = w') :=
    fun V hv => Lib.hid (by rw [← hlo.out]; exact limb_any A (digs 4294967296 N) c 0 V.heap.size V hv.list (by unfold dl at h2; omega) (by omega))
  go_wp2_with fail
  refine ((L1 _ hm.trim).out).mono ?_
  rintro e w' ⟨rfl, rfl⟩
  go_wp2_with fail
  refine ((L0 _ hm.trim).out).mono ?_
  rintro e w' ⟨rfl, rfl⟩
  clear L1 L0 TR hm hlo hhi h
  have bN : (N : Int) < 1152921504606846976 := by omega
  have e2 : bits BinOp.or IntKind.u64 ((hi : Int) * 4294967296) (lo : Int) = (N : Int) := by
    have hn := hN.out
    rw [bits_join .u64 64 (by decide) wraps_u64 32 _ _ (by omega) (by omega) (by omega) (by omega) (by omega) (by omega)]
    omega
  have bU : (N : Int) < 18446744073709551616 := by have hn := hN.out; omega
  clear hN h2 hs
  generalize dl N = dd
  go_wp2
  exact bodyPost_ret (v := .tuple #[.int .i64 (N : Int), .bool true]) (by simp [results, Tryd.results30, go_sem]) rfl ⟨rfl, below_al (Below.refl _ _) _⟩
set_option maxHeartbeats 1600000 in
theorem fix_tn (A : Option Addr) (n c N lo hi : Nat) (w : World) (h : Mag w A n c N) (hl : n ≤ 35184372088832) (h2 : dl N ≤ 2) (hlo : Hid (lmb (digs 4294967296 N) 0 = lo)) (hhi : Hid (lmb (digs 4294967296 N) 1 = hi)) (bl : lo < 4294967296) (bh : hi < 4294967296) (hN : Hid (lo + 4294967296 * hi = N)) (hs : 1152921504606846976 < N) :
    Calls Tryd.prog 30 #[.agg #[.bool true, .slice A n c]] w fun e w' => e = .returned (.tuple #[.int .i64 0, .bool false]) ∧ Below w.heap.size w w' := by
  have hT := Two.made w 24 (.bool true) (.slice A n c)
  have k1 := hT.snd
  have k0 := hT.fst
  have hm := h.alloc (.cells #[.bool true, .slice A n c] 24)
  have TR := fun V h => Lib.hid (trim_mag A n c N V h hl)
  go_enter Tryd.func30, Tryd.ntmps30
  go_wp2_with fail
  refine ((TR _ hm).out).mono ?_
  rintro e w' ⟨rfl, rfl⟩
  have L1 : ∀ V, Mag V A (dl N) c N → Hid (Calls Tryd.prog 56 #[.slice A (dl N) c, .int .i64 1] V fun e w' => e = .returned (.int .u32 hi) ∧ V = w') :=
    fun V hv => Lib.hid (by rw [← hhi.out]; exact limb_any A (digs 4294967296 N) c 1 V.heap.size V hv.list (by unfold dl at h2; omega) (by omega))
  have L0 : ∀ V, Mag V A (dl N) c N → Hid (Calls Tryd.prog 56 #[.slice A (dl N) c, .int .i64 0] V fun e w' => e = .returned (.int .u32 lo) ∧ V = w') :=
    fun V hv => Lib.hid (by rw [← hlo.out]; exact limb_any A (digs 4294967296 N) c 0 V.heap.size V hv.list (by unfold dl at h2; omega) (by omega))
  go_wp2_with fail
  refine ((L1 _ hm.trim).out).mono ?_
  rintro e w' ⟨rfl, rfl⟩
  go_wp2_with fail
  refine ((L0 _ hm.trim).out).mono ?_
  rintro e w' ⟨rfl, rfl⟩
  clear L1 L0 TR hm hlo hhi h
  have bN : 1152921504606846976 < (N : Int) := by omega
  have e2 : bits BinOp.or IntKind.u64 ((hi : Int) * 4294967296) (lo : Int) = (N : Int) := by
    have hn := hN.out
    rw [bits_join .u64 64 (by decide) wraps_u64 32 _ _ (by omega) (by omega) (by omega) (by omega) (by omega) (by omega)]
    omega
  have bU : (N : Int) < 18446744073709551616 := by have hn := hN.out; omega
  have bF1 : ((N : Int) ≤ 1152921504606846976) = False := by simp; omega
  have bF2 : ((N : Int) < 1152921504606846976) = False := by simp; omega
  clear hN h2 hs bN
  generalize dl N = dd
  go_wp2
  exact bodyPost_ret (v := .tuple #[.int .i64 0, .bool false]) (by simp [results, Tryd.results30, go_sem]) rfl ⟨rfl, below_al (Below.refl _ _) _⟩
set_option maxHeartbeats 1600000 in
theorem fix_fn (A : Option Addr) (n c N lo hi : Nat) (w : World) (h : Mag w A n c N) (hl : n ≤ 35184372088832) (h2 : dl N ≤ 2) (hlo : Hid (lmb (digs 4294967296 N) 0 = lo)) (hhi : Hid (lmb (digs 4294967296 N) 1 = hi)) (bl : lo < 4294967296) (bh : hi < 4294967296) (hN : Hid (lo + 4294967296 * hi = N)) (hs : 1152921504606846976 ≤ N) :
    Calls Tryd.prog 30 #[.agg #[.bool false, .slice A n c]] w fun e w' => e = .returned (.tuple #[.int .i64 0, .bool false]) ∧ Below w.heap.size w w' := by
  have hT := Two.made w 24 (.bool false) (.slice A n c)
  have k1 := hT.snd
  have k0 := hT.fst
  have hm := h.alloc (.cells #[.bool false, .slice A n c] 24)
  have TR := fun V h => Lib.hid (trim_mag A n c N V h hl)
  go_enter Tryd.func30, Tryd.ntmps30
  go_wp2_with fail
  refine ((TR _ hm).out).mono ?_
  rintro e w' ⟨rfl, rfl⟩
  have L1 : ∀ V, Mag V A (dl N) c N → Hid (Calls Tryd.prog 56 #[.slice A (dl N) c, .int .i64 1] V fun e w' => e = .returned (.int .u32 hi) ∧ V = w') :=
    fun V hv => Lib.hid (by rw [← hhi.out]; exact limb_any A (digs 4294967296 N) c 1 V.heap.size V hv.list (by unfold dl at h2; omega) (by omega))
  have L0 : ∀ V, Mag V A (dl N) c N → Hid (Calls Tryd.prog 56 #[.slice A (dl N) c, .int .i64 0] V fun e w' => e = .returned (.int .u32 lo) ∧ V = w') :=
    fun V hv => Lib.hid (by rw [← hlo.out]; exact limb_any A (digs 4294967296 N) c 0 V.heap.size V hv.list (by unfold dl at h2; omega) (by omega))
  go_wp2_with fail
  refine ((L1 _ hm.trim).out).mono ?_
  rintro e w' ⟨rfl, rfl⟩
  go_wp2_with fail
  refine ((L0 _ hm.trim).out).mono ?_
  rintro e w' ⟨rfl, rfl⟩
  clear L1 L0 TR hm hlo hhi h
  have bN : 1152921504606846976 ≤ (N : Int) := by omega
  have e2 : bits BinOp.or IntKind.u64 ((hi : Int) * 4294967296) (lo : Int) = (N : Int) := by
    have hn := hN.out
    rw [bits_join .u64 64 (by decide) wraps_u64 32 _ _ (by omega) (by omega) (by omega) (by omega) (by omega) (by omega)]
    omega
  have bU : (N : Int) < 18446744073709551616 := by have hn := hN.out; omega
  have bF2 : ((N : Int) < 1152921504606846976) = False := by simp; omega
  clear hN h2 hs bN
  generalize dl N = dd
  go_wp2
  exact bodyPost_ret (v := .tuple #[.int .i64 0, .bool false]) (by simp [results, Tryd.results30, go_sem]) rfl ⟨rfl, below_al (Below.refl _ _) _⟩
def fixB (z : Int) : Bool := decide (-1152921504606846976 ≤ z ∧ z < 1152921504606846976)
def fixV (z : Int) : Int := if fixB z = true then z else 0
theorem fix_at {r : Bool} {A : Option Addr} {n c : Nat} {z : Int} (w : World) (h : NumAt w r A n c z) (hl : n ≤ 35184372088832) :
    Calls Tryd.prog 30 #[.agg #[.bool r, .slice A n c]] w fun e w' => e = .returned (.tuple #[.int .i64 (fixV z), .bool (fixB z)]) ∧ Below w.heap.size w w' := by
  obtain ⟨N, hm, rfl⟩ := h
  by_cases h2 : dl N ≤ 2
  · have hlow := digs_low (b := 4294967296) (by decide) N
    have hv := digs_val (b := 4294967296) (by decide) N
    have hval : lmb (digs 4294967296 N) 0 + 4294967296 * lmb (digs 4294967296 N) 1 = N := by
      unfold dl at h2
      rcases hd : digs 4294967296 N with _ | ⟨x, _ | ⟨y, _ | ⟨u, l⟩⟩⟩
      · rw [hd] at hv; simpa [lmb, val] using hv
      · rw [hd] at hv; simpa [lmb, val] using hv
      · rw [hd] at hv; simpa [lmb, val] using hv
      · rw [hd] at h2; simp at h2
    have b0 : lmb (digs 4294967296 N) 0 < 4294967296 := Low.getD hlow (by decide) 0
    have b1 : lmb (digs 4294967296 N) 1 < 4294967296 := Low.getD hlow (by decide) 1
    cases r
    · by_cases hs : N < 1152921504606846976
      · have e : fixB (sg false N) = true := by rw [sg_false]; unfold fixB; simp; omega
        rw [fixV, if_pos e, e, sg_false]
        exact fix_f A n c N _ _ w hm hl h2 (Lib.hid rfl) (Lib.hid rfl) b0 b1 (Lib.hid hval) hs
      · have e : fixB (sg false N) = false := by rw [sg_false]; unfold fixB; simp; omega
        rw [fixV, if_neg (by rw [e]; decide), e]
        exact fix_fn A n c N _ _ w hm hl h2 (Lib.hid rfl) (Lib.hid rfl) b0 b1 (Lib.hid hval) (by omega)
    · by_cases hs : N ≤ 1152921504606846976
      · have e : fixB (sg true N) = true := by rw [sg_true]; unfold fixB; simp; omega
        rw [fixV, if_pos e, e, sg_true]
        exact fix_t A n c N _ _ w hm hl h2 (Lib.hid rfl) (Lib.hid rfl) b0 b1 (Lib.hid hval) hs
      · have e : fixB (sg true N) = false := by rw [sg_true]; unfold fixB; simp; omega
        rw [fixV, if_neg (by rw [e]; decide), e]
        exact fix_tn A n c N _ _ w hm hl h2 (Lib.hid rfl) (Lib.hid rfl) b0 b1 (Lib.hid hval) (by omega)
  · have hbig : 18446744073709551616 ≤ N := by
      rcases Nat.lt_or_ge N 18446744073709551616 with h | h
      · exact absurd ((dl_le N 2).2 (by omega)) h2
      · exact h
    have e : fixB (sg r N) = false := by
      unfold fixB
      cases r
      · rw [sg_false]; simp; omega
      · rw [sg_true]; simp; omega
    rw [fixV, if_neg (by rw [e]; decide), e]
    exact fix_big r A n c N w hm hl (by omega)
end Go.Proofs.YtocoflojlliapaaDoor
set_option linter.unusedVariables false
namespace Go.Proofs.YtocoflojlliapaaDoor
open Go.ChangeShapes Go.WideShapes Go.ChangeAt Go.RowKit
/-- the text of a value -/
def zText (z : Int) : List UInt8 := (if z < 0 then [45] else []) ++ Lib.decDigits z.natAbs
theorem zText_sg (r : Bool) (N : Nat) : textL r N = zText (sg r N) := by
  unfold textL zText
  by_cases h : N = 0
  · subst h
    rw [if_pos rfl, sg_zero]
    simp [dec_small (u := 0) (by decide)]
  · rw [if_neg h]
    cases r
    · rw [sg_false, if_neg (show ¬ ((N : Int) < 0) by omega)]; simp
    · rw [sg_true, if_pos (show (-(N : Int)) < 0 by omega)]; simp
theorem text_at {r : Bool} {A : Option Addr} {n c : Nat} {z : Int} (w : World) (h : NumAt w r A n c z) (hl : n ≤ 100) (ht : Tab w) :
    Calls Tryd.prog 46 #[.agg #[.bool r, .slice A n c]] w fun e w' => e = .returned (.string ⟨(zText z).toArray⟩) ∧ Below w.heap.size w w' := by
  obtain ⟨N, hm, rfl⟩ := h
  rw [← zText_sg]
  by_cases h0 : N = 0
  · subst h0
    have e : textL r 0 = [48] := if_pos rfl
    rw [e]
    exact text_zero r A n c w hm hl
  · exact text_groups r A n c N w hm hl h0 ht
theorem ten_up (a b : Nat) (h : a ≤ b) : (10 : Nat) ^ a ≤ 10 ^ b := Nat.pow_le_pow_right (by decide) h
theorem dec_len_dl (N m k : Nat) (h : dl N ≤ m) (hk : 10 * m ≤ k) : (Lib.decDigits N).length ≤ k + 1 := by
  have h1 := (dl_le N m).1 h
  have h2 : (4294967296 : Nat) ^ m ≤ (10 ^ 10) ^ m := Nat.pow_le_pow_left (by decide) m
  rw [← Nat.pow_mul] at h2
  exact dec_len_le k N (Nat.lt_of_lt_of_le h1 (Nat.le_trans h2 (ten_up _ _ (by omega))))
theorem dec_short {N : Nat} (h : dl N ≤ 48) : (Lib.decDigits N).length ≤ 481 := dec_len_dl N 48 480 h (by decide)
theorem noughts_dig (k N : Nat) : isDig (List.replicate k 48 ++ Lib.decDigits N) := by
  intro c hc
  rcases List.mem_append.1 hc with h | h
  · have := (List.mem_replicate.1 h).2
    subst this
    decide
  · exact dec_isDig N c h
theorem parse_can (s d : ByteArray) (k : Nat) (z : Int) (w : World) (hk : k ≤ 100) (hd : d.data.toList = List.replicate k 48 ++ Lib.decDigits z.natAbs) (hs : Split s (decide (z < 0)) d) (hz : s.size ≤ d.size + 1) (hfit : dl z.natAbs ≤ 48) :
    Calls Tryd.prog 48 #[.string s] w fun e w' => ∃ r A m c, e = .returned (.tuple #[.agg #[.bool r, .slice A m c], .int .i64 0]) ∧ Can w' r A m c z ∧ Below w.heap.size w w' := by
  have h1 := dec_short hfit
  have h2 := dec_len_pos z.natAbs
  have hds : d.size = k + (Lib.decDigits z.natAbs).length := by rw [Lib.size_eq, hd]; simp
  refine (parse_ok s (decide (z < 0)) d w (by rw [hds] at hz; omega) hs (by rw [hd]; intro h0; have := congrArg List.length h0; rw [List.length_append, List.length_nil] at this; omega) (by rw [hd]; exact noughts_dig k _) z.natAbs (Lib.hid (by rw [hd, decVal_noughts, decVal_dec])) hfit).mono fun e w' hq => ?_
  obtain ⟨A, c, rfl, hf⟩ := hq
  refine ⟨_, A, _, c, rfl, ⟨?_, rfl, hfit, (Mag.of_fresh hf).1⟩, hf.2⟩
  by_cases h0 : z.natAbs = 0
  · have : z = 0 := by omega
    subst this
    rfl
  · exact signB_pos _ h0
theorem of_can (x : Int) (h0 : -9223372036854775808 ≤ x) (h1 : x ≤ 9223372036854775807) (w : World) :
    Calls Tryd.prog 32 #[.int .i64 x] w fun e w' => ∃ r A m c, e = .returned (.agg #[.bool r, .slice A m c]) ∧ Can w' r A m c x ∧ Below w.heap.size w w' := by
  have hd : dl x.natAbs ≤ 48 := Nat.le_trans ((dl_le x.natAbs 2).2 (by omega)) (by decide)
  by_cases h : 0 ≤ x
  · obtain ⟨n, rfl⟩ := Int.eq_ofNat_of_zero_le h
    refine (of_pos n (by omega) w).mono fun e w' hq => ?_
    obtain ⟨A, c, rfl, hf⟩ := hq
    exact ⟨_, A, _, c, rfl, ⟨signB_sg (sg_false n), rfl, hd, (Mag.of_fresh hf).1⟩, hf.2⟩
  · obtain ⟨n, hn⟩ := Int.eq_ofNat_of_zero_le (show 0 ≤ -x by omega)
    have e : x = -(n : Int) := by omega
    subst e
    refine (of_neg n (by omega) (by omega) w).mono fun e w' hq => ?_
    obtain ⟨A, c, rfl, hf⟩ := hq
    have en : (-(n : Int)).natAbs = n := by omega
    refine ⟨_, A, _, c, rfl, ⟨signB_sg (sg_true n), by rw [en], by rw [en] at hd; exact hd, ?_⟩, hf.2⟩
    rw [en]
    exact (Mag.of_fresh hf).1
theorem norm_gives {r1 : Bool} {A1 : Option Addr} {n c1 : Nat} {z : Int} (w : World) (h : NumAt w r1 A1 n c1 z) (hl : n ≤ 35184372088832) :
    Calls Tryd.prog 21 #[.agg #[.bool r1, .slice A1 n c1]] w fun e w' => Tells w w' e z := by
  obtain ⟨N, hm, hz⟩ := h
  exact (norm_any r1 A1 n c1 N w hm hl).mono fun e w' hq => Gives.tells ⟨r1, N, hq, hz⟩
set_option maxRecDepth 100000
section
variable {H : Type} {enc : TypeId × Value → H}
theorem open_num2 {W : World} {b0 : Nat} {v : Value} {d : DataW H} {p : List MemPlace} (hv : Value.okWide Tryd.prog W .any b0 24 v) (h : DataW.Trod enc Tryd.prog W 0 (fun _ => true) true 24 v d p)
    {ts : List TypeId} {ds : List (DataW H)} {j : Nat} (hsz : (DataW.weightsEach Tryd.prog ts ds).all (· ≤ reachBytes) = true) (ht : ts[j]? = some 24) (hd : ds[j]? = some d) :
    ∃ neg A n c N, v = .agg #[.bool neg, .slice A n c] ∧ Mag W A n c N ∧ n ≤ 35184372088832 := by
  obtain ⟨v0, v1, y0, y1, m, rfl, rfl, rfl, t0, t1⟩ := Go.Joins.open_agg2 Tryd.underlying24 (by kernel_rfl) (by kernel_rfl) hv h
  obtain ⟨b, hb, hb2⟩ := DataW.trod_bool Tryd.underlying4 t0
  rcases open_ints Tryd.underlying22 Tryd.underlying43 (by kernel_rfl) t1 with ⟨hcs, hx⟩ | ⟨a, len, cap, zs, hcs, _, hl, hm, hz, hx, hc, hw⟩
  · simp at hb hcs
    subst hb hcs
    exact ⟨b, none, 0, 0, 0, rfl, Mag.none_ W, Nat.zero_le _⟩
  · simp at hb hcs
    subst hb hcs hx hb2
    have hbytes : Tryd.prog.bytesOf 43 = 4 := by kernel_rfl
    have hwt := List.all_eq_true.1 hsz _ (DataW.weights_mem_each ht hd (((lits (H := H) .u32 (zs.take len)).length + (lits (H := H) .u32 (zs.drop len)).length) * Tryd.prog.bytesOf 43) (by simp [DataW.weights, DataW.weightsEach, Tryd.underlying24, Tryd.underlying22]))
    rw [hbytes] at hwt
    simp only [decide_eq_true_eq] at hwt
    have hr := reachBytes_lt
    have hln : (lits (H := H) .u32 (zs.take len)).length = len := by simp [lits]; simp at hz; omega
    exact ⟨b, some a, len, cap, _, rfl, lim_of hl (by simpa using hz) hc hw, by omega⟩
end
end Go.Proofs.YtocoflojlliapaaDoor
/- num.May. -/
set_option linter.unusedVariables false
namespace Go.Proofs.YtocoflojlliapaaDoor
open Go.RowKit
set_option maxHeartbeats 800000 in
theorem may_nil (r : Bool) (A : Option Addr) (c : Nat) (w : World) :
    Calls Tryd.prog 23 #[.agg #[.bool r, .slice A 0 c]] w fun e w' => e = .returned (.bool (!r)) ∧ Below w.heap.size w w' := by
  have hT := Two.made w 24 (.bool r) (.slice A 0 c)
  have k1 := hT.snd
  have k0 := hT.fst
  go_enter Tryd.func23, Tryd.ntmps23
  go_wp2
  all_goals go_ret
  all_goals exact ⟨rfl, below_al (Below.refl _ _) _⟩
set_option maxHeartbeats 1600000 in
theorem may_more (r : Bool) (A : Option Addr) (n c : Nat) (xs : List Nat) (w : World) (h : Lim .u32 w.heap.size w A xs) (hn : Hid (xs.length = n)) (h0 : 0 < n) (hl : n ≤ 35184372088832) (L : Bool) (X : Nat) (hX : Hid (xs[n - 1]? = some X))
    (hL : (X = 0 ∧ L = false) ∨ (0 < X ∧ n ≤ 48 ∧ L = true) ∨ (0 < X ∧ 48 < n ∧ L = false)) :
    Calls Tryd.prog 23 #[.agg #[.bool r, .slice A n c]] w fun e w' => e = .returned (.bool L) ∧ Below w.heap.size w w' := by
  have hT := Two.made w 24 (.bool r) (.slice A n c)
  have k1 := hT.snd
  have k0 := hT.fst
  have hp : n - 1 < xs.length := by have := hn.out; omega
  obtain ⟨ad, rfl, hb, hc⟩ := h.at hp
  have e1 : xs[n - 1] = X := by
    have := hX.out
    rw [List.getElem?_eq_getElem hp] at this
    exact Option.some.inj this
  rw [e1] at hc
  have hc2 : (w.alloc (.cells #[.bool r, .slice (some ad) n c] 24)).cell? (ad.add (n - 1)) = some (.int .u32 X) := (World.cell?_alloc_lt w _ _ (by rw [add_block]; exact hb)).trans hc
  obtain ⟨p, hpn⟩ : ∃ p, p = n - 1 := ⟨_, rfl⟩
  have en : (n : Int) - 1 = (p : Int) := by omega
  have hpl : p < n := by omega
  rw [← hpn] at hc2
  clear hc e1 hp hX hn h hpn hb hT
  rcases hL with ⟨rfl, rfl⟩ | ⟨hx, h48, rfl⟩ | ⟨hx, h48, rfl⟩
  · go_enter Tryd.func23, Tryd.ntmps23
    go_wp2
    all_goals go_ret
    all_goals exact ⟨rfl, below_al (Below.refl _ _) _⟩
  · have ex : ((X : Int) != 0) = true := by simp; omega
    go_enter Tryd.func23, Tryd.ntmps23
    go_wp2
    all_goals go_ret
    all_goals exact ⟨by first | rfl | (simp; omega), below_al (Below.refl _ _) _⟩
  · have ex : ((X : Int) != 0) = true := by simp; omega
    go_enter Tryd.func23, Tryd.ntmps23
    go_wp2
    all_goals go_ret
    all_goals exact ⟨by first | rfl | (simp; omega), below_al (Below.refl _ _) _⟩
end Go.Proofs.YtocoflojlliapaaDoor
