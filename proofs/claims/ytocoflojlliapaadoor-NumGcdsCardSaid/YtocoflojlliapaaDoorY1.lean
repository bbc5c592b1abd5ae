/- Quotient, rest and remainder: the number, or too big. -/
import Derived.Test.YtocoflojlliapaaDoorX2
set_option linter.unusedVariables false
namespace Go.Proofs.YtocoflojlliapaaDoor
open Go.RowKit
theorem div_said (a b : Nat) (hb : b ≠ 0) (l1 : dl a ≤ 1000) (l2 : dl b ≤ 1000) : DivSaid a b := by
  rcases Nat.lt_or_ge a b with h | h
  · exact divide_less a b h l1 l2
  · by_cases h1 : dl b = 1
    · exact divide_limb a b h hb l1 h1
    · have h2 : 2 ≤ dl b := by
        rcases Nat.eq_zero_or_pos (dl b) with h3 | h3
        · have := lt_dl b; rw [h3] at this; simp at this; omega
        · omega
      exact divide_long a b h l1 h2 (long_said a b h l1 h2)
set_option maxHeartbeats 3200000 in
theorem quo_any (na nb : Bool) (A1 A2 : Option Addr) (n1 c1 a n2 c2 b : Nat) (s : Bool) (hs : (na == nb) = s) (w : World) (h1 : Mag w A1 n1 c1 a) (h2 : Mag w A2 n2 c2 b) (l1 : n1 ≤ 1000) (l2 : n2 ≤ 1000) (hb : b ≠ 0) :
    Calls Tryd.prog 40 #[.agg #[.bool na, .slice A1 n1 c1], .agg #[.bool nb, .slice A2 n2 c2]] w fun e w' => Said w w' e (!s) (a / b) := by
  obtain ⟨W, hW⟩ : ∃ W, W = ((w.alloc (.cells #[.bool na, .slice A1 n1 c1] 24)).alloc (.cells #[.bool nb, .slice A2 n2 c2] 24)).alloc (.cells #[.bool false, .slice none 0 0] 24) := ⟨_, rfl⟩
  obtain ⟨t1, t2, t3, hbW, hWs⟩ := boxes3 w _ _ _ _ _ _ W hW
  have m1 := h1.below hbW
  have m2 := h2.below hbW
  have dlb : dl b ≤ 1000 := Nat.le_trans h2.le l2
  have dla : dl a ≤ 1000 := Nat.le_trans h1.le l1
  obtain ⟨c, hc⟩ : ∃ c, cmpI (sg nb b) 0 = c := ⟨_, rfl⟩
  have hz : (c == 0) = false := by rw [← hc]; exact sign_nz hb
  have SG := Lib.hid ((sign_any nb A2 n2 c2 b W m2 (by omega)).mono fun e w' ⟨he, hw⟩ => (⟨by rw [he, hc], by rw [← hw]; exact below_al (Below.refl _ _) _⟩ : e = Ending.returned (.int .i64 c) ∧ Below W.heap.size W w'))
  have DD := Lib.hid (div_said a b hb dla dlb)
  have k1 := t2.fst
  have k2 := t2.snd
  have LQ1 : Hid (dl (a / b) ≤ 1000) := Lib.hid (Nat.le_trans (dl_mono (Nat.div_le_self a b)) dla)
  have LR1 : Hid (dl (a % b) ≤ 1000) := Lib.hid (Nat.le_trans (dl_mono (Nat.mod_le a b)) dla)
  clear hc hb h1 h2
  go_enter Tryd.func40, Tryd.ntmps40
  go_wp2_with fail
  rw [← hW]
  have HW := Lib.hid hW
  have HWS := Lib.hid hWs
  clear hW hWs
  refine (SG.out).mono ?_
  rintro e V ⟨rfl, b1⟩
  replace t1 := t1.below' b1
  replace t2 := t2.below' b1
  replace t3 := t3.below' b1
  replace m1 := m1.below b1
  replace m2 := m2.below b1
  have hbV := below_then hbW b1
  have hVs : w.heap.size + 3 ≤ V.heap.size := by have := HWS.out; have := b1.size; omega
  clear SG k1 k2 b1 hbW
  have T1 : ∀ X, Below V.heap.size V X → Hid (Calls Tryd.prog 54 #[.slice A1 n1 c1] X fun e w' => e = .returned (.slice A1 (dl a) c1) ∧ X = w') := fun X hb => Lib.hid (trim_mag A1 n1 c1 a X (m1.below hb) (by omega))
  have T2 : ∀ X, Below V.heap.size V X → Hid (Calls Tryd.prog 54 #[.slice A2 n2 c2] X fun e w' => e = .returned (.slice A2 (dl b) c2) ∧ X = w') := fun X hb => Lib.hid (trim_mag A2 n2 c2 b X (m2.below hb) (by omega))
  have DV : ∀ X, Below V.heap.size V X → Hid (Calls Tryd.prog 62 #[.slice A1 (dl a) c1, .slice A2 (dl b) c2] X fun e w' => ∃ B1 d1 B2 d2, e = .returned (.tuple #[.slice B1 (dl (a / b)) d1, .slice B2 (dl (a % b)) d2]) ∧ (Mag w' B1 (dl (a / b)) d1 (a / b) ∧ Mag w' B2 (dl (a % b)) d2 (a % b)) ∧ Below V.heap.size V w') := fun X hb => Lib.hid ((DD.out A1 A2 c1 c2 X (m1.below hb).trim (m2.below hb).trim).mono fun e w' hq => by
    obtain ⟨B1, d1, B2, d2, he, p1, p2, p3⟩ := hq
    exact ⟨B1, d1, B2, d2, he, ⟨p1, p2⟩, below_then hb p3⟩)
  have k1 := t1.fst
  have k2 := t1.snd
  have k3 := t2.fst
  have k4 := t2.snd
  have BV0 : Below V.heap.size V V := Below.refl _ _
  have KS : ∀ X, Below V.heap.size V X → (Below V.heap.size V X ∧ X.cell? ⟨w.heap.size, 1, none⟩ = some (.slice A1 n1 c1) ∧ X.cell? ⟨w.heap.size + 1, 1, none⟩ = some (.slice A2 n2 c2)) := fun X hb => ⟨hb, (t1.below' hb).snd, (t2.below' hb).snd⟩
  obtain ⟨q, hq⟩ : ∃ q, dl (a / b) = q := ⟨_, rfl⟩
  obtain ⟨r, hr⟩ : ∃ r, dl (a % b) = r := ⟨_, rfl⟩
  rw [hq, hr] at DV
  have lq : q ≤ 1000 := by have := LQ1.out; omega
  have lr : r ≤ 1000 := by have := LR1.out; omega
  clear hq hr LQ1 LR1
  go_wp2_with fail
  go_region_held3 (fun X => Below V.heap.size V X ∧ X.cell? ⟨w.heap.size, 1, none⟩ = some (.slice A1 n1 c1) ∧ X.cell? ⟨w.heap.size + 1, 1, none⟩ = some (.slice A2 n2 c2)) (exact KS _ (by first | assumption | exact Below.drew (by assumption)))
    (first
      | (go_at_call 54; (with_reducible refine ((T1 _ (by first | assumption | exact Below.drew (by assumption))).out).mono ?_); rintro e w' ⟨rfl, rfl⟩)
      | (go_at_call 54; (with_reducible refine ((T2 _ (by first | assumption | exact Below.drew (by assumption))).out).mono ?_); rintro e w' ⟨rfl, rfl⟩)
      | (go_at_call 62; refine ((DV _ (by first | assumption | exact Below.drew (by assumption))).out).mono ?_; rintro e w1 ⟨B1, d1, B2, d2, rfl, hm, hb1⟩))
  all_goals
    have HM := Lib.hid hm
    have p1 := (t1.below' hb1).fst
    have p2 := (t2.below' hb1).fst
    clear k1 k2 k3 k4 T1 T2 DV KS BV0
    go_wp2_with (first
      | (go_at_call 52; refine (signed_any (!s) _).mono ?_; rintro e w' ⟨rfl, rfl⟩)
      | (go_at_call 79; refine (signed1_any w1.heap.size (!s) B1 q d1 (a / b) _ (one_made _ _ _) (HM.out.1.alloc _) (by omega)).mono ?_; rintro e ws ⟨rr, AA, mm, cc, vv, rfl, ha⟩; have hbs : Below V.heap.size V ws := below_then hb1 (below_then (below_al (Below.refl _ _) _) ha.low); have z3 := (t3.below' hbs).fst; have z4 := (t3.below' hbs).snd; have z5 := (t3.below' hbs).free 0; have z6 := (t3.below' hbs).free 1))
    exact bodyPost_ret (v := .tuple #[.agg #[.bool rr, .slice AA mm cc], .int .i64 vv]) (by simp [results, Tryd.results40, go_sem, z3, z4]) rfl
      ⟨rr, AA, mm, cc, vv, rfl, ha.two (g := w.heap.size + 1 + 1) (below_al (below_then hbV hb1) _) (by omega) (by have := hb1.size; simp; omega)⟩
set_option maxHeartbeats 3200000 in
theorem rem_any (na nb : Bool) (A1 A2 : Option Addr) (n1 c1 a n2 c2 b : Nat)  (w : World) (h1 : Mag w A1 n1 c1 a) (h2 : Mag w A2 n2 c2 b) (l1 : n1 ≤ 1000) (l2 : n2 ≤ 1000) (hb : b ≠ 0) :
    Calls Tryd.prog 41 #[.agg #[.bool na, .slice A1 n1 c1], .agg #[.bool nb, .slice A2 n2 c2]] w fun e w' => Said w w' e (na) (a % b) := by
  obtain ⟨W, hW⟩ : ∃ W, W = ((w.alloc (.cells #[.bool na, .slice A1 n1 c1] 24)).alloc (.cells #[.bool nb, .slice A2 n2 c2] 24)).alloc (.cells #[.bool false, .slice none 0 0] 24) := ⟨_, rfl⟩
  obtain ⟨t1, t2, t3, hbW, hWs⟩ := boxes3 w _ _ _ _ _ _ W hW
  have m1 := h1.below hbW
  have m2 := h2.below hbW
  have dlb : dl b ≤ 1000 := Nat.le_trans h2.le l2
  have dla : dl a ≤ 1000 := Nat.le_trans h1.le l1
  obtain ⟨c, hc⟩ : ∃ c, cmpI (sg nb b) 0 = c := ⟨_, rfl⟩
  have hz : (c == 0) = false := by rw [← hc]; exact sign_nz hb
  have SG := Lib.hid ((sign_any nb A2 n2 c2 b W m2 (by omega)).mono fun e w' ⟨he, hw⟩ => (⟨by rw [he, hc], by rw [← hw]; exact below_al (Below.refl _ _) _⟩ : e = Ending.returned (.int .i64 c) ∧ Below W.heap.size W w'))
  have DD := Lib.hid (div_said a b hb dla dlb)
  have k1 := t2.fst
  have k2 := t2.snd
  have LQ1 : Hid (dl (a / b) ≤ 1000) := Lib.hid (Nat.le_trans (dl_mono (Nat.div_le_self a b)) dla)
  have LR1 : Hid (dl (a % b) ≤ 1000) := Lib.hid (Nat.le_trans (dl_mono (Nat.mod_le a b)) dla)
  clear hc hb h1 h2
  go_enter Tryd.func41, Tryd.ntmps41
  go_wp2_with fail
  rw [← hW]
  have HW := Lib.hid hW
  have HWS := Lib.hid hWs
  clear hW hWs
  refine (SG.out).mono ?_
  rintro e V ⟨rfl, b1⟩
  replace t1 := t1.below' b1
  replace t2 := t2.below' b1
  replace t3 := t3.below' b1
  replace m1 := m1.below b1
  replace m2 := m2.below b1
  have hbV := below_then hbW b1
  have hVs : w.heap.size + 3 ≤ V.heap.size := by have := HWS.out; have := b1.size; omega
  clear SG k1 k2 b1 hbW
  have T1 : ∀ X, Below V.heap.size V X → Hid (Calls Tryd.prog 54 #[.slice A1 n1 c1] X fun e w' => e = .returned (.slice A1 (dl a) c1) ∧ X = w') := fun X hb => Lib.hid (trim_mag A1 n1 c1 a X (m1.below hb) (by omega))
  have T2 : ∀ X, Below V.heap.size V X → Hid (Calls Tryd.prog 54 #[.slice A2 n2 c2] X fun e w' => e = .returned (.slice A2 (dl b) c2) ∧ X = w') := fun X hb => Lib.hid (trim_mag A2 n2 c2 b X (m2.below hb) (by omega))
  have DV : ∀ X, Below V.heap.size V X → Hid (Calls Tryd.prog 62 #[.slice A1 (dl a) c1, .slice A2 (dl b) c2] X fun e w' => ∃ B1 d1 B2 d2, e = .returned (.tuple #[.slice B1 (dl (a / b)) d1, .slice B2 (dl (a % b)) d2]) ∧ (Mag w' B1 (dl (a / b)) d1 (a / b) ∧ Mag w' B2 (dl (a % b)) d2 (a % b)) ∧ Below V.heap.size V w') := fun X hb => Lib.hid ((DD.out A1 A2 c1 c2 X (m1.below hb).trim (m2.below hb).trim).mono fun e w' hq => by
    obtain ⟨B1, d1, B2, d2, he, p1, p2, p3⟩ := hq
    exact ⟨B1, d1, B2, d2, he, ⟨p1, p2⟩, below_then hb p3⟩)
  have k1 := t1.fst
  have k2 := t1.snd
  have k3 := t2.fst
  have k4 := t2.snd
  have BV0 : Below V.heap.size V V := Below.refl _ _
  have KS : ∀ X, Below V.heap.size V X → (Below V.heap.size V X ∧ X.cell? ⟨w.heap.size, 1, none⟩ = some (.slice A1 n1 c1) ∧ X.cell? ⟨w.heap.size + 1, 1, none⟩ = some (.slice A2 n2 c2)) := fun X hb => ⟨hb, (t1.below' hb).snd, (t2.below' hb).snd⟩
  obtain ⟨q, hq⟩ : ∃ q, dl (a / b) = q := ⟨_, rfl⟩
  obtain ⟨r, hr⟩ : ∃ r, dl (a % b) = r := ⟨_, rfl⟩
  rw [hq, hr] at DV
  have lq : q ≤ 1000 := by have := LQ1.out; omega
  have lr : r ≤ 1000 := by have := LR1.out; omega
  clear hq hr LQ1 LR1
  go_wp2_with fail
  go_region_held3 (fun X => Below V.heap.size V X ∧ X.cell? ⟨w.heap.size, 1, none⟩ = some (.slice A1 n1 c1) ∧ X.cell? ⟨w.heap.size + 1, 1, none⟩ = some (.slice A2 n2 c2)) (exact KS _ (by first | assumption | exact Below.drew (by assumption)))
    (first
      | (go_at_call 54; (with_reducible refine ((T1 _ (by first | assumption | exact Below.drew (by assumption))).out).mono ?_); rintro e w' ⟨rfl, rfl⟩)
      | (go_at_call 54; (with_reducible refine ((T2 _ (by first | assumption | exact Below.drew (by assumption))).out).mono ?_); rintro e w' ⟨rfl, rfl⟩)
      | (go_at_call 62; refine ((DV _ (by first | assumption | exact Below.drew (by assumption))).out).mono ?_; rintro e w1 ⟨B1, d1, B2, d2, rfl, hm, hb1⟩))
  all_goals
    have HM := Lib.hid hm
    have p1 := (t1.below' hb1).fst
    have p2 := (t2.below' hb1).fst
    clear k1 k2 k3 k4 T1 T2 DV KS BV0
    go_wp2_with (first
      | (go_at_call 52; refine (signed_any (na) _).mono ?_; rintro e w' ⟨rfl, rfl⟩)
      | (go_at_call 79; refine (signed1_any w1.heap.size (na) B2 r d2 (a % b) _ (one_made _ _ _) (HM.out.2.alloc _) (by omega)).mono ?_; rintro e ws ⟨rr, AA, mm, cc, vv, rfl, ha⟩; have hbs : Below V.heap.size V ws := below_then hb1 (below_then (below_al (Below.refl _ _) _) ha.low); have z3 := (t3.below' hbs).fst; have z4 := (t3.below' hbs).snd; have z5 := (t3.below' hbs).free 0; have z6 := (t3.below' hbs).free 1))
    exact bodyPost_ret (v := .tuple #[.agg #[.bool rr, .slice AA mm cc], .int .i64 vv]) (by simp [results, Tryd.results41, go_sem, z3, z4]) rfl
      ⟨rr, AA, mm, cc, vv, rfl, ha.two (g := w.heap.size + 1 + 1) (below_al (below_then hbV hb1) _) (by omega) (by have := hb1.size; simp; omega)⟩
end Go.Proofs.YtocoflojlliapaaDoor
