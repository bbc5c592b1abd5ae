import Derived.Test.YtocoflojlliapaaDoorH2
set_option linter.unusedVariables false
namespace Go.Proofs.YtocoflojlliapaaDoor
open Go.RowKit
/-- the number of the value z, or that it is too big -/
def Gives (w w' : World) (e : Ending) (z : Int) : Prop := ∃ R N, Said w w' e R N ∧ sg R N = z
theorem join_any (na nb ng : Bool) (A1 A2 : Option Addr) (n1 c1 a n2 c2 b : Nat) (w : World) (h1 : Mag w A1 n1 c1 a) (h2 : Mag w A2 n2 c2 b) (l1 : n1 ≤ 1000) (l2 : n2 ≤ 1000) :
    Calls Tryd.prog 58 #[.agg #[.bool na, .slice A1 n1 c1], .agg #[.bool nb, .slice A2 n2 c2], .bool ng] w fun e w' => Gives w w' e (sg na a + sg ng b) := by
  have K : ∀ {R N}, sg R N = sg na a + sg ng b → ∀ e w', Said w w' e R N → Gives w w' e (sg na a + sg ng b) := fun h e w' hs => ⟨_, _, hs, h⟩
  cases na <;> cases ng
  · exact (join_like_f A1 A2 n1 c1 a n2 c2 b nb w h1 h2 l1 l2).mono (K (by rw [sg_false, sg_false, sg_false]; omega))
  · by_cases h : a < b
    · exact (join_lt_f A1 A2 n1 c1 a n2 c2 b nb w h1 h2 l1 l2 (Lib.hid h)).mono (K (by rw [sg_true, sg_false, sg_true]; omega))
    · exact (join_ge_f A1 A2 n1 c1 a n2 c2 b nb w h1 h2 l1 l2 (Lib.hid (by omega))).mono (K (by rw [sg_false, sg_false, sg_true]; omega))
  · by_cases h : a < b
    · exact (join_lt_t A1 A2 n1 c1 a n2 c2 b nb w h1 h2 l1 l2 (Lib.hid h)).mono (K (by rw [sg_false, sg_false, sg_true]; omega))
    · exact (join_ge_t A1 A2 n1 c1 a n2 c2 b nb w h1 h2 l1 l2 (Lib.hid (by omega))).mono (K (by rw [sg_true, sg_false, sg_true]; omega))
  · exact (join_like_t A1 A2 n1 c1 a n2 c2 b nb w h1 h2 l1 l2).mono (K (by rw [sg_true, sg_true, sg_true]; omega))
set_option maxHeartbeats 1600000 in
theorem add_any (na nb : Bool) (A1 A2 : Option Addr) (n1 c1 a n2 c2 b : Nat) (w : World) (h1 : Mag w A1 n1 c1 a) (h2 : Mag w A2 n2 c2 b) (l1 : n1 ≤ 1000) (l2 : n2 ≤ 1000) :
    Calls Tryd.prog 35 #[.agg #[.bool na, .slice A1 n1 c1], .agg #[.bool nb, .slice A2 n2 c2]] w fun e w' => Gives w w' e (sg na a + sg nb b) := by
  obtain ⟨W, hW⟩ : ∃ W, W = ((w.alloc (.cells #[.bool na, .slice A1 n1 c1] 24)).alloc (.cells #[.bool nb, .slice A2 n2 c2] 24)).alloc (.cells #[.bool false, .slice none 0 0] 24) := ⟨_, rfl⟩
  obtain ⟨t1, t2, t3, hbW, hWs⟩ := boxes3 w _ _ _ _ _ _ W hW
  have m1 := h1.below hbW
  have m2 := h2.below hbW
  have k1 := t1.fst
  have k2 := t1.snd
  have k3 := t2.fst
  have k4 := t2.snd
  have J := fun W h h' => Lib.hid (join_any na nb nb A1 A2 n1 c1 a n2 c2 b W h h' l1 l2)
  generalize hz : sg na a + sg nb b = z at J ⊢
  have HZ := Lib.hid hz
  clear hz
  go_enter Tryd.func35, Tryd.ntmps35
  go_wp2_with fail
  rw [← hW]
  have HW := Lib.hid hW
  have HWS := Lib.hid hWs
  clear hW hWs
  go_wp2_with (go_at_call 58; refine ((J _ m1 m2).out).mono ?_; rintro e w1 ⟨R, N, ⟨r, A, m, c, v, rfl, ha⟩, hs⟩; have HS := Lib.hid hs; clear hs; have z3 := (t3.below' ha.low).fst; have z4 := (t3.below' ha.low).snd; have z5 := (t3.below' ha.low).free 0; have z6 := (t3.below' ha.low).free 1)
  exact bodyPost_ret (v := .tuple #[.agg #[.bool r, .slice A m c], .int .i64 v]) (by simp [results, Tryd.results35, go_sem, z3, z4]) rfl
    ⟨R, N, ⟨r, A, m, c, v, rfl, ha.two (g := w.heap.size + 1 + 1) hbW (by omega) (by have := HWS.out; omega)⟩, HS.out⟩
set_option maxHeartbeats 1600000 in
theorem sub_any (na nb : Bool) (A1 A2 : Option Addr) (n1 c1 a n2 c2 b : Nat) (w : World) (h1 : Mag w A1 n1 c1 a) (h2 : Mag w A2 n2 c2 b) (l1 : n1 ≤ 1000) (l2 : n2 ≤ 1000) :
    Calls Tryd.prog 36 #[.agg #[.bool na, .slice A1 n1 c1], .agg #[.bool nb, .slice A2 n2 c2]] w fun e w' => Gives w w' e (sg na a - sg nb b) := by
  obtain ⟨W, hW⟩ : ∃ W, W = ((w.alloc (.cells #[.bool na, .slice A1 n1 c1] 24)).alloc (.cells #[.bool nb, .slice A2 n2 c2] 24)).alloc (.cells #[.bool false, .slice none 0 0] 24) := ⟨_, rfl⟩
  obtain ⟨t1, t2, t3, hbW, hWs⟩ := boxes3 w _ _ _ _ _ _ W hW
  have m1 := h1.below hbW
  have m2 := h2.below hbW
  have k1 := t1.fst
  have k2 := t1.snd
  have k3 := t2.fst
  have k4 := t2.snd
  have J := fun W h h' => Lib.hid (join_any na nb (!nb) A1 A2 n1 c1 a n2 c2 b W h h' l1 l2)
  have hn : sg (!nb) b = - sg nb b := by cases nb <;> simp [sg]
  rw [hn, ← Int.sub_eq_add_neg] at J
  clear hn
  generalize hz : sg na a - sg nb b = z at J ⊢
  have HZ := Lib.hid hz
  clear hz
  go_enter Tryd.func36, Tryd.ntmps36
  go_wp2_with fail
  rw [← hW]
  have HW := Lib.hid hW
  have HWS := Lib.hid hWs
  clear hW hWs
  go_wp2_with (go_at_call 58; refine ((J _ m1 m2).out).mono ?_; rintro e w1 ⟨R, N, ⟨r, A, m, c, v, rfl, ha⟩, hs⟩; have HS := Lib.hid hs; clear hs; have z3 := (t3.below' ha.low).fst; have z4 := (t3.below' ha.low).snd; have z5 := (t3.below' ha.low).free 0; have z6 := (t3.below' ha.low).free 1)
  exact bodyPost_ret (v := .tuple #[.agg #[.bool r, .slice A m c], .int .i64 v]) (by simp [results, Tryd.results36, go_sem, z3, z4]) rfl
    ⟨R, N, ⟨r, A, m, c, v, rfl, ha.two (g := w.heap.size + 1 + 1) hbW (by omega) (by have := HWS.out; omega)⟩, HS.out⟩
end Go.Proofs.YtocoflojlliapaaDoor
