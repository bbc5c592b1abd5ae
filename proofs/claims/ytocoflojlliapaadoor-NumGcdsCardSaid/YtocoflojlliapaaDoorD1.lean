/- The document's quotient, rest and remainder of two values. -/
import Derived.Test.YtocoflojlliapaaDoorU1
import Derived.Test.YtocoflojlliapaaDoorY2
import Derived.Test.YtocoflojlliapaaDoorT2
set_option linter.unusedVariables false
namespace Go.Proofs.YtocoflojlliapaaDoor
open Go.RowKit
theorem two_apart {w : World} {g : Nat} {t : TypeId} {b : Bool} {A' : Option Addr} {n' c' : Nat} {ad : Addr} {k : IntKind} {x : Int} (h : Two w g t (.bool b) (.slice A' n' c')) (hc : w.cell? ad = some (.int k x)) : ad.block ≠ g := by
  rintro rfl
  unfold Two at h
  unfold World.cell? at hc
  rw [h] at hc
  simp only at hc
  split at hc
  · cases hc
  · match ho : ad.off with
    | 0 => rw [ho] at hc; simp at hc
    | 1 => rw [ho] at hc; simp at hc
    | (i + 2) => rw [ho] at hc; simp at hc
/-- what is written into a box of a sign and a slice is no bit of a row -/
theorem Bit.put2 {g : Nat} {t : TypeId} {b : Bool} {A' : Option Addr} {n' c' : Nat} {w : World} {A : Option Addr} {n c N : Nat} {u v : Value} (h : Bit w A n c N) (tw : Two w g t (.bool b) (.slice A' n' c')) : Bit ((w.setCell ⟨g, 0, none⟩ u).setCell ⟨g, 1, none⟩ v) A n c N := by
  obtain ⟨xs, h1, h2, h3, h4, h5⟩ := h
  refine ⟨xs, ?_, h2, h3, h4, h5⟩
  intro h0
  obtain ⟨ad, hA, hb, hc⟩ := h1 h0
  refine ⟨ad, hA, by simpa using hb, fun i hi => ?_⟩
  have hne := two_apart tw (hc i hi)
  rw [World.cell?_setCell_other _ _ _ _ (fun he => hne (by rw [← he])), World.cell?_setCell_other _ _ _ _ (fun he => hne (by rw [← he]))]
  exact hc i hi
theorem BVal.put2 {g : Nat} {t : TypeId} {b : Bool} {A' : Option Addr} {n' c' : Nat} {w : World} {r : Bool} {B : Option Addr} {m d : Nat} {z : Int} {u v : Value} (h : BVal w r B m d z) (tw : Two w g t (.bool b) (.slice A' n' c')) : BVal ((w.setCell ⟨g, 0, none⟩ u).setCell ⟨g, 1, none⟩ v) r B m d z := ⟨h.1, h.2.1, h.2.2.put2 tw⟩
theorem BVal.sg {w : World} {r : Bool} {B : Option Addr} {m d : Nat} {z : Int} (h : BVal w r B m d z) : sg r z.natAbs = z := by
  rw [h.1]
  by_cases h0 : z < 0
  · rw [decide_eq_true h0, sg_true]; omega
  · rw [decide_eq_false h0, sg_false]; omega
theorem boxes5 (w : World) (a b a' b' : Value) : ∀ W, W = ((((w.alloc (.cells #[a, b] 30)).alloc (.cells #[a', b'] 30)).alloc (.cells #[.bool false, .slice none 0 0] 30)).alloc (.cells #[.bool false, .slice none 0 0] 30)).alloc (.cells #[.bool false, .slice none 0 0] 30) →
    Two W w.heap.size 30 a b ∧ Two W (w.heap.size + 1) 30 a' b' ∧ Two W (w.heap.size + 2) 30 (.bool false) (.slice none 0 0) ∧ Two W (w.heap.size + 3) 30 (.bool false) (.slice none 0 0) ∧ Two W (w.heap.size + 4) 30 (.bool false) (.slice none 0 0) ∧ Below w.heap.size w W ∧ W.heap.size = w.heap.size + 5 := by
  rintro W rfl
  refine ⟨((((Two.made w 30 a b).alloc _).alloc _).alloc _).alloc _, ?_, ?_, ?_, ?_, below_al (below_al (below_al (below_al (below_al (Below.refl _ _) _) _) _) _) _, by simp⟩
  · have := (((Two.made (w.alloc (.cells #[a, b] 30)) 30 a' b').alloc (.cells #[.bool false, .slice none 0 0] 30)).alloc (.cells #[.bool false, .slice none 0 0] 30)).alloc (.cells #[.bool false, .slice none 0 0] 30)
    simpa using this
  · have := ((Two.made ((w.alloc (.cells #[a, b] 30)).alloc (.cells #[a', b'] 30)) 30 (.bool false) (.slice none 0 0)).alloc (.cells #[.bool false, .slice none 0 0] 30)).alloc (.cells #[.bool false, .slice none 0 0] 30)
    simpa using this
  · have := (Two.made (((w.alloc (.cells #[a, b] 30)).alloc (.cells #[a', b'] 30)).alloc (.cells #[.bool false, .slice none 0 0] 30)) 30 (.bool false) (.slice none 0 0)).alloc (.cells #[.bool false, .slice none 0 0] 30)
    simpa using this
  · have := Two.made ((((w.alloc (.cells #[a, b] 30)).alloc (.cells #[a', b'] 30)).alloc (.cells #[.bool false, .slice none 0 0] 30)).alloc (.cells #[.bool false, .slice none 0 0] 30)) 30 (.bool false) (.slice none 0 0)
    simpa using this
/-- the three by value -/
def Three (w w' : World) (e : Ending) (x y : Int) : Prop := ∃ rq Q mq dq rr R mr dr rm M mm dm, e = .returned (.tuple #[.agg #[.bool rq, .slice Q mq dq], .agg #[.bool rr, .slice R mr dr], .agg #[.bool rm, .slice M mm dm]]) ∧ BVal w' rq Q mq dq (Int.tdiv x y) ∧ BVal w' rr R mr dr (Int.tmod x y) ∧ BVal w' rm M mm dm (Int.fmod x y) ∧ Below w.heap.size w w'
theorem fmod_same {x y : Int} {r : Bool} (h1 : sg r x.natAbs = x) (h2 : sg r y.natAbs = y) : Int.fmod x y = Int.tmod x y := by
  cases r
  · rw [sg_false] at h1 h2
    rw [Int.fmod_eq_emod_of_nonneg _ (by omega), Int.tmod_eq_emod_of_nonneg (by omega)]
  · rw [sg_true] at h1 h2
    have e1 : x = -(-x) := by omega
    have e2 : y = -(-y) := by omega
    rw [e1, e2, Int.neg_fmod_neg, Int.neg_tmod, Int.tmod_neg, Int.fmod_eq_emod_of_nonneg _ (by omega), Int.tmod_eq_emod_of_nonneg (by omega)]
theorem fmod_none {x y : Int} (h : x.natAbs % y.natAbs = 0) : Int.fmod x y = Int.tmod x y := by
  have hd : y ∣ x := Int.natAbs_dvd_natAbs.1 (Nat.dvd_of_mod_eq_zero h)
  rw [Int.fmod_eq_zero_of_dvd hd, Int.tmod_eq_zero_of_dvd hd]
theorem fmod_other {x y : Int} {r : Bool} (h1 : sg r x.natAbs = x) (h2 : sg (!r) y.natAbs = y) (h : x.natAbs % y.natAbs ≠ 0) (hy : y ≠ 0) : Int.fmod x y = Int.tmod x y + y := by
  have h0 : 0 < y.natAbs := by omega
  have hlt : x.natAbs % y.natAbs < y.natAbs := Nat.mod_lt _ h0
  cases r
  · have g2 : -(y.natAbs : Int) = y := by simpa [sg_true] using h2
    rw [sg_false] at h1
    have t := fmod_turn h0 h
    have e : Int.fmod x y = -(((y.natAbs - x.natAbs % y.natAbs : Nat) : Int)) := by
      rw [← t]
      have k := Int.neg_fmod_neg (-x) (-y)
      rw [Int.neg_neg, Int.neg_neg] at k
      rw [k]
      congr 2 <;> omega
    have e2 : Int.tmod x y = ((x.natAbs % y.natAbs : Nat) : Int) := by
      have := sg_rem false true x.natAbs y.natAbs
      rw [sg_false, sg_false, sg_true, h1, g2] at this
      exact this.symm
    omega
  · have g2 : (y.natAbs : Int) = y := by simpa [sg_false] using h2
    rw [sg_true] at h1
    have t := fmod_turn h0 h
    rw [h1, g2] at t
    have e2 : Int.tmod x y = -((x.natAbs % y.natAbs : Nat) : Int) := by
      have := sg_rem true false x.natAbs y.natAbs
      rw [sg_true, sg_true, sg_false, h1, g2] at this
      exact this.symm
    omega
set_option maxHeartbeats 6400000 in
theorem refdivide_Att (A1 A2 : Option Addr) (m1 c1 m2 c2 : Nat) (x y : Int) (w : World) (h1 : BVal w true A1 m1 c1 x) (h2 : BVal w true A2 m2 c2 y) (l1 : m1 ≤ 10000) (l2 : m2 ≤ 10000) (hy : y ≠ 0) (h0 : x.natAbs % y.natAbs = 0) :
    Calls Tryd.prog 43 #[.agg #[.bool true, .slice A1 m1 c1], .agg #[.bool true, .slice A2 m2 c2]] w fun e w' => Three w w' e x y := by
  obtain ⟨W, hW⟩ : ∃ W, W = ((((w.alloc (.cells #[.bool true, .slice A1 m1 c1] 30)).alloc (.cells #[.bool true, .slice A2 m2 c2] 30)).alloc (.cells #[.bool false, .slice none 0 0] 30)).alloc (.cells #[.bool false, .slice none 0 0] 30)).alloc (.cells #[.bool false, .slice none 0 0] 30) := ⟨_, rfl⟩
  obtain ⟨t1, t2, t3, t4, t5, hbW, hWs⟩ := boxes5 w _ _ _ _ W hW
  have B1 := h1.2.2.below hbW
  have B2 := h2.2.2.below hbW
  have V2 := h2.below hbW
  have M1 := h1.2.1
  have M2 := h2.2.1
  have s1 := h1.sg
  have s2 := h2.sg
  have hy0 : 0 < y.natAbs := by omega
  obtain ⟨q, hq⟩ : ∃ q, q = x.natAbs / y.natAbs := ⟨_, rfl⟩
  obtain ⟨r, hr⟩ : ∃ r, r = x.natAbs % y.natAbs := ⟨_, rfl⟩
  have zq : sg false q = Int.tdiv x y := by
    have := sg_quo true true x.natAbs y.natAbs
    rw [s1, s2, ← hq, show ((true : Bool) == true) = true from rfl] at this
    exact this
  have zr : sg true r = Int.tmod x y := by
    have := sg_rem true true x.natAbs y.natAbs
    rw [s1, s2, ← hr] at this
    exact this
  have zm : Int.fmod x y = Int.tmod x y := fmod_none h0
  obtain ⟨mq, hmq⟩ : ∃ mq, mq = bl q := ⟨_, rfl⟩
  obtain ⟨mr, hmr⟩ : ∃ mr, mr = bl r := ⟨_, rfl⟩
  obtain ⟨rq, hrq⟩ : ∃ rq, rq = decide (Int.tdiv x y < 0) := ⟨_, rfl⟩
  obtain ⟨rr, hrr⟩ : ∃ rr, rr = decide (Int.tmod x y < 0) := ⟨_, rfl⟩
  have PT : ∀ V, Below W.heap.size W V → Hid (Calls Tryd.prog 64 #[.slice A1 m1 c1, .slice A2 m2 c2] V fun e w' => ∃ Q d R c, e = .returned (.tuple #[.slice Q mq d, .slice R mr c]) ∧ Bit w' Q mq d q ∧ Bit w' R mr c r ∧ Below W.heap.size W w') := fun V hb => Lib.hid (by
    subst M2
    rw [hmq, hmr, hq, hr]
    exact (partsB A1 A2 m1 c1 c2 _ _ V (B1.below hb) (B2.below hb) (by omega) l1 l2).mono fun e w' hh => by
      obtain ⟨Q, d, R, c, he, bq, br, _, _, hw⟩ := hh
      exact ⟨Q, d, R, c, he, bq, br, below_then hb hw⟩)
  have lq : mq ≤ 10000 := by rw [hmq, hq]; exact Nat.le_trans (bl_mono (Nat.div_le_self _ _)) (by omega)
  have lr : mr ≤ 10000 := by rw [hmr, hr]; exact Nat.le_trans (bl_mono (Nat.mod_le _ _)) (by omega)
  have VR : ∀ V R c, Bit V R mr c r → Hid (Calls Tryd.prog 51 #[.bool true, .slice R mr c] V fun e w' => e = .returned (.agg #[.bool rr, .slice R mr c]) ∧ Below V.heap.size V w') := fun V R c hB => Lib.hid ((value_any true R mr c r V hB (by omega)).mono fun e w' ⟨he, hw⟩ => ⟨by rw [he, signB_sg zr, ← hrr, ← hmr], hw⟩)
  have VQ : ∀ V Q c, Bit V Q mq c q → Hid (Calls Tryd.prog 51 #[.bool false, .slice Q mq c] V fun e w' => e = .returned (.agg #[.bool rq, .slice Q mq c]) ∧ Below V.heap.size V w') := fun V Q c hB => Lib.hid ((value_any false Q mq c q V hB (by omega)).mono fun e w' ⟨he, hw⟩ => ⟨by rw [he, signB_sg zq, ← hrq, ← hmq], hw⟩)
  have XQ : ∀ V Q c, Bit V Q mq c q → BVal V rq Q mq c (Int.tdiv x y) := fun V Q c h => by
    have e := sg_abs zq
    exact ⟨hrq, by rw [← e]; exact hmq, by rw [← e]; exact h⟩
  have XR : ∀ V R c, Bit V R mr c r → BVal V rr R mr c (Int.tmod x y) := fun V R c h => by
    have e := sg_abs zr
    exact ⟨hrr, by rw [← e]; exact hmr, by rw [← e]; exact h⟩
  have hmr0 : mr = 0 := by rw [hmr, hr, h0, bl_zero]
  have XQ := Lib.hid XQ
  have XR := Lib.hid XR
  have ZM := Lib.hid zm
  have k1 := t1.snd
  have k2 := t2.snd
  clear hq hr zq zr zm hmr hrq hrr hmq s1 s2 M1 M2 h1 h2 B1 B2 h0 hy0 hy
  subst hmr0
  go_enter Tryd.func43, Tryd.ntmps43
  go_wp2_with fail
  rw [← hW]
  have HW := Lib.hid hW
  have HWS := Lib.hid hWs
  clear hW hWs
  refine ((PT _ (Below.refl _ _)).out).mono ?_
  rintro e y1 ⟨Q, dq, R, dr, rfl, bq, br, b1⟩
  clear k1 k2 PT
  have k1 := (t1.below' b1).fst
  go_wp2_with fail
  refine ((VR _ R dr br).out).mono ?_
  rintro e y2 ⟨rfl, b2⟩
  replace bq := bq.below b2
  replace br := br.below b2
  replace b2 := below_then b1 b2
  clear k1 b1 VR
  obtain ⟨X, hX⟩ : ∃ X, X = (y2.alloc (.cells #[.bool rr, .slice R 0 dr] 30)).alloc (.cells #[.bool rr, .slice R 0 dr] 30) := ⟨_, rfl⟩
  have hbX : Below y2.heap.size y2 X := by rw [hX]; exact below_al (below_al (Below.refl _ _) _) _
  have t9 : Two X y2.heap.size 30 (.bool rr) (.slice R 0 dr) := by rw [hX]; exact (Two.made y2 30 _ _).alloc _
  have t10 : Two X (y2.heap.size + 1) 30 (.bool rr) (.slice R 0 dr) := by
    rw [hX]
    have := Two.made (y2.alloc (.cells #[.bool rr, .slice R 0 dr] 30)) 30 (.bool rr) (.slice R 0 dr)
    simpa using this
  have hs2 := b2.size
  replace t1 := (t1.below' b2).below' hbX
  replace t2 := (t2.below' b2).below' hbX
  replace t3 := (t3.below' b2).below' hbX
  replace t4 := (t4.below' b2).below' hbX
  replace t5 := (t5.below' b2).below' hbX
  replace bq := bq.below hbX
  replace br := br.below hbX
  replace V2 := V2.below b2
  replace V2 := V2.below hbX
  replace hbW := below_then hbW (below_then b2 hbX)
  clear b2 hbX
  have hz : w.heap.size + 5 ≤ y2.heap.size := by have := HWS.out; omega
  clear hs2 HWS
  have k1 := t1.fst
  have k2 := t2.fst
  have k3 := t9.fst
  have k4 := t9.snd
  have k5 := t10.fst
  have k6 := t10.snd
  rw [hX] at k1 k2 k3 k4 k5 k6
  go_wp2_with fail
  rw [← hX]
  rw [← hX] at k1 k2 k3 k4 k5 k6
  have HX := Lib.hid hX
  clear hX V2
  have VX : ∀ V, Below X.heap.size X V → Hid (Calls Tryd.prog 51 #[.bool false, .slice Q mq dq] V fun e w' => e = .returned (.agg #[.bool rq, .slice Q mq dq]) ∧ Below X.heap.size X w') := fun V hb => Lib.hid (((VQ V Q dq (bq.below hb)).out).mono fun e w' ⟨he, hw⟩ => ⟨he, below_then hb hw⟩)
  clear VQ
  go_region_held3 (fun V => V.cell? ⟨w.heap.size, 0, none⟩ = some (.bool true) ∧ V.cell? ⟨w.heap.size + 1, 0, none⟩ = some (.bool true) ∧ V.cell? ⟨y2.heap.size, 0, none⟩ = some (.bool rr) ∧ V.cell? ⟨y2.heap.size, 1, none⟩ = some (.slice R 0 dr) ∧ V.cell? ⟨y2.heap.size + 1, 0, none⟩ = some (.bool rr) ∧ V.cell? ⟨y2.heap.size + 1, 1, none⟩ = some (.slice R 0 dr)) (first | with_reducible exact ⟨x1w, x2w, x3w, x4w, x5w, x6w⟩ | with_reducible exact ⟨x1v, x2v, x3v, x4v, x5v, x6v⟩ | with_reducible exact ⟨x1u, x2u, x3u, x4u, x5u, x6u⟩ | with_reducible exact ⟨x1s, x2s, x3s, x4s, x5s, x6s⟩ | exact ⟨k1, k2, k3, k4, k5, k6⟩ | go_keep)
    (first | (go_at_call 51; refine ((VX _ (by first | exact Below.refl _ _ | exact Below.drew (Below.refl _ _))).out).mono ?_; rintro e y4 ⟨rfl, b4⟩; have a1 := t1.below' b4; have a2 := t2.below' b4; have a3 := t3.below' b4; have a4 := t4.below' b4; have a5 := t5.below' b4; have a9 := t9.below' b4; have a10 := t10.below' b4; have x1s := a1.fst; have x2s := a2.fst; have x3s := a9.fst; have x4s := a9.snd; have x5s := a10.fst; have x6s := a10.snd; have fa := a3.free 0; have fb := a3.free 1; have fa' := a3.fst; have fb' := a3.snd; have a1u := Two.far2 (b := w.heap.size + 2) (u' := .bool rq) (v' := .slice Q mq dq) a1 (by omega); have a2u := Two.far2 (b := w.heap.size + 2) (u' := .bool rq) (v' := .slice Q mq dq) a2 (by omega); have a4u := Two.far2 (b := w.heap.size + 2) (u' := .bool rq) (v' := .slice Q mq dq) a4 (by omega); have a5u := Two.far2 (b := w.heap.size + 2) (u' := .bool rq) (v' := .slice Q mq dq) a5 (by omega); have a9u := Two.far2 (b := w.heap.size + 2) (u' := .bool rq) (v' := .slice Q mq dq) a9 (by omega); have a10u := Two.far2 (b := w.heap.size + 2) (u' := .bool rq) (v' := .slice Q mq dq) a10 (by omega); have a3u := a3.set2 (a' := .bool rq) (b' := .slice Q mq dq); have x1u := a1u.fst; have x2u := a2u.fst; have x3u := a9u.fst; have x4u := a9u.snd; have x5u := a10u.fst; have x6u := a10u.snd; have fc := a4u.free 0; have fd := a4u.free 1; have fc' := a4u.fst; have fd' := a4u.snd; have a1v := Two.far2 (b := w.heap.size + 3) (u' := .bool rr) (v' := .slice R 0 dr) a1u (by omega); have a2v := Two.far2 (b := w.heap.size + 3) (u' := .bool rr) (v' := .slice R 0 dr) a2u (by omega); have a3v := Two.far2 (b := w.heap.size + 3) (u' := .bool rr) (v' := .slice R 0 dr) a3u (by omega); have a5v := Two.far2 (b := w.heap.size + 3) (u' := .bool rr) (v' := .slice R 0 dr) a5u (by omega); have a9v := Two.far2 (b := w.heap.size + 3) (u' := .bool rr) (v' := .slice R 0 dr) a9u (by omega); have a10v := Two.far2 (b := w.heap.size + 3) (u' := .bool rr) (v' := .slice R 0 dr) a10u (by omega); have a4v := a4u.set2 (a' := .bool rr) (b' := .slice R 0 dr); have x1v := a1v.fst; have x2v := a2v.fst; have x3v := a9v.fst; have x4v := a9v.snd; have x5v := a10v.fst; have x6v := a10v.snd; have fe := a5v.free 0; have ff := a5v.free 1; have fe' := a5v.fst; have ff' := a5v.snd; have a1w := Two.far2 (b := w.heap.size + 4) (u' := .bool rr) (v' := .slice R 0 dr) a1v (by omega); have a2w := Two.far2 (b := w.heap.size + 4) (u' := .bool rr) (v' := .slice R 0 dr) a2v (by omega); have a3w := Two.far2 (b := w.heap.size + 4) (u' := .bool rr) (v' := .slice R 0 dr) a3v (by omega); have a4w := Two.far2 (b := w.heap.size + 4) (u' := .bool rr) (v' := .slice R 0 dr) a4v (by omega); have a9w := Two.far2 (b := w.heap.size + 4) (u' := .bool rr) (v' := .slice R 0 dr) a9v (by omega); have a10w := Two.far2 (b := w.heap.size + 4) (u' := .bool rr) (v' := .slice R 0 dr) a10v (by omega); have a5w := a5v.set2 (a' := .bool rr) (b' := .slice R 0 dr); have x1w := a1w.fst; have x2w := a2w.fst; have x3w := a9w.fst; have x4w := a9w.snd; have x5w := a10w.fst; have x6w := a10w.snd))
  all_goals
    go_wp2
    have g0 := a3w.fst
    have g1 := a3w.snd
    have g2 := a4w.fst
    have g3 := a4w.snd
    have g4 := a5w.fst
    have g5 := a5w.snd
    replace bq := (((bq.below b4).put2 a3 (u := .bool rq) (v := .slice Q mq dq)).put2 a4u (u := .bool rr) (v := .slice R 0 dr)).put2 a5v (u := .bool rr) (v := .slice R 0 dr)
    replace br := (((br.below b4).put2 a3 (u := .bool rq) (v := .slice Q mq dq)).put2 a4u (u := .bool rr) (v := .slice R 0 dr)).put2 a5v (u := .bool rr) (v := .slice R 0 dr)
    exact bodyPost_ret (v := .tuple #[.agg #[.bool rq, .slice Q mq dq], .agg #[.bool rr, .slice R 0 dr], .agg #[.bool rr, .slice R 0 dr]]) (by simp [results, Tryd.results43, go_sem, g0, g1, g2, g3, g4, g5]) rfl
      ⟨rq, Q, mq, dq, rr, R, 0, dr, rr, R, 0, dr, rfl, XQ.out _ Q dq bq, XR.out _ R dr br, by rw [ZM.out]; exact XR.out _ R dr br, below_two (below_two (below_two (below_then hbW b4) (by omega)) (by omega)) (by omega)⟩
set_option maxHeartbeats 6400000 in
theorem refdivide_Stt (A1 A2 : Option Addr) (m1 c1 m2 c2 : Nat) (x y : Int) (w : World) (h1 : BVal w true A1 m1 c1 x) (h2 : BVal w true A2 m2 c2 y) (l1 : m1 ≤ 10000) (l2 : m2 ≤ 10000) (hy : y ≠ 0) (h0 : 0 < x.natAbs % y.natAbs) :
    Calls Tryd.prog 43 #[.agg #[.bool true, .slice A1 m1 c1], .agg #[.bool true, .slice A2 m2 c2]] w fun e w' => Three w w' e x y := by
  obtain ⟨W, hW⟩ : ∃ W, W = ((((w.alloc (.cells #[.bool true, .slice A1 m1 c1] 30)).alloc (.cells #[.bool true, .slice A2 m2 c2] 30)).alloc (.cells #[.bool false, .slice none 0 0] 30)).alloc (.cells #[.bool false, .slice none 0 0] 30)).alloc (.cells #[.bool false, .slice none 0 0] 30) := ⟨_, rfl⟩
  obtain ⟨t1, t2, t3, t4, t5, hbW, hWs⟩ := boxes5 w _ _ _ _ W hW
  have B1 := h1.2.2.below hbW
  have B2 := h2.2.2.below hbW
  have V2 := h2.below hbW
  have M1 := h1.2.1
  have M2 := h2.2.1
  have s1 := h1.sg
  have s2 := h2.sg
  have hy0 : 0 < y.natAbs := by omega
  obtain ⟨q, hq⟩ : ∃ q, q = x.natAbs / y.natAbs := ⟨_, rfl⟩
  obtain ⟨r, hr⟩ : ∃ r, r = x.natAbs % y.natAbs := ⟨_, rfl⟩
  have zq : sg false q = Int.tdiv x y := by
    have := sg_quo true true x.natAbs y.natAbs
    rw [s1, s2, ← hq, show ((true : Bool) == true) = true from rfl] at this
    exact this
  have zr : sg true r = Int.tmod x y := by
    have := sg_rem true true x.natAbs y.natAbs
    rw [s1, s2, ← hr] at this
    exact this
  have zm : Int.fmod x y = Int.tmod x y := fmod_same s1 s2
  obtain ⟨mq, hmq⟩ : ∃ mq, mq = bl q := ⟨_, rfl⟩
  obtain ⟨mr, hmr⟩ : ∃ mr, mr = bl r := ⟨_, rfl⟩
  obtain ⟨rq, hrq⟩ : ∃ rq, rq = decide (Int.tdiv x y < 0) := ⟨_, rfl⟩
  obtain ⟨rr, hrr⟩ : ∃ rr, rr = decide (Int.tmod x y < 0) := ⟨_, rfl⟩
  have PT : ∀ V, Below W.heap.size W V → Hid (Calls Tryd.prog 64 #[.slice A1 m1 c1, .slice A2 m2 c2] V fun e w' => ∃ Q d R c, e = .returned (.tuple #[.slice Q mq d, .slice R mr c]) ∧ Bit w' Q mq d q ∧ Bit w' R mr c r ∧ Below W.heap.size W w') := fun V hb => Lib.hid (by
    subst M2
    rw [hmq, hmr, hq, hr]
    exact (partsB A1 A2 m1 c1 c2 _ _ V (B1.below hb) (B2.below hb) (by omega) l1 l2).mono fun e w' hh => by
      obtain ⟨Q, d, R, c, he, bq, br, _, _, hw⟩ := hh
      exact ⟨Q, d, R, c, he, bq, br, below_then hb hw⟩)
  have lq : mq ≤ 10000 := by rw [hmq, hq]; exact Nat.le_trans (bl_mono (Nat.div_le_self _ _)) (by omega)
  have lr : mr ≤ 10000 := by rw [hmr, hr]; exact Nat.le_trans (bl_mono (Nat.mod_le _ _)) (by omega)
  have VR : ∀ V R c, Bit V R mr c r → Hid (Calls Tryd.prog 51 #[.bool true, .slice R mr c] V fun e w' => e = .returned (.agg #[.bool rr, .slice R mr c]) ∧ Below V.heap.size V w') := fun V R c hB => Lib.hid ((value_any true R mr c r V hB (by omega)).mono fun e w' ⟨he, hw⟩ => ⟨by rw [he, signB_sg zr, ← hrr, ← hmr], hw⟩)
  have VQ : ∀ V Q c, Bit V Q mq c q → Hid (Calls Tryd.prog 51 #[.bool false, .slice Q mq c] V fun e w' => e = .returned (.agg #[.bool rq, .slice Q mq c]) ∧ Below V.heap.size V w') := fun V Q c hB => Lib.hid ((value_any false Q mq c q V hB (by omega)).mono fun e w' ⟨he, hw⟩ => ⟨by rw [he, signB_sg zq, ← hrq, ← hmq], hw⟩)
  have XQ : ∀ V Q c, Bit V Q mq c q → BVal V rq Q mq c (Int.tdiv x y) := fun V Q c h => by
    have e := sg_abs zq
    exact ⟨hrq, by rw [← e]; exact hmq, by rw [← e]; exact h⟩
  have XR : ∀ V R c, Bit V R mr c r → BVal V rr R mr c (Int.tmod x y) := fun V R c h => by
    have e := sg_abs zr
    exact ⟨hrr, by rw [← e]; exact hmr, by rw [← e]; exact h⟩
  have hmr0 : 0 < mr := by rw [hmr]; exact bl_pos (by omega)
  have XQ := Lib.hid XQ
  have XR := Lib.hid XR
  have ZM := Lib.hid zm
  have k1 := t1.snd
  have k2 := t2.snd
  clear hq hr zq zr zm hmr hrq hrr hmq s1 s2 M1 M2 h1 h2 B1 B2 h0 hy0 hy
  go_enter Tryd.func43, Tryd.ntmps43
  go_wp2_with fail
  rw [← hW]
  have HW := Lib.hid hW
  have HWS := Lib.hid hWs
  clear hW hWs
  refine ((PT _ (Below.refl _ _)).out).mono ?_
  rintro e y1 ⟨Q, dq, R, dr, rfl, bq, br, b1⟩
  clear k1 k2 PT
  have k1 := (t1.below' b1).fst
  go_wp2_with fail
  refine ((VR _ R dr br).out).mono ?_
  rintro e y2 ⟨rfl, b2⟩
  replace bq := bq.below b2
  replace br := br.below b2
  replace b2 := below_then b1 b2
  clear k1 b1 VR
  obtain ⟨X, hX⟩ : ∃ X, X = (y2.alloc (.cells #[.bool rr, .slice R mr dr] 30)).alloc (.cells #[.bool rr, .slice R mr dr] 30) := ⟨_, rfl⟩
  have hbX : Below y2.heap.size y2 X := by rw [hX]; exact below_al (below_al (Below.refl _ _) _) _
  have t9 : Two X y2.heap.size 30 (.bool rr) (.slice R mr dr) := by rw [hX]; exact (Two.made y2 30 _ _).alloc _
  have t10 : Two X (y2.heap.size + 1) 30 (.bool rr) (.slice R mr dr) := by
    rw [hX]
    have := Two.made (y2.alloc (.cells #[.bool rr, .slice R mr dr] 30)) 30 (.bool rr) (.slice R mr dr)
    simpa using this
  have hs2 := b2.size
  replace t1 := (t1.below' b2).below' hbX
  replace t2 := (t2.below' b2).below' hbX
  replace t3 := (t3.below' b2).below' hbX
  replace t4 := (t4.below' b2).below' hbX
  replace t5 := (t5.below' b2).below' hbX
  replace bq := bq.below hbX
  replace br := br.below hbX
  replace V2 := V2.below b2
  replace V2 := V2.below hbX
  replace hbW := below_then hbW (below_then b2 hbX)
  clear b2 hbX
  have hz : w.heap.size + 5 ≤ y2.heap.size := by have := HWS.out; omega
  clear hs2 HWS
  have k1 := t1.fst
  have k2 := t2.fst
  have k3 := t9.fst
  have k4 := t9.snd
  have k5 := t10.fst
  have k6 := t10.snd
  rw [hX] at k1 k2 k3 k4 k5 k6
  go_wp2_with fail
  rw [← hX]
  rw [← hX] at k1 k2 k3 k4 k5 k6
  have HX := Lib.hid hX
  clear hX V2
  have VX : ∀ V, Below X.heap.size X V → Hid (Calls Tryd.prog 51 #[.bool false, .slice Q mq dq] V fun e w' => e = .returned (.agg #[.bool rq, .slice Q mq dq]) ∧ Below X.heap.size X w') := fun V hb => Lib.hid (((VQ V Q dq (bq.below hb)).out).mono fun e w' ⟨he, hw⟩ => ⟨he, below_then hb hw⟩)
  clear VQ
  go_region_held3 (fun V => V.cell? ⟨w.heap.size, 0, none⟩ = some (.bool true) ∧ V.cell? ⟨w.heap.size + 1, 0, none⟩ = some (.bool true) ∧ V.cell? ⟨y2.heap.size, 0, none⟩ = some (.bool rr) ∧ V.cell? ⟨y2.heap.size, 1, none⟩ = some (.slice R mr dr) ∧ V.cell? ⟨y2.heap.size + 1, 0, none⟩ = some (.bool rr) ∧ V.cell? ⟨y2.heap.size + 1, 1, none⟩ = some (.slice R mr dr)) (first | with_reducible exact ⟨x1w, x2w, x3w, x4w, x5w, x6w⟩ | with_reducible exact ⟨x1v, x2v, x3v, x4v, x5v, x6v⟩ | with_reducible exact ⟨x1u, x2u, x3u, x4u, x5u, x6u⟩ | with_reducible exact ⟨x1s, x2s, x3s, x4s, x5s, x6s⟩ | exact ⟨k1, k2, k3, k4, k5, k6⟩ | go_keep)
    (first | (go_at_call 51; refine ((VX _ (by first | exact Below.refl _ _ | exact Below.drew (Below.refl _ _))).out).mono ?_; rintro e y4 ⟨rfl, b4⟩; have a1 := t1.below' b4; have a2 := t2.below' b4; have a3 := t3.below' b4; have a4 := t4.below' b4; have a5 := t5.below' b4; have a9 := t9.below' b4; have a10 := t10.below' b4; have x1s := a1.fst; have x2s := a2.fst; have x3s := a9.fst; have x4s := a9.snd; have x5s := a10.fst; have x6s := a10.snd; have fa := a3.free 0; have fb := a3.free 1; have fa' := a3.fst; have fb' := a3.snd; have a1u := Two.far2 (b := w.heap.size + 2) (u' := .bool rq) (v' := .slice Q mq dq) a1 (by omega); have a2u := Two.far2 (b := w.heap.size + 2) (u' := .bool rq) (v' := .slice Q mq dq) a2 (by omega); have a4u := Two.far2 (b := w.heap.size + 2) (u' := .bool rq) (v' := .slice Q mq dq) a4 (by omega); have a5u := Two.far2 (b := w.heap.size + 2) (u' := .bool rq) (v' := .slice Q mq dq) a5 (by omega); have a9u := Two.far2 (b := w.heap.size + 2) (u' := .bool rq) (v' := .slice Q mq dq) a9 (by omega); have a10u := Two.far2 (b := w.heap.size + 2) (u' := .bool rq) (v' := .slice Q mq dq) a10 (by omega); have a3u := a3.set2 (a' := .bool rq) (b' := .slice Q mq dq); have x1u := a1u.fst; have x2u := a2u.fst; have x3u := a9u.fst; have x4u := a9u.snd; have x5u := a10u.fst; have x6u := a10u.snd; have fc := a4u.free 0; have fd := a4u.free 1; have fc' := a4u.fst; have fd' := a4u.snd; have a1v := Two.far2 (b := w.heap.size + 3) (u' := .bool rr) (v' := .slice R mr dr) a1u (by omega); have a2v := Two.far2 (b := w.heap.size + 3) (u' := .bool rr) (v' := .slice R mr dr) a2u (by omega); have a3v := Two.far2 (b := w.heap.size + 3) (u' := .bool rr) (v' := .slice R mr dr) a3u (by omega); have a5v := Two.far2 (b := w.heap.size + 3) (u' := .bool rr) (v' := .slice R mr dr) a5u (by omega); have a9v := Two.far2 (b := w.heap.size + 3) (u' := .bool rr) (v' := .slice R mr dr) a9u (by omega); have a10v := Two.far2 (b := w.heap.size + 3) (u' := .bool rr) (v' := .slice R mr dr) a10u (by omega); have a4v := a4u.set2 (a' := .bool rr) (b' := .slice R mr dr); have x1v := a1v.fst; have x2v := a2v.fst; have x3v := a9v.fst; have x4v := a9v.snd; have x5v := a10v.fst; have x6v := a10v.snd; have fe := a5v.free 0; have ff := a5v.free 1; have fe' := a5v.fst; have ff' := a5v.snd; have a1w := Two.far2 (b := w.heap.size + 4) (u' := .bool rr) (v' := .slice R mr dr) a1v (by omega); have a2w := Two.far2 (b := w.heap.size + 4) (u' := .bool rr) (v' := .slice R mr dr) a2v (by omega); have a3w := Two.far2 (b := w.heap.size + 4) (u' := .bool rr) (v' := .slice R mr dr) a3v (by omega); have a4w := Two.far2 (b := w.heap.size + 4) (u' := .bool rr) (v' := .slice R mr dr) a4v (by omega); have a9w := Two.far2 (b := w.heap.size + 4) (u' := .bool rr) (v' := .slice R mr dr) a9v (by omega); have a10w := Two.far2 (b := w.heap.size + 4) (u' := .bool rr) (v' := .slice R mr dr) a10v (by omega); have a5w := a5v.set2 (a' := .bool rr) (b' := .slice R mr dr); have x1w := a1w.fst; have x2w := a2w.fst; have x3w := a9w.fst; have x4w := a9w.snd; have x5w := a10w.fst; have x6w := a10w.snd))
  all_goals
    go_wp2
    have g0 := a3w.fst
    have g1 := a3w.snd
    have g2 := a4w.fst
    have g3 := a4w.snd
    have g4 := a5w.fst
    have g5 := a5w.snd
    replace bq := (((bq.below b4).put2 a3 (u := .bool rq) (v := .slice Q mq dq)).put2 a4u (u := .bool rr) (v := .slice R mr dr)).put2 a5v (u := .bool rr) (v := .slice R mr dr)
    replace br := (((br.below b4).put2 a3 (u := .bool rq) (v := .slice Q mq dq)).put2 a4u (u := .bool rr) (v := .slice R mr dr)).put2 a5v (u := .bool rr) (v := .slice R mr dr)
    exact bodyPost_ret (v := .tuple #[.agg #[.bool rq, .slice Q mq dq], .agg #[.bool rr, .slice R mr dr], .agg #[.bool rr, .slice R mr dr]]) (by simp [results, Tryd.results43, go_sem, g0, g1, g2, g3, g4, g5]) rfl
      ⟨rq, Q, mq, dq, rr, R, mr, dr, rr, R, mr, dr, rfl, XQ.out _ Q dq bq, XR.out _ R dr br, by rw [ZM.out]; exact XR.out _ R dr br, below_two (below_two (below_two (below_then hbW b4) (by omega)) (by omega)) (by omega)⟩
set_option maxHeartbeats 6400000 in
theorem refdivide_Atf (A1 A2 : Option Addr) (m1 c1 m2 c2 : Nat) (x y : Int) (w : World) (h1 : BVal w true A1 m1 c1 x) (h2 : BVal w false A2 m2 c2 y) (l1 : m1 ≤ 10000) (l2 : m2 ≤ 10000) (hy : y ≠ 0) (h0 : x.natAbs % y.natAbs = 0) :
    Calls Tryd.prog 43 #[.agg #[.bool true, .slice A1 m1 c1], .agg #[.bool false, .slice A2 m2 c2]] w fun e w' => Three w w' e x y := by
  obtain ⟨W, hW⟩ : ∃ W, W = ((((w.alloc (.cells #[.bool true, .slice A1 m1 c1] 30)).alloc (.cells #[.bool false, .slice A2 m2 c2] 30)).alloc (.cells #[.bool false, .slice none 0 0] 30)).alloc (.cells #[.bool false, .slice none 0 0] 30)).alloc (.cells #[.bool false, .slice none 0 0] 30) := ⟨_, rfl⟩
  obtain ⟨t1, t2, t3, t4, t5, hbW, hWs⟩ := boxes5 w _ _ _ _ W hW
  have B1 := h1.2.2.below hbW
  have B2 := h2.2.2.below hbW
  have V2 := h2.below hbW
  have M1 := h1.2.1
  have M2 := h2.2.1
  have s1 := h1.sg
  have s2 := h2.sg
  have hy0 : 0 < y.natAbs := by omega
  obtain ⟨q, hq⟩ : ∃ q, q = x.natAbs / y.natAbs := ⟨_, rfl⟩
  obtain ⟨r, hr⟩ : ∃ r, r = x.natAbs % y.natAbs := ⟨_, rfl⟩
  have zq : sg true q = Int.tdiv x y := by
    have := sg_quo true false x.natAbs y.natAbs
    rw [s1, s2, ← hq, show ((true : Bool) == false) = false from rfl] at this
    exact this
  have zr : sg true r = Int.tmod x y := by
    have := sg_rem true false x.natAbs y.natAbs
    rw [s1, s2, ← hr] at this
    exact this
  have zm : Int.fmod x y = Int.tmod x y := fmod_none h0
  obtain ⟨mq, hmq⟩ : ∃ mq, mq = bl q := ⟨_, rfl⟩
  obtain ⟨mr, hmr⟩ : ∃ mr, mr = bl r := ⟨_, rfl⟩
  obtain ⟨rq, hrq⟩ : ∃ rq, rq = decide (Int.tdiv x y < 0) := ⟨_, rfl⟩
  obtain ⟨rr, hrr⟩ : ∃ rr, rr = decide (Int.tmod x y < 0) := ⟨_, rfl⟩
  have PT : ∀ V, Below W.heap.size W V → Hid (Calls Tryd.prog 64 #[.slice A1 m1 c1, .slice A2 m2 c2] V fun e w' => ∃ Q d R c, e = .returned (.tuple #[.slice Q mq d, .slice R mr c]) ∧ Bit w' Q mq d q ∧ Bit w' R mr c r ∧ Below W.heap.size W w') := fun V hb => Lib.hid (by
    subst M2
    rw [hmq, hmr, hq, hr]
    exact (partsB A1 A2 m1 c1 c2 _ _ V (B1.below hb) (B2.below hb) (by omega) l1 l2).mono fun e w' hh => by
      obtain ⟨Q, d, R, c, he, bq, br, _, _, hw⟩ := hh
      exact ⟨Q, d, R, c, he, bq, br, below_then hb hw⟩)
  have lq : mq ≤ 10000 := by rw [hmq, hq]; exact Nat.le_trans (bl_mono (Nat.div_le_self _ _)) (by omega)
  have lr : mr ≤ 10000 := by rw [hmr, hr]; exact Nat.le_trans (bl_mono (Nat.mod_le _ _)) (by omega)
  have VR : ∀ V R c, Bit V R mr c r → Hid (Calls Tryd.prog 51 #[.bool true, .slice R mr c] V fun e w' => e = .returned (.agg #[.bool rr, .slice R mr c]) ∧ Below V.heap.size V w') := fun V R c hB => Lib.hid ((value_any true R mr c r V hB (by omega)).mono fun e w' ⟨he, hw⟩ => ⟨by rw [he, signB_sg zr, ← hrr, ← hmr], hw⟩)
  have VQ : ∀ V Q c, Bit V Q mq c q → Hid (Calls Tryd.prog 51 #[.bool true, .slice Q mq c] V fun e w' => e = .returned (.agg #[.bool rq, .slice Q mq c]) ∧ Below V.heap.size V w') := fun V Q c hB => Lib.hid ((value_any true Q mq c q V hB (by omega)).mono fun e w' ⟨he, hw⟩ => ⟨by rw [he, signB_sg zq, ← hrq, ← hmq], hw⟩)
  have XQ : ∀ V Q c, Bit V Q mq c q → BVal V rq Q mq c (Int.tdiv x y) := fun V Q c h => by
    have e := sg_abs zq
    exact ⟨hrq, by rw [← e]; exact hmq, by rw [← e]; exact h⟩
  have XR : ∀ V R c, Bit V R mr c r → BVal V rr R mr c (Int.tmod x y) := fun V R c h => by
    have e := sg_abs zr
    exact ⟨hrr, by rw [← e]; exact hmr, by rw [← e]; exact h⟩
  have hmr0 : mr = 0 := by rw [hmr, hr, h0, bl_zero]
  have XQ := Lib.hid XQ
  have XR := Lib.hid XR
  have ZM := Lib.hid zm
  have k1 := t1.snd
  have k2 := t2.snd
  clear hq hr zq zr zm hmr hrq hrr hmq s1 s2 M1 M2 h1 h2 B1 B2 h0 hy0 hy
  subst hmr0
  go_enter Tryd.func43, Tryd.ntmps43
  go_wp2_with fail
  rw [← hW]
  have HW := Lib.hid hW
  have HWS := Lib.hid hWs
  clear hW hWs
  refine ((PT _ (Below.refl _ _)).out).mono ?_
  rintro e y1 ⟨Q, dq, R, dr, rfl, bq, br, b1⟩
  clear k1 k2 PT
  have k1 := (t1.below' b1).fst
  go_wp2_with fail
  refine ((VR _ R dr br).out).mono ?_
  rintro e y2 ⟨rfl, b2⟩
  replace bq := bq.below b2
  replace br := br.below b2
  replace b2 := below_then b1 b2
  clear k1 b1 VR
  obtain ⟨X, hX⟩ : ∃ X, X = (y2.alloc (.cells #[.bool rr, .slice R 0 dr] 30)).alloc (.cells #[.bool rr, .slice R 0 dr] 30) := ⟨_, rfl⟩
  have hbX : Below y2.heap.size y2 X := by rw [hX]; exact below_al (below_al (Below.refl _ _) _) _
  have t9 : Two X y2.heap.size 30 (.bool rr) (.slice R 0 dr) := by rw [hX]; exact (Two.made y2 30 _ _).alloc _
  have t10 : Two X (y2.heap.size + 1) 30 (.bool rr) (.slice R 0 dr) := by
    rw [hX]
    have := Two.made (y2.alloc (.cells #[.bool rr, .slice R 0 dr] 30)) 30 (.bool rr) (.slice R 0 dr)
    simpa using this
  have hs2 := b2.size
  replace t1 := (t1.below' b2).below' hbX
  replace t2 := (t2.below' b2).below' hbX
  replace t3 := (t3.below' b2).below' hbX
  replace t4 := (t4.below' b2).below' hbX
  replace t5 := (t5.below' b2).below' hbX
  replace bq := bq.below hbX
  replace br := br.below hbX
  replace V2 := V2.below b2
  replace V2 := V2.below hbX
  replace hbW := below_then hbW (below_then b2 hbX)
  clear b2 hbX
  have hz : w.heap.size + 5 ≤ y2.heap.size := by have := HWS.out; omega
  clear hs2 HWS
  have k1 := t1.fst
  have k2 := t2.fst
  have k3 := t9.fst
  have k4 := t9.snd
  have k5 := t10.fst
  have k6 := t10.snd
  rw [hX] at k1 k2 k3 k4 k5 k6
  go_wp2_with fail
  rw [← hX]
  rw [← hX] at k1 k2 k3 k4 k5 k6
  have HX := Lib.hid hX
  clear hX V2
  have VX : ∀ V, Below X.heap.size X V → Hid (Calls Tryd.prog 51 #[.bool true, .slice Q mq dq] V fun e w' => e = .returned (.agg #[.bool rq, .slice Q mq dq]) ∧ Below X.heap.size X w') := fun V hb => Lib.hid (((VQ V Q dq (bq.below hb)).out).mono fun e w' ⟨he, hw⟩ => ⟨he, below_then hb hw⟩)
  clear VQ
  go_region_held3 (fun V => V.cell? ⟨w.heap.size, 0, none⟩ = some (.bool true) ∧ V.cell? ⟨w.heap.size + 1, 0, none⟩ = some (.bool false) ∧ V.cell? ⟨y2.heap.size, 0, none⟩ = some (.bool rr) ∧ V.cell? ⟨y2.heap.size, 1, none⟩ = some (.slice R 0 dr) ∧ V.cell? ⟨y2.heap.size + 1, 0, none⟩ = some (.bool rr) ∧ V.cell? ⟨y2.heap.size + 1, 1, none⟩ = some (.slice R 0 dr)) (first | with_reducible exact ⟨x1w, x2w, x3w, x4w, x5w, x6w⟩ | with_reducible exact ⟨x1v, x2v, x3v, x4v, x5v, x6v⟩ | with_reducible exact ⟨x1u, x2u, x3u, x4u, x5u, x6u⟩ | with_reducible exact ⟨x1s, x2s, x3s, x4s, x5s, x6s⟩ | exact ⟨k1, k2, k3, k4, k5, k6⟩ | go_keep)
    (first | (go_at_call 51; refine ((VX _ (by first | exact Below.refl _ _ | exact Below.drew (Below.refl _ _))).out).mono ?_; rintro e y4 ⟨rfl, b4⟩; have a1 := t1.below' b4; have a2 := t2.below' b4; have a3 := t3.below' b4; have a4 := t4.below' b4; have a5 := t5.below' b4; have a9 := t9.below' b4; have a10 := t10.below' b4; have x1s := a1.fst; have x2s := a2.fst; have x3s := a9.fst; have x4s := a9.snd; have x5s := a10.fst; have x6s := a10.snd; have fa := a3.free 0; have fb := a3.free 1; have fa' := a3.fst; have fb' := a3.snd; have a1u := Two.far2 (b := w.heap.size + 2) (u' := .bool rq) (v' := .slice Q mq dq) a1 (by omega); have a2u := Two.far2 (b := w.heap.size + 2) (u' := .bool rq) (v' := .slice Q mq dq) a2 (by omega); have a4u := Two.far2 (b := w.heap.size + 2) (u' := .bool rq) (v' := .slice Q mq dq) a4 (by omega); have a5u := Two.far2 (b := w.heap.size + 2) (u' := .bool rq) (v' := .slice Q mq dq) a5 (by omega); have a9u := Two.far2 (b := w.heap.size + 2) (u' := .bool rq) (v' := .slice Q mq dq) a9 (by omega); have a10u := Two.far2 (b := w.heap.size + 2) (u' := .bool rq) (v' := .slice Q mq dq) a10 (by omega); have a3u := a3.set2 (a' := .bool rq) (b' := .slice Q mq dq); have x1u := a1u.fst; have x2u := a2u.fst; have x3u := a9u.fst; have x4u := a9u.snd; have x5u := a10u.fst; have x6u := a10u.snd; have fc := a4u.free 0; have fd := a4u.free 1; have fc' := a4u.fst; have fd' := a4u.snd; have a1v := Two.far2 (b := w.heap.size + 3) (u' := .bool rr) (v' := .slice R 0 dr) a1u (by omega); have a2v := Two.far2 (b := w.heap.size + 3) (u' := .bool rr) (v' := .slice R 0 dr) a2u (by omega); have a3v := Two.far2 (b := w.heap.size + 3) (u' := .bool rr) (v' := .slice R 0 dr) a3u (by omega); have a5v := Two.far2 (b := w.heap.size + 3) (u' := .bool rr) (v' := .slice R 0 dr) a5u (by omega); have a9v := Two.far2 (b := w.heap.size + 3) (u' := .bool rr) (v' := .slice R 0 dr) a9u (by omega); have a10v := Two.far2 (b := w.heap.size + 3) (u' := .bool rr) (v' := .slice R 0 dr) a10u (by omega); have a4v := a4u.set2 (a' := .bool rr) (b' := .slice R 0 dr); have x1v := a1v.fst; have x2v := a2v.fst; have x3v := a9v.fst; have x4v := a9v.snd; have x5v := a10v.fst; have x6v := a10v.snd; have fe := a5v.free 0; have ff := a5v.free 1; have fe' := a5v.fst; have ff' := a5v.snd; have a1w := Two.far2 (b := w.heap.size + 4) (u' := .bool rr) (v' := .slice R 0 dr) a1v (by omega); have a2w := Two.far2 (b := w.heap.size + 4) (u' := .bool rr) (v' := .slice R 0 dr) a2v (by omega); have a3w := Two.far2 (b := w.heap.size + 4) (u' := .bool rr) (v' := .slice R 0 dr) a3v (by omega); have a4w := Two.far2 (b := w.heap.size + 4) (u' := .bool rr) (v' := .slice R 0 dr) a4v (by omega); have a9w := Two.far2 (b := w.heap.size + 4) (u' := .bool rr) (v' := .slice R 0 dr) a9v (by omega); have a10w := Two.far2 (b := w.heap.size + 4) (u' := .bool rr) (v' := .slice R 0 dr) a10v (by omega); have a5w := a5v.set2 (a' := .bool rr) (b' := .slice R 0 dr); have x1w := a1w.fst; have x2w := a2w.fst; have x3w := a9w.fst; have x4w := a9w.snd; have x5w := a10w.fst; have x6w := a10w.snd))
  all_goals
    go_wp2
    have g0 := a3w.fst
    have g1 := a3w.snd
    have g2 := a4w.fst
    have g3 := a4w.snd
    have g4 := a5w.fst
    have g5 := a5w.snd
    replace bq := (((bq.below b4).put2 a3 (u := .bool rq) (v := .slice Q mq dq)).put2 a4u (u := .bool rr) (v := .slice R 0 dr)).put2 a5v (u := .bool rr) (v := .slice R 0 dr)
    replace br := (((br.below b4).put2 a3 (u := .bool rq) (v := .slice Q mq dq)).put2 a4u (u := .bool rr) (v := .slice R 0 dr)).put2 a5v (u := .bool rr) (v := .slice R 0 dr)
    exact bodyPost_ret (v := .tuple #[.agg #[.bool rq, .slice Q mq dq], .agg #[.bool rr, .slice R 0 dr], .agg #[.bool rr, .slice R 0 dr]]) (by simp [results, Tryd.results43, go_sem, g0, g1, g2, g3, g4, g5]) rfl
      ⟨rq, Q, mq, dq, rr, R, 0, dr, rr, R, 0, dr, rfl, XQ.out _ Q dq bq, XR.out _ R dr br, by rw [ZM.out]; exact XR.out _ R dr br, below_two (below_two (below_two (below_then hbW b4) (by omega)) (by omega)) (by omega)⟩
set_option maxHeartbeats 6400000 in
theorem refdivide_Ntf (A1 A2 : Option Addr) (m1 c1 m2 c2 : Nat) (x y : Int) (w : World) (h1 : BVal w true A1 m1 c1 x) (h2 : BVal w false A2 m2 c2 y) (l1 : m1 ≤ 10000) (l2 : m2 ≤ 10000) (hy : y ≠ 0) (h0 : 0 < x.natAbs % y.natAbs) :
    Calls Tryd.prog 43 #[.agg #[.bool true, .slice A1 m1 c1], .agg #[.bool false, .slice A2 m2 c2]] w fun e w' => Three w w' e x y := by
  obtain ⟨W, hW⟩ : ∃ W, W = ((((w.alloc (.cells #[.bool true, .slice A1 m1 c1] 30)).alloc (.cells #[.bool false, .slice A2 m2 c2] 30)).alloc (.cells #[.bool false, .slice none 0 0] 30)).alloc (.cells #[.bool false, .slice none 0 0] 30)).alloc (.cells #[.bool false, .slice none 0 0] 30) := ⟨_, rfl⟩
  obtain ⟨t1, t2, t3, t4, t5, hbW, hWs⟩ := boxes5 w _ _ _ _ W hW
  have B1 := h1.2.2.below hbW
  have B2 := h2.2.2.below hbW
  have V2 := h2.below hbW
  have M1 := h1.2.1
  have M2 := h2.2.1
  have s1 := h1.sg
  have s2 := h2.sg
  have hy0 : 0 < y.natAbs := by omega
  obtain ⟨q, hq⟩ : ∃ q, q = x.natAbs / y.natAbs := ⟨_, rfl⟩
  obtain ⟨r, hr⟩ : ∃ r, r = x.natAbs % y.natAbs := ⟨_, rfl⟩
  have zq : sg true q = Int.tdiv x y := by
    have := sg_quo true false x.natAbs y.natAbs
    rw [s1, s2, ← hq, show ((true : Bool) == false) = false from rfl] at this
    exact this
  have zr : sg true r = Int.tmod x y := by
    have := sg_rem true false x.natAbs y.natAbs
    rw [s1, s2, ← hr] at this
    exact this
  have zm : Int.fmod x y = Int.tmod x y + y := fmod_other s1 s2 (by omega) hy
  obtain ⟨mq, hmq⟩ : ∃ mq, mq = bl q := ⟨_, rfl⟩
  obtain ⟨mr, hmr⟩ : ∃ mr, mr = bl r := ⟨_, rfl⟩
  obtain ⟨rq, hrq⟩ : ∃ rq, rq = decide (Int.tdiv x y < 0) := ⟨_, rfl⟩
  obtain ⟨rr, hrr⟩ : ∃ rr, rr = decide (Int.tmod x y < 0) := ⟨_, rfl⟩
  have PT : ∀ V, Below W.heap.size W V → Hid (Calls Tryd.prog 64 #[.slice A1 m1 c1, .slice A2 m2 c2] V fun e w' => ∃ Q d R c, e = .returned (.tuple #[.slice Q mq d, .slice R mr c]) ∧ Bit w' Q mq d q ∧ Bit w' R mr c r ∧ Below W.heap.size W w') := fun V hb => Lib.hid (by
    subst M2
    rw [hmq, hmr, hq, hr]
    exact (partsB A1 A2 m1 c1 c2 _ _ V (B1.below hb) (B2.below hb) (by omega) l1 l2).mono fun e w' hh => by
      obtain ⟨Q, d, R, c, he, bq, br, _, _, hw⟩ := hh
      exact ⟨Q, d, R, c, he, bq, br, below_then hb hw⟩)
  have lq : mq ≤ 10000 := by rw [hmq, hq]; exact Nat.le_trans (bl_mono (Nat.div_le_self _ _)) (by omega)
  have lr : mr ≤ 10000 := by rw [hmr, hr]; exact Nat.le_trans (bl_mono (Nat.mod_le _ _)) (by omega)
  have VR : ∀ V R c, Bit V R mr c r → Hid (Calls Tryd.prog 51 #[.bool true, .slice R mr c] V fun e w' => e = .returned (.agg #[.bool rr, .slice R mr c]) ∧ Below V.heap.size V w') := fun V R c hB => Lib.hid ((value_any true R mr c r V hB (by omega)).mono fun e w' ⟨he, hw⟩ => ⟨by rw [he, signB_sg zr, ← hrr, ← hmr], hw⟩)
  have VQ : ∀ V Q c, Bit V Q mq c q → Hid (Calls Tryd.prog 51 #[.bool true, .slice Q mq c] V fun e w' => e = .returned (.agg #[.bool rq, .slice Q mq c]) ∧ Below V.heap.size V w') := fun V Q c hB => Lib.hid ((value_any true Q mq c q V hB (by omega)).mono fun e w' ⟨he, hw⟩ => ⟨by rw [he, signB_sg zq, ← hrq, ← hmq], hw⟩)
  have XQ : ∀ V Q c, Bit V Q mq c q → BVal V rq Q mq c (Int.tdiv x y) := fun V Q c h => by
    have e := sg_abs zq
    exact ⟨hrq, by rw [← e]; exact hmq, by rw [← e]; exact h⟩
  have XR : ∀ V R c, Bit V R mr c r → BVal V rr R mr c (Int.tmod x y) := fun V R c h => by
    have e := sg_abs zr
    exact ⟨hrr, by rw [← e]; exact hmr, by rw [← e]; exact h⟩
  have hmr0 : 0 < mr := by rw [hmr]; exact bl_pos (by omega)
  have XQ := Lib.hid XQ
  have XR := Lib.hid XR
  have ZM := Lib.hid zm
  have k1 := t1.snd
  have k2 := t2.snd
  clear hq hr zq zr zm hmr hrq hrr hmq s1 s2 M1 M2 h1 h2 B1 B2 h0 hy0 hy
  go_enter Tryd.func43, Tryd.ntmps43
  go_wp2_with fail
  rw [← hW]
  have HW := Lib.hid hW
  have HWS := Lib.hid hWs
  clear hW hWs
  refine ((PT _ (Below.refl _ _)).out).mono ?_
  rintro e y1 ⟨Q, dq, R, dr, rfl, bq, br, b1⟩
  clear k1 k2 PT
  have k1 := (t1.below' b1).fst
  go_wp2_with fail
  refine ((VR _ R dr br).out).mono ?_
  rintro e y2 ⟨rfl, b2⟩
  replace bq := bq.below b2
  replace br := br.below b2
  replace b2 := below_then b1 b2
  clear k1 b1 VR
  obtain ⟨X, hX⟩ : ∃ X, X = (y2.alloc (.cells #[.bool rr, .slice R mr dr] 30)).alloc (.cells #[.bool rr, .slice R mr dr] 30) := ⟨_, rfl⟩
  have hbX : Below y2.heap.size y2 X := by rw [hX]; exact below_al (below_al (Below.refl _ _) _) _
  have t9 : Two X y2.heap.size 30 (.bool rr) (.slice R mr dr) := by rw [hX]; exact (Two.made y2 30 _ _).alloc _
  have t10 : Two X (y2.heap.size + 1) 30 (.bool rr) (.slice R mr dr) := by
    rw [hX]
    have := Two.made (y2.alloc (.cells #[.bool rr, .slice R mr dr] 30)) 30 (.bool rr) (.slice R mr dr)
    simpa using this
  have hs2 := b2.size
  replace t1 := (t1.below' b2).below' hbX
  replace t2 := (t2.below' b2).below' hbX
  replace t3 := (t3.below' b2).below' hbX
  replace t4 := (t4.below' b2).below' hbX
  replace t5 := (t5.below' b2).below' hbX
  replace bq := bq.below hbX
  replace br := br.below hbX
  replace V2 := V2.below b2
  replace V2 := V2.below hbX
  replace hbW := below_then hbW (below_then b2 hbX)
  clear b2 hbX
  have hz : w.heap.size + 5 ≤ y2.heap.size := by have := HWS.out; omega
  clear hs2 HWS
  have k1 := t1.fst
  have k2 := t2.fst
  have k3 := t9.fst
  have k4 := t9.snd
  have k5 := t10.fst
  have k6 := t10.snd
  rw [hX] at k1 k2 k3 k4 k5 k6
  have j1 := t2.snd
  rw [hX] at j1
  go_wp2_with fail
  rw [← hX]
  have HX := Lib.hid hX
  clear hX
  refine (refadd_at X (XR.out X R dr br) V2 (by omega) (by omega)).mono ?_
  rintro e y3 ⟨rm, M, mm, dm, rfl, vm, b3⟩
  rw [← ZM.out] at vm
  replace t1 := t1.below' b3
  replace t2 := t2.below' b3
  replace t3 := t3.below' b3
  replace t4 := t4.below' b3
  replace t5 := t5.below' b3
  replace t9 := t9.below' b3
  replace t10 := t10.below' b3
  replace bq := bq.below b3
  replace br := br.below b3
  replace hbW := below_then hbW b3
  clear k1 k2 k3 k4 k5 k6 j1 V2 b3
  have f3 := t10.fst
  have f4 := t10.snd
  have f1 := t10.free 0
  have f2 := t10.free 1
  obtain ⟨Y, hY⟩ : ∃ Y, Y = (y3.setCell ⟨y2.heap.size + 1, 0, none⟩ (.bool rm)).setCell ⟨y2.heap.size + 1, 1, none⟩ (.slice M mm dm) := ⟨_, rfl⟩
  have u10 : Two Y (y2.heap.size + 1) 30 (.bool rm) (.slice M mm dm) := by rw [hY]; exact t10.set2
  replace bq : Bit Y Q mq dq q := by rw [hY]; exact bq.put2 t10
  replace br : Bit Y R mr dr r := by rw [hY]; exact br.put2 t10
  replace vm : BVal Y rm M mm dm (Int.fmod x y) := by rw [hY]; exact vm.put2 t10
  replace hbW : Below w.heap.size w Y := by rw [hY]; exact below_two hbW (by omega)
  replace t1 : Two Y w.heap.size 30 (.bool true) (.slice A1 m1 c1) := by rw [hY]; exact t1.far2 (by omega)
  replace t2 : Two Y (w.heap.size + 1) 30 (.bool false) (.slice A2 m2 c2) := by rw [hY]; exact t2.far2 (by omega)
  replace t3 : Two Y (w.heap.size + 2) 30 (.bool false) (.slice none 0 0) := by rw [hY]; exact t3.far2 (by omega)
  replace t4 : Two Y (w.heap.size + 3) 30 (.bool false) (.slice none 0 0) := by rw [hY]; exact t4.far2 (by omega)
  replace t5 : Two Y (w.heap.size + 4) 30 (.bool false) (.slice none 0 0) := by rw [hY]; exact t5.far2 (by omega)
  replace t9 : Two Y y2.heap.size 30 (.bool rr) (.slice R mr dr) := by rw [hY]; exact t9.far2 (by omega)
  clear t10
  have k1 := t1.fst
  have k2 := t2.fst
  have k3 := t9.fst
  have k4 := t9.snd
  have k5 := u10.fst
  have k6 := u10.snd
  rw [hY] at k1 k2 k3 k4 k5 k6
  go_wp2_with fail
  rw [← hY]
  rw [← hY] at k1 k2 k3 k4 k5 k6
  have HY := Lib.hid hY
  clear hY f1 f2 f3 f4
  have VX : ∀ V, Below Y.heap.size Y V → Hid (Calls Tryd.prog 51 #[.bool true, .slice Q mq dq] V fun e w' => e = .returned (.agg #[.bool rq, .slice Q mq dq]) ∧ Below Y.heap.size Y w') := fun V hb => Lib.hid (((VQ V Q dq (bq.below hb)).out).mono fun e w' ⟨he, hw⟩ => ⟨he, below_then hb hw⟩)
  clear VQ
  go_region_held3 (fun V => V.cell? ⟨w.heap.size, 0, none⟩ = some (.bool true) ∧ V.cell? ⟨w.heap.size + 1, 0, none⟩ = some (.bool false) ∧ V.cell? ⟨y2.heap.size, 0, none⟩ = some (.bool rr) ∧ V.cell? ⟨y2.heap.size, 1, none⟩ = some (.slice R mr dr) ∧ V.cell? ⟨y2.heap.size + 1, 0, none⟩ = some (.bool rm) ∧ V.cell? ⟨y2.heap.size + 1, 1, none⟩ = some (.slice M mm dm)) (first | with_reducible exact ⟨x1w, x2w, x3w, x4w, x5w, x6w⟩ | with_reducible exact ⟨x1v, x2v, x3v, x4v, x5v, x6v⟩ | with_reducible exact ⟨x1u, x2u, x3u, x4u, x5u, x6u⟩ | with_reducible exact ⟨x1s, x2s, x3s, x4s, x5s, x6s⟩ | exact ⟨k1, k2, k3, k4, k5, k6⟩ | go_keep)
    (first | (go_at_call 51; refine ((VX _ (by first | exact Below.refl _ _ | exact Below.drew (Below.refl _ _))).out).mono ?_; rintro e y4 ⟨rfl, b4⟩; have a1 := t1.below' b4; have a2 := t2.below' b4; have a3 := t3.below' b4; have a4 := t4.below' b4; have a5 := t5.below' b4; have a9 := t9.below' b4; have a10 := u10.below' b4; have x1s := a1.fst; have x2s := a2.fst; have x3s := a9.fst; have x4s := a9.snd; have x5s := a10.fst; have x6s := a10.snd; have fa := a3.free 0; have fb := a3.free 1; have fa' := a3.fst; have fb' := a3.snd; have a1u := Two.far2 (b := w.heap.size + 2) (u' := .bool rq) (v' := .slice Q mq dq) a1 (by omega); have a2u := Two.far2 (b := w.heap.size + 2) (u' := .bool rq) (v' := .slice Q mq dq) a2 (by omega); have a4u := Two.far2 (b := w.heap.size + 2) (u' := .bool rq) (v' := .slice Q mq dq) a4 (by omega); have a5u := Two.far2 (b := w.heap.size + 2) (u' := .bool rq) (v' := .slice Q mq dq) a5 (by omega); have a9u := Two.far2 (b := w.heap.size + 2) (u' := .bool rq) (v' := .slice Q mq dq) a9 (by omega); have a10u := Two.far2 (b := w.heap.size + 2) (u' := .bool rq) (v' := .slice Q mq dq) a10 (by omega); have a3u := a3.set2 (a' := .bool rq) (b' := .slice Q mq dq); have x1u := a1u.fst; have x2u := a2u.fst; have x3u := a9u.fst; have x4u := a9u.snd; have x5u := a10u.fst; have x6u := a10u.snd; have fc := a4u.free 0; have fd := a4u.free 1; have fc' := a4u.fst; have fd' := a4u.snd; have a1v := Two.far2 (b := w.heap.size + 3) (u' := .bool rr) (v' := .slice R mr dr) a1u (by omega); have a2v := Two.far2 (b := w.heap.size + 3) (u' := .bool rr) (v' := .slice R mr dr) a2u (by omega); have a3v := Two.far2 (b := w.heap.size + 3) (u' := .bool rr) (v' := .slice R mr dr) a3u (by omega); have a5v := Two.far2 (b := w.heap.size + 3) (u' := .bool rr) (v' := .slice R mr dr) a5u (by omega); have a9v := Two.far2 (b := w.heap.size + 3) (u' := .bool rr) (v' := .slice R mr dr) a9u (by omega); have a10v := Two.far2 (b := w.heap.size + 3) (u' := .bool rr) (v' := .slice R mr dr) a10u (by omega); have a4v := a4u.set2 (a' := .bool rr) (b' := .slice R mr dr); have x1v := a1v.fst; have x2v := a2v.fst; have x3v := a9v.fst; have x4v := a9v.snd; have x5v := a10v.fst; have x6v := a10v.snd; have fe := a5v.free 0; have ff := a5v.free 1; have fe' := a5v.fst; have ff' := a5v.snd; have a1w := Two.far2 (b := w.heap.size + 4) (u' := .bool rm) (v' := .slice M mm dm) a1v (by omega); have a2w := Two.far2 (b := w.heap.size + 4) (u' := .bool rm) (v' := .slice M mm dm) a2v (by omega); have a3w := Two.far2 (b := w.heap.size + 4) (u' := .bool rm) (v' := .slice M mm dm) a3v (by omega); have a4w := Two.far2 (b := w.heap.size + 4) (u' := .bool rm) (v' := .slice M mm dm) a4v (by omega); have a9w := Two.far2 (b := w.heap.size + 4) (u' := .bool rm) (v' := .slice M mm dm) a9v (by omega); have a10w := Two.far2 (b := w.heap.size + 4) (u' := .bool rm) (v' := .slice M mm dm) a10v (by omega); have a5w := a5v.set2 (a' := .bool rm) (b' := .slice M mm dm); have x1w := a1w.fst; have x2w := a2w.fst; have x3w := a9w.fst; have x4w := a9w.snd; have x5w := a10w.fst; have x6w := a10w.snd))
  all_goals
    go_wp2
    have g0 := a3w.fst
    have g1 := a3w.snd
    have g2 := a4w.fst
    have g3 := a4w.snd
    have g4 := a5w.fst
    have g5 := a5w.snd
    replace bq := (((bq.below b4).put2 a3 (u := .bool rq) (v := .slice Q mq dq)).put2 a4u (u := .bool rr) (v := .slice R mr dr)).put2 a5v (u := .bool rm) (v := .slice M mm dm)
    replace br := (((br.below b4).put2 a3 (u := .bool rq) (v := .slice Q mq dq)).put2 a4u (u := .bool rr) (v := .slice R mr dr)).put2 a5v (u := .bool rm) (v := .slice M mm dm)
    replace vm := (((vm.below b4).put2 a3 (u := .bool rq) (v := .slice Q mq dq)).put2 a4u (u := .bool rr) (v := .slice R mr dr)).put2 a5v (u := .bool rm) (v := .slice M mm dm)
    exact bodyPost_ret (v := .tuple #[.agg #[.bool rq, .slice Q mq dq], .agg #[.bool rr, .slice R mr dr], .agg #[.bool rm, .slice M mm dm]]) (by simp [results, Tryd.results43, go_sem, g0, g1, g2, g3, g4, g5]) rfl
      ⟨rq, Q, mq, dq, rr, R, mr, dr, rm, M, mm, dm, rfl, XQ.out _ Q dq bq, XR.out _ R dr br, vm, below_two (below_two (below_two (below_then hbW b4) (by omega)) (by omega)) (by omega)⟩
set_option maxHeartbeats 6400000 in
theorem refdivide_Aft (A1 A2 : Option Addr) (m1 c1 m2 c2 : Nat) (x y : Int) (w : World) (h1 : BVal w false A1 m1 c1 x) (h2 : BVal w true A2 m2 c2 y) (l1 : m1 ≤ 10000) (l2 : m2 ≤ 10000) (hy : y ≠ 0) (h0 : x.natAbs % y.natAbs = 0) :
    Calls Tryd.prog 43 #[.agg #[.bool false, .slice A1 m1 c1], .agg #[.bool true, .slice A2 m2 c2]] w fun e w' => Three w w' e x y := by
  obtain ⟨W, hW⟩ : ∃ W, W = ((((w.alloc (.cells #[.bool false, .slice A1 m1 c1] 30)).alloc (.cells #[.bool true, .slice A2 m2 c2] 30)).alloc (.cells #[.bool false, .slice none 0 0] 30)).alloc (.cells #[.bool false, .slice none 0 0] 30)).alloc (.cells #[.bool false, .slice none 0 0] 30) := ⟨_, rfl⟩
  obtain ⟨t1, t2, t3, t4, t5, hbW, hWs⟩ := boxes5 w _ _ _ _ W hW
  have B1 := h1.2.2.below hbW
  have B2 := h2.2.2.below hbW
  have V2 := h2.below hbW
  have M1 := h1.2.1
  have M2 := h2.2.1
  have s1 := h1.sg
  have s2 := h2.sg
  have hy0 : 0 < y.natAbs := by omega
  obtain ⟨q, hq⟩ : ∃ q, q = x.natAbs / y.natAbs := ⟨_, rfl⟩
  obtain ⟨r, hr⟩ : ∃ r, r = x.natAbs % y.natAbs := ⟨_, rfl⟩
  have zq : sg true q = Int.tdiv x y := by
    have := sg_quo false true x.natAbs y.natAbs
    rw [s1, s2, ← hq, show ((false : Bool) == true) = false from rfl] at this
    exact this
  have zr : sg false r = Int.tmod x y := by
    have := sg_rem false true x.natAbs y.natAbs
    rw [s1, s2, ← hr] at this
    exact this
  have zm : Int.fmod x y = Int.tmod x y := fmod_none h0
  obtain ⟨mq, hmq⟩ : ∃ mq, mq = bl q := ⟨_, rfl⟩
  obtain ⟨mr, hmr⟩ : ∃ mr, mr = bl r := ⟨_, rfl⟩
  obtain ⟨rq, hrq⟩ : ∃ rq, rq = decide (Int.tdiv x y < 0) := ⟨_, rfl⟩
  obtain ⟨rr, hrr⟩ : ∃ rr, rr = decide (Int.tmod x y < 0) := ⟨_, rfl⟩
  have PT : ∀ V, Below W.heap.size W V → Hid (Calls Tryd.prog 64 #[.slice A1 m1 c1, .slice A2 m2 c2] V fun e w' => ∃ Q d R c, e = .returned (.tuple #[.slice Q mq d, .slice R mr c]) ∧ Bit w' Q mq d q ∧ Bit w' R mr c r ∧ Below W.heap.size W w') := fun V hb => Lib.hid (by
    subst M2
    rw [hmq, hmr, hq, hr]
    exact (partsB A1 A2 m1 c1 c2 _ _ V (B1.below hb) (B2.below hb) (by omega) l1 l2).mono fun e w' hh => by
      obtain ⟨Q, d, R, c, he, bq, br, _, _, hw⟩ := hh
      exact ⟨Q, d, R, c, he, bq, br, below_then hb hw⟩)
  have lq : mq ≤ 10000 := by rw [hmq, hq]; exact Nat.le_trans (bl_mono (Nat.div_le_self _ _)) (by omega)
  have lr : mr ≤ 10000 := by rw [hmr, hr]; exact Nat.le_trans (bl_mono (Nat.mod_le _ _)) (by omega)
  have VR : ∀ V R c, Bit V R mr c r → Hid (Calls Tryd.prog 51 #[.bool false, .slice R mr c] V fun e w' => e = .returned (.agg #[.bool rr, .slice R mr c]) ∧ Below V.heap.size V w') := fun V R c hB => Lib.hid ((value_any false R mr c r V hB (by omega)).mono fun e w' ⟨he, hw⟩ => ⟨by rw [he, signB_sg zr, ← hrr, ← hmr], hw⟩)
  have VQ : ∀ V Q c, Bit V Q mq c q → Hid (Calls Tryd.prog 51 #[.bool true, .slice Q mq c] V fun e w' => e = .returned (.agg #[.bool rq, .slice Q mq c]) ∧ Below V.heap.size V w') := fun V Q c hB => Lib.hid ((value_any true Q mq c q V hB (by omega)).mono fun e w' ⟨he, hw⟩ => ⟨by rw [he, signB_sg zq, ← hrq, ← hmq], hw⟩)
  have XQ : ∀ V Q c, Bit V Q mq c q → BVal V rq Q mq c (Int.tdiv x y) := fun V Q c h => by
    have e := sg_abs zq
    exact ⟨hrq, by rw [← e]; exact hmq, by rw [← e]; exact h⟩
  have XR : ∀ V R c, Bit V R mr c r → BVal V rr R mr c (Int.tmod x y) := fun V R c h => by
    have e := sg_abs zr
    exact ⟨hrr, by rw [← e]; exact hmr, by rw [← e]; exact h⟩
  have hmr0 : mr = 0 := by rw [hmr, hr, h0, bl_zero]
  have XQ := Lib.hid XQ
  have XR := Lib.hid XR
  have ZM := Lib.hid zm
  have k1 := t1.snd
  have k2 := t2.snd
  clear hq hr zq zr zm hmr hrq hrr hmq s1 s2 M1 M2 h1 h2 B1 B2 h0 hy0 hy
  subst hmr0
  go_enter Tryd.func43, Tryd.ntmps43
  go_wp2_with fail
  rw [← hW]
  have HW := Lib.hid hW
  have HWS := Lib.hid hWs
  clear hW hWs
  refine ((PT _ (Below.refl _ _)).out).mono ?_
  rintro e y1 ⟨Q, dq, R, dr, rfl, bq, br, b1⟩
  clear k1 k2 PT
  have k1 := (t1.below' b1).fst
  go_wp2_with fail
  refine ((VR _ R dr br).out).mono ?_
  rintro e y2 ⟨rfl, b2⟩
  replace bq := bq.below b2
  replace br := br.below b2
  replace b2 := below_then b1 b2
  clear k1 b1 VR
  obtain ⟨X, hX⟩ : ∃ X, X = (y2.alloc (.cells #[.bool rr, .slice R 0 dr] 30)).alloc (.cells #[.bool rr, .slice R 0 dr] 30) := ⟨_, rfl⟩
  have hbX : Below y2.heap.size y2 X := by rw [hX]; exact below_al (below_al (Below.refl _ _) _) _
  have t9 : Two X y2.heap.size 30 (.bool rr) (.slice R 0 dr) := by rw [hX]; exact (Two.made y2 30 _ _).alloc _
  have t10 : Two X (y2.heap.size + 1) 30 (.bool rr) (.slice R 0 dr) := by
    rw [hX]
    have := Two.made (y2.alloc (.cells #[.bool rr, .slice R 0 dr] 30)) 30 (.bool rr) (.slice R 0 dr)
    simpa using this
  have hs2 := b2.size
  replace t1 := (t1.below' b2).below' hbX
  replace t2 := (t2.below' b2).below' hbX
  replace t3 := (t3.below' b2).below' hbX
  replace t4 := (t4.below' b2).below' hbX
  replace t5 := (t5.below' b2).below' hbX
  replace bq := bq.below hbX
  replace br := br.below hbX
  replace V2 := V2.below b2
  replace V2 := V2.below hbX
  replace hbW := below_then hbW (below_then b2 hbX)
  clear b2 hbX
  have hz : w.heap.size + 5 ≤ y2.heap.size := by have := HWS.out; omega
  clear hs2 HWS
  have k1 := t1.fst
  have k2 := t2.fst
  have k3 := t9.fst
  have k4 := t9.snd
  have k5 := t10.fst
  have k6 := t10.snd
  rw [hX] at k1 k2 k3 k4 k5 k6
  go_wp2_with fail
  rw [← hX]
  rw [← hX] at k1 k2 k3 k4 k5 k6
  have HX := Lib.hid hX
  clear hX V2
  have VX : ∀ V, Below X.heap.size X V → Hid (Calls Tryd.prog 51 #[.bool true, .slice Q mq dq] V fun e w' => e = .returned (.agg #[.bool rq, .slice Q mq dq]) ∧ Below X.heap.size X w') := fun V hb => Lib.hid (((VQ V Q dq (bq.below hb)).out).mono fun e w' ⟨he, hw⟩ => ⟨he, below_then hb hw⟩)
  clear VQ
  go_region_held3 (fun V => V.cell? ⟨w.heap.size, 0, none⟩ = some (.bool false) ∧ V.cell? ⟨w.heap.size + 1, 0, none⟩ = some (.bool true) ∧ V.cell? ⟨y2.heap.size, 0, none⟩ = some (.bool rr) ∧ V.cell? ⟨y2.heap.size, 1, none⟩ = some (.slice R 0 dr) ∧ V.cell? ⟨y2.heap.size + 1, 0, none⟩ = some (.bool rr) ∧ V.cell? ⟨y2.heap.size + 1, 1, none⟩ = some (.slice R 0 dr)) (first | with_reducible exact ⟨x1w, x2w, x3w, x4w, x5w, x6w⟩ | with_reducible exact ⟨x1v, x2v, x3v, x4v, x5v, x6v⟩ | with_reducible exact ⟨x1u, x2u, x3u, x4u, x5u, x6u⟩ | with_reducible exact ⟨x1s, x2s, x3s, x4s, x5s, x6s⟩ | exact ⟨k1, k2, k3, k4, k5, k6⟩ | go_keep)
    (first | (go_at_call 51; refine ((VX _ (by first | exact Below.refl _ _ | exact Below.drew (Below.refl _ _))).out).mono ?_; rintro e y4 ⟨rfl, b4⟩; have a1 := t1.below' b4; have a2 := t2.below' b4; have a3 := t3.below' b4; have a4 := t4.below' b4; have a5 := t5.below' b4; have a9 := t9.below' b4; have a10 := t10.below' b4; have x1s := a1.fst; have x2s := a2.fst; have x3s := a9.fst; have x4s := a9.snd; have x5s := a10.fst; have x6s := a10.snd; have fa := a3.free 0; have fb := a3.free 1; have fa' := a3.fst; have fb' := a3.snd; have a1u := Two.far2 (b := w.heap.size + 2) (u' := .bool rq) (v' := .slice Q mq dq) a1 (by omega); have a2u := Two.far2 (b := w.heap.size + 2) (u' := .bool rq) (v' := .slice Q mq dq) a2 (by omega); have a4u := Two.far2 (b := w.heap.size + 2) (u' := .bool rq) (v' := .slice Q mq dq) a4 (by omega); have a5u := Two.far2 (b := w.heap.size + 2) (u' := .bool rq) (v' := .slice Q mq dq) a5 (by omega); have a9u := Two.far2 (b := w.heap.size + 2) (u' := .bool rq) (v' := .slice Q mq dq) a9 (by omega); have a10u := Two.far2 (b := w.heap.size + 2) (u' := .bool rq) (v' := .slice Q mq dq) a10 (by omega); have a3u := a3.set2 (a' := .bool rq) (b' := .slice Q mq dq); have x1u := a1u.fst; have x2u := a2u.fst; have x3u := a9u.fst; have x4u := a9u.snd; have x5u := a10u.fst; have x6u := a10u.snd; have fc := a4u.free 0; have fd := a4u.free 1; have fc' := a4u.fst; have fd' := a4u.snd; have a1v := Two.far2 (b := w.heap.size + 3) (u' := .bool rr) (v' := .slice R 0 dr) a1u (by omega); have a2v := Two.far2 (b := w.heap.size + 3) (u' := .bool rr) (v' := .slice R 0 dr) a2u (by omega); have a3v := Two.far2 (b := w.heap.size + 3) (u' := .bool rr) (v' := .slice R 0 dr) a3u (by omega); have a5v := Two.far2 (b := w.heap.size + 3) (u' := .bool rr) (v' := .slice R 0 dr) a5u (by omega); have a9v := Two.far2 (b := w.heap.size + 3) (u' := .bool rr) (v' := .slice R 0 dr) a9u (by omega); have a10v := Two.far2 (b := w.heap.size + 3) (u' := .bool rr) (v' := .slice R 0 dr) a10u (by omega); have a4v := a4u.set2 (a' := .bool rr) (b' := .slice R 0 dr); have x1v := a1v.fst; have x2v := a2v.fst; have x3v := a9v.fst; have x4v := a9v.snd; have x5v := a10v.fst; have x6v := a10v.snd; have fe := a5v.free 0; have ff := a5v.free 1; have fe' := a5v.fst; have ff' := a5v.snd; have a1w := Two.far2 (b := w.heap.size + 4) (u' := .bool rr) (v' := .slice R 0 dr) a1v (by omega); have a2w := Two.far2 (b := w.heap.size + 4) (u' := .bool rr) (v' := .slice R 0 dr) a2v (by omega); have a3w := Two.far2 (b := w.heap.size + 4) (u' := .bool rr) (v' := .slice R 0 dr) a3v (by omega); have a4w := Two.far2 (b := w.heap.size + 4) (u' := .bool rr) (v' := .slice R 0 dr) a4v (by omega); have a9w := Two.far2 (b := w.heap.size + 4) (u' := .bool rr) (v' := .slice R 0 dr) a9v (by omega); have a10w := Two.far2 (b := w.heap.size + 4) (u' := .bool rr) (v' := .slice R 0 dr) a10v (by omega); have a5w := a5v.set2 (a' := .bool rr) (b' := .slice R 0 dr); have x1w := a1w.fst; have x2w := a2w.fst; have x3w := a9w.fst; have x4w := a9w.snd; have x5w := a10w.fst; have x6w := a10w.snd))
  all_goals
    go_wp2
    have g0 := a3w.fst
    have g1 := a3w.snd
    have g2 := a4w.fst
    have g3 := a4w.snd
    have g4 := a5w.fst
    have g5 := a5w.snd
    replace bq := (((bq.below b4).put2 a3 (u := .bool rq) (v := .slice Q mq dq)).put2 a4u (u := .bool rr) (v := .slice R 0 dr)).put2 a5v (u := .bool rr) (v := .slice R 0 dr)
    replace br := (((br.below b4).put2 a3 (u := .bool rq) (v := .slice Q mq dq)).put2 a4u (u := .bool rr) (v := .slice R 0 dr)).put2 a5v (u := .bool rr) (v := .slice R 0 dr)
    exact bodyPost_ret (v := .tuple #[.agg #[.bool rq, .slice Q mq dq], .agg #[.bool rr, .slice R 0 dr], .agg #[.bool rr, .slice R 0 dr]]) (by simp [results, Tryd.results43, go_sem, g0, g1, g2, g3, g4, g5]) rfl
      ⟨rq, Q, mq, dq, rr, R, 0, dr, rr, R, 0, dr, rfl, XQ.out _ Q dq bq, XR.out _ R dr br, by rw [ZM.out]; exact XR.out _ R dr br, below_two (below_two (below_two (below_then hbW b4) (by omega)) (by omega)) (by omega)⟩
set_option maxHeartbeats 6400000 in
theorem refdivide_Nft (A1 A2 : Option Addr) (m1 c1 m2 c2 : Nat) (x y : Int) (w : World) (h1 : BVal w false A1 m1 c1 x) (h2 : BVal w true A2 m2 c2 y) (l1 : m1 ≤ 10000) (l2 : m2 ≤ 10000) (hy : y ≠ 0) (h0 : 0 < x.natAbs % y.natAbs) :
    Calls Tryd.prog 43 #[.agg #[.bool false, .slice A1 m1 c1], .agg #[.bool true, .slice A2 m2 c2]] w fun e w' => Three w w' e x y := by
  obtain ⟨W, hW⟩ : ∃ W, W = ((((w.alloc (.cells #[.bool false, .slice A1 m1 c1] 30)).alloc (.cells #[.bool true, .slice A2 m2 c2] 30)).alloc (.cells #[.bool false, .slice none 0 0] 30)).alloc (.cells #[.bool false, .slice none 0 0] 30)).alloc (.cells #[.bool false, .slice none 0 0] 30) := ⟨_, rfl⟩
  obtain ⟨t1, t2, t3, t4, t5, hbW, hWs⟩ := boxes5 w _ _ _ _ W hW
  have B1 := h1.2.2.below hbW
  have B2 := h2.2.2.below hbW
  have V2 := h2.below hbW
  have M1 := h1.2.1
  have M2 := h2.2.1
  have s1 := h1.sg
  have s2 := h2.sg
  have hy0 : 0 < y.natAbs := by omega
  obtain ⟨q, hq⟩ : ∃ q, q = x.natAbs / y.natAbs := ⟨_, rfl⟩
  obtain ⟨r, hr⟩ : ∃ r, r = x.natAbs % y.natAbs := ⟨_, rfl⟩
  have zq : sg true q = Int.tdiv x y := by
    have := sg_quo false true x.natAbs y.natAbs
    rw [s1, s2, ← hq, show ((false : Bool) == true) = false from rfl] at this
    exact this
  have zr : sg false r = Int.tmod x y := by
    have := sg_rem false true x.natAbs y.natAbs
    rw [s1, s2, ← hr] at this
    exact this
  have zm : Int.fmod x y = Int.tmod x y + y := fmod_other s1 s2 (by omega) hy
  obtain ⟨mq, hmq⟩ : ∃ mq, mq = bl q := ⟨_, rfl⟩
  obtain ⟨mr, hmr⟩ : ∃ mr, mr = bl r := ⟨_, rfl⟩
  obtain ⟨rq, hrq⟩ : ∃ rq, rq = decide (Int.tdiv x y < 0) := ⟨_, rfl⟩
  obtain ⟨rr, hrr⟩ : ∃ rr, rr = decide (Int.tmod x y < 0) := ⟨_, rfl⟩
  have PT : ∀ V, Below W.heap.size W V → Hid (Calls Tryd.prog 64 #[.slice A1 m1 c1, .slice A2 m2 c2] V fun e w' => ∃ Q d R c, e = .returned (.tuple #[.slice Q mq d, .slice R mr c]) ∧ Bit w' Q mq d q ∧ Bit w' R mr c r ∧ Below W.heap.size W w') := fun V hb => Lib.hid (by
    subst M2
    rw [hmq, hmr, hq, hr]
    exact (partsB A1 A2 m1 c1 c2 _ _ V (B1.below hb) (B2.below hb) (by omega) l1 l2).mono fun e w' hh => by
      obtain ⟨Q, d, R, c, he, bq, br, _, _, hw⟩ := hh
      exact ⟨Q, d, R, c, he, bq, br, below_then hb hw⟩)
  have lq : mq ≤ 10000 := by rw [hmq, hq]; exact Nat.le_trans (bl_mono (Nat.div_le_self _ _)) (by omega)
  have lr : mr ≤ 10000 := by rw [hmr, hr]; exact Nat.le_trans (bl_mono (Nat.mod_le _ _)) (by omega)
  have VR : ∀ V R c, Bit V R mr c r → Hid (Calls Tryd.prog 51 #[.bool false, .slice R mr c] V fun e w' => e = .returned (.agg #[.bool rr, .slice R mr c]) ∧ Below V.heap.size V w') := fun V R c hB => Lib.hid ((value_any false R mr c r V hB (by omega)).mono fun e w' ⟨he, hw⟩ => ⟨by rw [he, signB_sg zr, ← hrr, ← hmr], hw⟩)
  have VQ : ∀ V Q c, Bit V Q mq c q → Hid (Calls Tryd.prog 51 #[.bool true, .slice Q mq c] V fun e w' => e = .returned (.agg #[.bool rq, .slice Q mq c]) ∧ Below V.heap.size V w') := fun V Q c hB => Lib.hid ((value_any true Q mq c q V hB (by omega)).mono fun e w' ⟨he, hw⟩ => ⟨by rw [he, signB_sg zq, ← hrq, ← hmq], hw⟩)
  have XQ : ∀ V Q c, Bit V Q mq c q → BVal V rq Q mq c (Int.tdiv x y) := fun V Q c h => by
    have e := sg_abs zq
    exact ⟨hrq, by rw [← e]; exact hmq, by rw [← e]; exact h⟩
  have XR : ∀ V R c, Bit V R mr c r → BVal V rr R mr c (Int.tmod x y) := fun V R c h => by
    have e := sg_abs zr
    exact ⟨hrr, by rw [← e]; exact hmr, by rw [← e]; exact h⟩
  have hmr0 : 0 < mr := by rw [hmr]; exact bl_pos (by omega)
  have XQ := Lib.hid XQ
  have XR := Lib.hid XR
  have ZM := Lib.hid zm
  have k1 := t1.snd
  have k2 := t2.snd
  clear hq hr zq zr zm hmr hrq hrr hmq s1 s2 M1 M2 h1 h2 B1 B2 h0 hy0 hy
  go_enter Tryd.func43, Tryd.ntmps43
  go_wp2_with fail
  rw [← hW]
  have HW := Lib.hid hW
  have HWS := Lib.hid hWs
  clear hW hWs
  refine ((PT _ (Below.refl _ _)).out).mono ?_
  rintro e y1 ⟨Q, dq, R, dr, rfl, bq, br, b1⟩
  clear k1 k2 PT
  have k1 := (t1.below' b1).fst
  go_wp2_with fail
  refine ((VR _ R dr br).out).mono ?_
  rintro e y2 ⟨rfl, b2⟩
  replace bq := bq.below b2
  replace br := br.below b2
  replace b2 := below_then b1 b2
  clear k1 b1 VR
  obtain ⟨X, hX⟩ : ∃ X, X = (y2.alloc (.cells #[.bool rr, .slice R mr dr] 30)).alloc (.cells #[.bool rr, .slice R mr dr] 30) := ⟨_, rfl⟩
  have hbX : Below y2.heap.size y2 X := by rw [hX]; exact below_al (below_al (Below.refl _ _) _) _
  have t9 : Two X y2.heap.size 30 (.bool rr) (.slice R mr dr) := by rw [hX]; exact (Two.made y2 30 _ _).alloc _
  have t10 : Two X (y2.heap.size + 1) 30 (.bool rr) (.slice R mr dr) := by
    rw [hX]
    have := Two.made (y2.alloc (.cells #[.bool rr, .slice R mr dr] 30)) 30 (.bool rr) (.slice R mr dr)
    simpa using this
  have hs2 := b2.size
  replace t1 := (t1.below' b2).below' hbX
  replace t2 := (t2.below' b2).below' hbX
  replace t3 := (t3.below' b2).below' hbX
  replace t4 := (t4.below' b2).below' hbX
  replace t5 := (t5.below' b2).below' hbX
  replace bq := bq.below hbX
  replace br := br.below hbX
  replace V2 := V2.below b2
  replace V2 := V2.below hbX
  replace hbW := below_then hbW (below_then b2 hbX)
  clear b2 hbX
  have hz : w.heap.size + 5 ≤ y2.heap.size := by have := HWS.out; omega
  clear hs2 HWS
  have k1 := t1.fst
  have k2 := t2.fst
  have k3 := t9.fst
  have k4 := t9.snd
  have k5 := t10.fst
  have k6 := t10.snd
  rw [hX] at k1 k2 k3 k4 k5 k6
  have j1 := t2.snd
  rw [hX] at j1
  go_wp2_with fail
  rw [← hX]
  have HX := Lib.hid hX
  clear hX
  refine (refadd_at X (XR.out X R dr br) V2 (by omega) (by omega)).mono ?_
  rintro e y3 ⟨rm, M, mm, dm, rfl, vm, b3⟩
  rw [← ZM.out] at vm
  replace t1 := t1.below' b3
  replace t2 := t2.below' b3
  replace t3 := t3.below' b3
  replace t4 := t4.below' b3
  replace t5 := t5.below' b3
  replace t9 := t9.below' b3
  replace t10 := t10.below' b3
  replace bq := bq.below b3
  replace br := br.below b3
  replace hbW := below_then hbW b3
  clear k1 k2 k3 k4 k5 k6 j1 V2 b3
  have f3 := t10.fst
  have f4 := t10.snd
  have f1 := t10.free 0
  have f2 := t10.free 1
  obtain ⟨Y, hY⟩ : ∃ Y, Y = (y3.setCell ⟨y2.heap.size + 1, 0, none⟩ (.bool rm)).setCell ⟨y2.heap.size + 1, 1, none⟩ (.slice M mm dm) := ⟨_, rfl⟩
  have u10 : Two Y (y2.heap.size + 1) 30 (.bool rm) (.slice M mm dm) := by rw [hY]; exact t10.set2
  replace bq : Bit Y Q mq dq q := by rw [hY]; exact bq.put2 t10
  replace br : Bit Y R mr dr r := by rw [hY]; exact br.put2 t10
  replace vm : BVal Y rm M mm dm (Int.fmod x y) := by rw [hY]; exact vm.put2 t10
  replace hbW : Below w.heap.size w Y := by rw [hY]; exact below_two hbW (by omega)
  replace t1 : Two Y w.heap.size 30 (.bool false) (.slice A1 m1 c1) := by rw [hY]; exact t1.far2 (by omega)
  replace t2 : Two Y (w.heap.size + 1) 30 (.bool true) (.slice A2 m2 c2) := by rw [hY]; exact t2.far2 (by omega)
  replace t3 : Two Y (w.heap.size + 2) 30 (.bool false) (.slice none 0 0) := by rw [hY]; exact t3.far2 (by omega)
  replace t4 : Two Y (w.heap.size + 3) 30 (.bool false) (.slice none 0 0) := by rw [hY]; exact t4.far2 (by omega)
  replace t5 : Two Y (w.heap.size + 4) 30 (.bool false) (.slice none 0 0) := by rw [hY]; exact t5.far2 (by omega)
  replace t9 : Two Y y2.heap.size 30 (.bool rr) (.slice R mr dr) := by rw [hY]; exact t9.far2 (by omega)
  clear t10
  have k1 := t1.fst
  have k2 := t2.fst
  have k3 := t9.fst
  have k4 := t9.snd
  have k5 := u10.fst
  have k6 := u10.snd
  rw [hY] at k1 k2 k3 k4 k5 k6
  go_wp2_with fail
  rw [← hY]
  rw [← hY] at k1 k2 k3 k4 k5 k6
  have HY := Lib.hid hY
  clear hY f1 f2 f3 f4
  have VX : ∀ V, Below Y.heap.size Y V → Hid (Calls Tryd.prog 51 #[.bool true, .slice Q mq dq] V fun e w' => e = .returned (.agg #[.bool rq, .slice Q mq dq]) ∧ Below Y.heap.size Y w') := fun V hb => Lib.hid (((VQ V Q dq (bq.below hb)).out).mono fun e w' ⟨he, hw⟩ => ⟨he, below_then hb hw⟩)
  clear VQ
  go_region_held3 (fun V => V.cell? ⟨w.heap.size, 0, none⟩ = some (.bool false) ∧ V.cell? ⟨w.heap.size + 1, 0, none⟩ = some (.bool true) ∧ V.cell? ⟨y2.heap.size, 0, none⟩ = some (.bool rr) ∧ V.cell? ⟨y2.heap.size, 1, none⟩ = some (.slice R mr dr) ∧ V.cell? ⟨y2.heap.size + 1, 0, none⟩ = some (.bool rm) ∧ V.cell? ⟨y2.heap.size + 1, 1, none⟩ = some (.slice M mm dm)) (first | with_reducible exact ⟨x1w, x2w, x3w, x4w, x5w, x6w⟩ | with_reducible exact ⟨x1v, x2v, x3v, x4v, x5v, x6v⟩ | with_reducible exact ⟨x1u, x2u, x3u, x4u, x5u, x6u⟩ | with_reducible exact ⟨x1s, x2s, x3s, x4s, x5s, x6s⟩ | exact ⟨k1, k2, k3, k4, k5, k6⟩ | go_keep)
    (first | (go_at_call 51; refine ((VX _ (by first | exact Below.refl _ _ | exact Below.drew (Below.refl _ _))).out).mono ?_; rintro e y4 ⟨rfl, b4⟩; have a1 := t1.below' b4; have a2 := t2.below' b4; have a3 := t3.below' b4; have a4 := t4.below' b4; have a5 := t5.below' b4; have a9 := t9.below' b4; have a10 := u10.below' b4; have x1s := a1.fst; have x2s := a2.fst; have x3s := a9.fst; have x4s := a9.snd; have x5s := a10.fst; have x6s := a10.snd; have fa := a3.free 0; have fb := a3.free 1; have fa' := a3.fst; have fb' := a3.snd; have a1u := Two.far2 (b := w.heap.size + 2) (u' := .bool rq) (v' := .slice Q mq dq) a1 (by omega); have a2u := Two.far2 (b := w.heap.size + 2) (u' := .bool rq) (v' := .slice Q mq dq) a2 (by omega); have a4u := Two.far2 (b := w.heap.size + 2) (u' := .bool rq) (v' := .slice Q mq dq) a4 (by omega); have a5u := Two.far2 (b := w.heap.size + 2) (u' := .bool rq) (v' := .slice Q mq dq) a5 (by omega); have a9u := Two.far2 (b := w.heap.size + 2) (u' := .bool rq) (v' := .slice Q mq dq) a9 (by omega); have a10u := Two.far2 (b := w.heap.size + 2) (u' := .bool rq) (v' := .slice Q mq dq) a10 (by omega); have a3u := a3.set2 (a' := .bool rq) (b' := .slice Q mq dq); have x1u := a1u.fst; have x2u := a2u.fst; have x3u := a9u.fst; have x4u := a9u.snd; have x5u := a10u.fst; have x6u := a10u.snd; have fc := a4u.free 0; have fd := a4u.free 1; have fc' := a4u.fst; have fd' := a4u.snd; have a1v := Two.far2 (b := w.heap.size + 3) (u' := .bool rr) (v' := .slice R mr dr) a1u (by omega); have a2v := Two.far2 (b := w.heap.size + 3) (u' := .bool rr) (v' := .slice R mr dr) a2u (by omega); have a3v := Two.far2 (b := w.heap.size + 3) (u' := .bool rr) (v' := .slice R mr dr) a3u (by omega); have a5v := Two.far2 (b := w.heap.size + 3) (u' := .bool rr) (v' := .slice R mr dr) a5u (by omega); have a9v := Two.far2 (b := w.heap.size + 3) (u' := .bool rr) (v' := .slice R mr dr) a9u (by omega); have a10v := Two.far2 (b := w.heap.size + 3) (u' := .bool rr) (v' := .slice R mr dr) a10u (by omega); have a4v := a4u.set2 (a' := .bool rr) (b' := .slice R mr dr); have x1v := a1v.fst; have x2v := a2v.fst; have x3v := a9v.fst; have x4v := a9v.snd; have x5v := a10v.fst; have x6v := a10v.snd; have fe := a5v.free 0; have ff := a5v.free 1; have fe' := a5v.fst; have ff' := a5v.snd; have a1w := Two.far2 (b := w.heap.size + 4) (u' := .bool rm) (v' := .slice M mm dm) a1v (by omega); have a2w := Two.far2 (b := w.heap.size + 4) (u' := .bool rm) (v' := .slice M mm dm) a2v (by omega); have a3w := Two.far2 (b := w.heap.size + 4) (u' := .bool rm) (v' := .slice M mm dm) a3v (by omega); have a4w := Two.far2 (b := w.heap.size + 4) (u' := .bool rm) (v' := .slice M mm dm) a4v (by omega); have a9w := Two.far2 (b := w.heap.size + 4) (u' := .bool rm) (v' := .slice M mm dm) a9v (by omega); have a10w := Two.far2 (b := w.heap.size + 4) (u' := .bool rm) (v' := .slice M mm dm) a10v (by omega); have a5w := a5v.set2 (a' := .bool rm) (b' := .slice M mm dm); have x1w := a1w.fst; have x2w := a2w.fst; have x3w := a9w.fst; have x4w := a9w.snd; have x5w := a10w.fst; have x6w := a10w.snd))
  all_goals
    go_wp2
    have g0 := a3w.fst
    have g1 := a3w.snd
    have g2 := a4w.fst
    have g3 := a4w.snd
    have g4 := a5w.fst
    have g5 := a5w.snd
    replace bq := (((bq.below b4).put2 a3 (u := .bool rq) (v := .slice Q mq dq)).put2 a4u (u := .bool rr) (v := .slice R mr dr)).put2 a5v (u := .bool rm) (v := .slice M mm dm)
    replace br := (((br.below b4).put2 a3 (u := .bool rq) (v := .slice Q mq dq)).put2 a4u (u := .bool rr) (v := .slice R mr dr)).put2 a5v (u := .bool rm) (v := .slice M mm dm)
    replace vm := (((vm.below b4).put2 a3 (u := .bool rq) (v := .slice Q mq dq)).put2 a4u (u := .bool rr) (v := .slice R mr dr)).put2 a5v (u := .bool rm) (v := .slice M mm dm)
    exact bodyPost_ret (v := .tuple #[.agg #[.bool rq, .slice Q mq dq], .agg #[.bool rr, .slice R mr dr], .agg #[.bool rm, .slice M mm dm]]) (by simp [results, Tryd.results43, go_sem, g0, g1, g2, g3, g4, g5]) rfl
      ⟨rq, Q, mq, dq, rr, R, mr, dr, rm, M, mm, dm, rfl, XQ.out _ Q dq bq, XR.out _ R dr br, vm, below_two (below_two (below_two (below_then hbW b4) (by omega)) (by omega)) (by omega)⟩
set_option maxHeartbeats 6400000 in
theorem refdivide_Aff (A1 A2 : Option Addr) (m1 c1 m2 c2 : Nat) (x y : Int) (w : World) (h1 : BVal w false A1 m1 c1 x) (h2 : BVal w false A2 m2 c2 y) (l1 : m1 ≤ 10000) (l2 : m2 ≤ 10000) (hy : y ≠ 0) (h0 : x.natAbs % y.natAbs = 0) :
    Calls Tryd.prog 43 #[.agg #[.bool false, .slice A1 m1 c1], .agg #[.bool false, .slice A2 m2 c2]] w fun e w' => Three w w' e x y := by
  obtain ⟨W, hW⟩ : ∃ W, W = ((((w.alloc (.cells #[.bool false, .slice A1 m1 c1] 30)).alloc (.cells #[.bool false, .slice A2 m2 c2] 30)).alloc (.cells #[.bool false, .slice none 0 0] 30)).alloc (.cells #[.bool false, .slice none 0 0] 30)).alloc (.cells #[.bool false, .slice none 0 0] 30) := ⟨_, rfl⟩
  obtain ⟨t1, t2, t3, t4, t5, hbW, hWs⟩ := boxes5 w _ _ _ _ W hW
  have B1 := h1.2.2.below hbW
  have B2 := h2.2.2.below hbW
  have V2 := h2.below hbW
  have M1 := h1.2.1
  have M2 := h2.2.1
  have s1 := h1.sg
  have s2 := h2.sg
  have hy0 : 0 < y.natAbs := by omega
  obtain ⟨q, hq⟩ : ∃ q, q = x.natAbs / y.natAbs := ⟨_, rfl⟩
  obtain ⟨r, hr⟩ : ∃ r, r = x.natAbs % y.natAbs := ⟨_, rfl⟩
  have zq : sg false q = Int.tdiv x y := by
    have := sg_quo false false x.natAbs y.natAbs
    rw [s1, s2, ← hq, show ((false : Bool) == false) = true from rfl] at this
    exact this
  have zr : sg false r = Int.tmod x y := by
    have := sg_rem false false x.natAbs y.natAbs
    rw [s1, s2, ← hr] at this
    exact this
  have zm : Int.fmod x y = Int.tmod x y := fmod_none h0
  obtain ⟨mq, hmq⟩ : ∃ mq, mq = bl q := ⟨_, rfl⟩
  obtain ⟨mr, hmr⟩ : ∃ mr, mr = bl r := ⟨_, rfl⟩
  obtain ⟨rq, hrq⟩ : ∃ rq, rq = decide (Int.tdiv x y < 0) := ⟨_, rfl⟩
  obtain ⟨rr, hrr⟩ : ∃ rr, rr = decide (Int.tmod x y < 0) := ⟨_, rfl⟩
  have PT : ∀ V, Below W.heap.size W V → Hid (Calls Tryd.prog 64 #[.slice A1 m1 c1, .slice A2 m2 c2] V fun e w' => ∃ Q d R c, e = .returned (.tuple #[.slice Q mq d, .slice R mr c]) ∧ Bit w' Q mq d q ∧ Bit w' R mr c r ∧ Below W.heap.size W w') := fun V hb => Lib.hid (by
    subst M2
    rw [hmq, hmr, hq, hr]
    exact (partsB A1 A2 m1 c1 c2 _ _ V (B1.below hb) (B2.below hb) (by omega) l1 l2).mono fun e w' hh => by
      obtain ⟨Q, d, R, c, he, bq, br, _, _, hw⟩ := hh
      exact ⟨Q, d, R, c, he, bq, br, below_then hb hw⟩)
  have lq : mq ≤ 10000 := by rw [hmq, hq]; exact Nat.le_trans (bl_mono (Nat.div_le_self _ _)) (by omega)
  have lr : mr ≤ 10000 := by rw [hmr, hr]; exact Nat.le_trans (bl_mono (Nat.mod_le _ _)) (by omega)
  have VR : ∀ V R c, Bit V R mr c r → Hid (Calls Tryd.prog 51 #[.bool false, .slice R mr c] V fun e w' => e = .returned (.agg #[.bool rr, .slice R mr c]) ∧ Below V.heap.size V w') := fun V R c hB => Lib.hid ((value_any false R mr c r V hB (by omega)).mono fun e w' ⟨he, hw⟩ => ⟨by rw [he, signB_sg zr, ← hrr, ← hmr], hw⟩)
  have VQ : ∀ V Q c, Bit V Q mq c q → Hid (Calls Tryd.prog 51 #[.bool false, .slice Q mq c] V fun e w' => e = .returned (.agg #[.bool rq, .slice Q mq c]) ∧ Below V.heap.size V w') := fun V Q c hB => Lib.hid ((value_any false Q mq c q V hB (by omega)).mono fun e w' ⟨he, hw⟩ => ⟨by rw [he, signB_sg zq, ← hrq, ← hmq], hw⟩)
  have XQ : ∀ V Q c, Bit V Q mq c q → BVal V rq Q mq c (Int.tdiv x y) := fun V Q c h => by
    have e := sg_abs zq
    exact ⟨hrq, by rw [← e]; exact hmq, by rw [← e]; exact h⟩
  have XR : ∀ V R c, Bit V R mr c r → BVal V rr R mr c (Int.tmod x y) := fun V R c h => by
    have e := sg_abs zr
    exact ⟨hrr, by rw [← e]; exact hmr, by rw [← e]; exact h⟩
  have hmr0 : mr = 0 := by rw [hmr, hr, h0, bl_zero]
  have XQ := Lib.hid XQ
  have XR := Lib.hid XR
  have ZM := Lib.hid zm
  have k1 := t1.snd
  have k2 := t2.snd
  clear hq hr zq zr zm hmr hrq hrr hmq s1 s2 M1 M2 h1 h2 B1 B2 h0 hy0 hy
  subst hmr0
  go_enter Tryd.func43, Tryd.ntmps43
  go_wp2_with fail
  rw [← hW]
  have HW := Lib.hid hW
  have HWS := Lib.hid hWs
  clear hW hWs
  refine ((PT _ (Below.refl _ _)).out).mono ?_
  rintro e y1 ⟨Q, dq, R, dr, rfl, bq, br, b1⟩
  clear k1 k2 PT
  have k1 := (t1.below' b1).fst
  go_wp2_with fail
  refine ((VR _ R dr br).out).mono ?_
  rintro e y2 ⟨rfl, b2⟩
  replace bq := bq.below b2
  replace br := br.below b2
  replace b2 := below_then b1 b2
  clear k1 b1 VR
  obtain ⟨X, hX⟩ : ∃ X, X = (y2.alloc (.cells #[.bool rr, .slice R 0 dr] 30)).alloc (.cells #[.bool rr, .slice R 0 dr] 30) := ⟨_, rfl⟩
  have hbX : Below y2.heap.size y2 X := by rw [hX]; exact below_al (below_al (Below.refl _ _) _) _
  have t9 : Two X y2.heap.size 30 (.bool rr) (.slice R 0 dr) := by rw [hX]; exact (Two.made y2 30 _ _).alloc _
  have t10 : Two X (y2.heap.size + 1) 30 (.bool rr) (.slice R 0 dr) := by
    rw [hX]
    have := Two.made (y2.alloc (.cells #[.bool rr, .slice R 0 dr] 30)) 30 (.bool rr) (.slice R 0 dr)
    simpa using this
  have hs2 := b2.size
  replace t1 := (t1.below' b2).below' hbX
  replace t2 := (t2.below' b2).below' hbX
  replace t3 := (t3.below' b2).below' hbX
  replace t4 := (t4.below' b2).below' hbX
  replace t5 := (t5.below' b2).below' hbX
  replace bq := bq.below hbX
  replace br := br.below hbX
  replace V2 := V2.below b2
  replace V2 := V2.below hbX
  replace hbW := below_then hbW (below_then b2 hbX)
  clear b2 hbX
  have hz : w.heap.size + 5 ≤ y2.heap.size := by have := HWS.out; omega
  clear hs2 HWS
  have k1 := t1.fst
  have k2 := t2.fst
  have k3 := t9.fst
  have k4 := t9.snd
  have k5 := t10.fst
  have k6 := t10.snd
  rw [hX] at k1 k2 k3 k4 k5 k6
  go_wp2_with fail
  rw [← hX]
  rw [← hX] at k1 k2 k3 k4 k5 k6
  have HX := Lib.hid hX
  clear hX V2
  have VX : ∀ V, Below X.heap.size X V → Hid (Calls Tryd.prog 51 #[.bool false, .slice Q mq dq] V fun e w' => e = .returned (.agg #[.bool rq, .slice Q mq dq]) ∧ Below X.heap.size X w') := fun V hb => Lib.hid (((VQ V Q dq (bq.below hb)).out).mono fun e w' ⟨he, hw⟩ => ⟨he, below_then hb hw⟩)
  clear VQ
  go_region_held3 (fun V => V.cell? ⟨w.heap.size, 0, none⟩ = some (.bool false) ∧ V.cell? ⟨w.heap.size + 1, 0, none⟩ = some (.bool false) ∧ V.cell? ⟨y2.heap.size, 0, none⟩ = some (.bool rr) ∧ V.cell? ⟨y2.heap.size, 1, none⟩ = some (.slice R 0 dr) ∧ V.cell? ⟨y2.heap.size + 1, 0, none⟩ = some (.bool rr) ∧ V.cell? ⟨y2.heap.size + 1, 1, none⟩ = some (.slice R 0 dr)) (first | with_reducible exact ⟨x1w, x2w, x3w, x4w, x5w, x6w⟩ | with_reducible exact ⟨x1v, x2v, x3v, x4v, x5v, x6v⟩ | with_reducible exact ⟨x1u, x2u, x3u, x4u, x5u, x6u⟩ | with_reducible exact ⟨x1s, x2s, x3s, x4s, x5s, x6s⟩ | exact ⟨k1, k2, k3, k4, k5, k6⟩ | go_keep)
    (first | (go_at_call 51; refine ((VX _ (by first | exact Below.refl _ _ | exact Below.drew (Below.refl _ _))).out).mono ?_; rintro e y4 ⟨rfl, b4⟩; have a1 := t1.below' b4; have a2 := t2.below' b4; have a3 := t3.below' b4; have a4 := t4.below' b4; have a5 := t5.below' b4; have a9 := t9.below' b4; have a10 := t10.below' b4; have x1s := a1.fst; have x2s := a2.fst; have x3s := a9.fst; have x4s := a9.snd; have x5s := a10.fst; have x6s := a10.snd; have fa := a3.free 0; have fb := a3.free 1; have fa' := a3.fst; have fb' := a3.snd; have a1u := Two.far2 (b := w.heap.size + 2) (u' := .bool rq) (v' := .slice Q mq dq) a1 (by omega); have a2u := Two.far2 (b := w.heap.size + 2) (u' := .bool rq) (v' := .slice Q mq dq) a2 (by omega); have a4u := Two.far2 (b := w.heap.size + 2) (u' := .bool rq) (v' := .slice Q mq dq) a4 (by omega); have a5u := Two.far2 (b := w.heap.size + 2) (u' := .bool rq) (v' := .slice Q mq dq) a5 (by omega); have a9u := Two.far2 (b := w.heap.size + 2) (u' := .bool rq) (v' := .slice Q mq dq) a9 (by omega); have a10u := Two.far2 (b := w.heap.size + 2) (u' := .bool rq) (v' := .slice Q mq dq) a10 (by omega); have a3u := a3.set2 (a' := .bool rq) (b' := .slice Q mq dq); have x1u := a1u.fst; have x2u := a2u.fst; have x3u := a9u.fst; have x4u := a9u.snd; have x5u := a10u.fst; have x6u := a10u.snd; have fc := a4u.free 0; have fd := a4u.free 1; have fc' := a4u.fst; have fd' := a4u.snd; have a1v := Two.far2 (b := w.heap.size + 3) (u' := .bool rr) (v' := .slice R 0 dr) a1u (by omega); have a2v := Two.far2 (b := w.heap.size + 3) (u' := .bool rr) (v' := .slice R 0 dr) a2u (by omega); have a3v := Two.far2 (b := w.heap.size + 3) (u' := .bool rr) (v' := .slice R 0 dr) a3u (by omega); have a5v := Two.far2 (b := w.heap.size + 3) (u' := .bool rr) (v' := .slice R 0 dr) a5u (by omega); have a9v := Two.far2 (b := w.heap.size + 3) (u' := .bool rr) (v' := .slice R 0 dr) a9u (by omega); have a10v := Two.far2 (b := w.heap.size + 3) (u' := .bool rr) (v' := .slice R 0 dr) a10u (by omega); have a4v := a4u.set2 (a' := .bool rr) (b' := .slice R 0 dr); have x1v := a1v.fst; have x2v := a2v.fst; have x3v := a9v.fst; have x4v := a9v.snd; have x5v := a10v.fst; have x6v := a10v.snd; have fe := a5v.free 0; have ff := a5v.free 1; have fe' := a5v.fst; have ff' := a5v.snd; have a1w := Two.far2 (b := w.heap.size + 4) (u' := .bool rr) (v' := .slice R 0 dr) a1v (by omega); have a2w := Two.far2 (b := w.heap.size + 4) (u' := .bool rr) (v' := .slice R 0 dr) a2v (by omega); have a3w := Two.far2 (b := w.heap.size + 4) (u' := .bool rr) (v' := .slice R 0 dr) a3v (by omega); have a4w := Two.far2 (b := w.heap.size + 4) (u' := .bool rr) (v' := .slice R 0 dr) a4v (by omega); have a9w := Two.far2 (b := w.heap.size + 4) (u' := .bool rr) (v' := .slice R 0 dr) a9v (by omega); have a10w := Two.far2 (b := w.heap.size + 4) (u' := .bool rr) (v' := .slice R 0 dr) a10v (by omega); have a5w := a5v.set2 (a' := .bool rr) (b' := .slice R 0 dr); have x1w := a1w.fst; have x2w := a2w.fst; have x3w := a9w.fst; have x4w := a9w.snd; have x5w := a10w.fst; have x6w := a10w.snd))
  all_goals
    go_wp2
    have g0 := a3w.fst
    have g1 := a3w.snd
    have g2 := a4w.fst
    have g3 := a4w.snd
    have g4 := a5w.fst
    have g5 := a5w.snd
    replace bq := (((bq.below b4).put2 a3 (u := .bool rq) (v := .slice Q mq dq)).put2 a4u (u := .bool rr) (v := .slice R 0 dr)).put2 a5v (u := .bool rr) (v := .slice R 0 dr)
    replace br := (((br.below b4).put2 a3 (u := .bool rq) (v := .slice Q mq dq)).put2 a4u (u := .bool rr) (v := .slice R 0 dr)).put2 a5v (u := .bool rr) (v := .slice R 0 dr)
    exact bodyPost_ret (v := .tuple #[.agg #[.bool rq, .slice Q mq dq], .agg #[.bool rr, .slice R 0 dr], .agg #[.bool rr, .slice R 0 dr]]) (by simp [results, Tryd.results43, go_sem, g0, g1, g2, g3, g4, g5]) rfl
      ⟨rq, Q, mq, dq, rr, R, 0, dr, rr, R, 0, dr, rfl, XQ.out _ Q dq bq, XR.out _ R dr br, by rw [ZM.out]; exact XR.out _ R dr br, below_two (below_two (below_two (below_then hbW b4) (by omega)) (by omega)) (by omega)⟩
set_option maxHeartbeats 6400000 in
theorem refdivide_Sff (A1 A2 : Option Addr) (m1 c1 m2 c2 : Nat) (x y : Int) (w : World) (h1 : BVal w false A1 m1 c1 x) (h2 : BVal w false A2 m2 c2 y) (l1 : m1 ≤ 10000) (l2 : m2 ≤ 10000) (hy : y ≠ 0) (h0 : 0 < x.natAbs % y.natAbs) :
    Calls Tryd.prog 43 #[.agg #[.bool false, .slice A1 m1 c1], .agg #[.bool false, .slice A2 m2 c2]] w fun e w' => Three w w' e x y := by
  obtain ⟨W, hW⟩ : ∃ W, W = ((((w.alloc (.cells #[.bool false, .slice A1 m1 c1] 30)).alloc (.cells #[.bool false, .slice A2 m2 c2] 30)).alloc (.cells #[.bool false, .slice none 0 0] 30)).alloc (.cells #[.bool false, .slice none 0 0] 30)).alloc (.cells #[.bool false, .slice none 0 0] 30) := ⟨_, rfl⟩
  obtain ⟨t1, t2, t3, t4, t5, hbW, hWs⟩ := boxes5 w _ _ _ _ W hW
  have B1 := h1.2.2.below hbW
  have B2 := h2.2.2.below hbW
  have V2 := h2.below hbW
  have M1 := h1.2.1
  have M2 := h2.2.1
  have s1 := h1.sg
  have s2 := h2.sg
  have hy0 : 0 < y.natAbs := by omega
  obtain ⟨q, hq⟩ : ∃ q, q = x.natAbs / y.natAbs := ⟨_, rfl⟩
  obtain ⟨r, hr⟩ : ∃ r, r = x.natAbs % y.natAbs := ⟨_, rfl⟩
  have zq : sg false q = Int.tdiv x y := by
    have := sg_quo false false x.natAbs y.natAbs
    rw [s1, s2, ← hq, show ((false : Bool) == false) = true from rfl] at this
    exact this
  have zr : sg false r = Int.tmod x y := by
    have := sg_rem false false x.natAbs y.natAbs
    rw [s1, s2, ← hr] at this
    exact this
  have zm : Int.fmod x y = Int.tmod x y := fmod_same s1 s2
  obtain ⟨mq, hmq⟩ : ∃ mq, mq = bl q := ⟨_, rfl⟩
  obtain ⟨mr, hmr⟩ : ∃ mr, mr = bl r := ⟨_, rfl⟩
  obtain ⟨rq, hrq⟩ : ∃ rq, rq = decide (Int.tdiv x y < 0) := ⟨_, rfl⟩
  obtain ⟨rr, hrr⟩ : ∃ rr, rr = decide (Int.tmod x y < 0) := ⟨_, rfl⟩
  have PT : ∀ V, Below W.heap.size W V → Hid (Calls Tryd.prog 64 #[.slice A1 m1 c1, .slice A2 m2 c2] V fun e w' => ∃ Q d R c, e = .returned (.tuple #[.slice Q mq d, .slice R mr c]) ∧ Bit w' Q mq d q ∧ Bit w' R mr c r ∧ Below W.heap.size W w') := fun V hb => Lib.hid (by
    subst M2
    rw [hmq, hmr, hq, hr]
    exact (partsB A1 A2 m1 c1 c2 _ _ V (B1.below hb) (B2.below hb) (by omega) l1 l2).mono fun e w' hh => by
      obtain ⟨Q, d, R, c, he, bq, br, _, _, hw⟩ := hh
      exact ⟨Q, d, R, c, he, bq, br, below_then hb hw⟩)
  have lq : mq ≤ 10000 := by rw [hmq, hq]; exact Nat.le_trans (bl_mono (Nat.div_le_self _ _)) (by omega)
  have lr : mr ≤ 10000 := by rw [hmr, hr]; exact Nat.le_trans (bl_mono (Nat.mod_le _ _)) (by omega)
  have VR : ∀ V R c, Bit V R mr c r → Hid (Calls Tryd.prog 51 #[.bool false, .slice R mr c] V fun e w' => e = .returned (.agg #[.bool rr, .slice R mr c]) ∧ Below V.heap.size V w') := fun V R c hB => Lib.hid ((value_any false R mr c r V hB (by omega)).mono fun e w' ⟨he, hw⟩ => ⟨by rw [he, signB_sg zr, ← hrr, ← hmr], hw⟩)
  have VQ : ∀ V Q c, Bit V Q mq c q → Hid (Calls Tryd.prog 51 #[.bool false, .slice Q mq c] V fun e w' => e = .returned (.agg #[.bool rq, .slice Q mq c]) ∧ Below V.heap.size V w') := fun V Q c hB => Lib.hid ((value_any false Q mq c q V hB (by omega)).mono fun e w' ⟨he, hw⟩ => ⟨by rw [he, signB_sg zq, ← hrq, ← hmq], hw⟩)
  have XQ : ∀ V Q c, Bit V Q mq c q → BVal V rq Q mq c (Int.tdiv x y) := fun V Q c h => by
    have e := sg_abs zq
    exact ⟨hrq, by rw [← e]; exact hmq, by rw [← e]; exact h⟩
  have XR : ∀ V R c, Bit V R mr c r → BVal V rr R mr c (Int.tmod x y) := fun V R c h => by
    have e := sg_abs zr
    exact ⟨hrr, by rw [← e]; exact hmr, by rw [← e]; exact h⟩
  have hmr0 : 0 < mr := by rw [hmr]; exact bl_pos (by omega)
  have XQ := Lib.hid XQ
  have XR := Lib.hid XR
  have ZM := Lib.hid zm
  have k1 := t1.snd
  have k2 := t2.snd
  clear hq hr zq zr zm hmr hrq hrr hmq s1 s2 M1 M2 h1 h2 B1 B2 h0 hy0 hy
  go_enter Tryd.func43, Tryd.ntmps43
  go_wp2_with fail
  rw [← hW]
  have HW := Lib.hid hW
  have HWS := Lib.hid hWs
  clear hW hWs
  refine ((PT _ (Below.refl _ _)).out).mono ?_
  rintro e y1 ⟨Q, dq, R, dr, rfl, bq, br, b1⟩
  clear k1 k2 PT
  have k1 := (t1.below' b1).fst
  go_wp2_with fail
  refine ((VR _ R dr br).out).mono ?_
  rintro e y2 ⟨rfl, b2⟩
  replace bq := bq.below b2
  replace br := br.below b2
  replace b2 := below_then b1 b2
  clear k1 b1 VR
  obtain ⟨X, hX⟩ : ∃ X, X = (y2.alloc (.cells #[.bool rr, .slice R mr dr] 30)).alloc (.cells #[.bool rr, .slice R mr dr] 30) := ⟨_, rfl⟩
  have hbX : Below y2.heap.size y2 X := by rw [hX]; exact below_al (below_al (Below.refl _ _) _) _
  have t9 : Two X y2.heap.size 30 (.bool rr) (.slice R mr dr) := by rw [hX]; exact (Two.made y2 30 _ _).alloc _
  have t10 : Two X (y2.heap.size + 1) 30 (.bool rr) (.slice R mr dr) := by
    rw [hX]
    have := Two.made (y2.alloc (.cells #[.bool rr, .slice R mr dr] 30)) 30 (.bool rr) (.slice R mr dr)
    simpa using this
  have hs2 := b2.size
  replace t1 := (t1.below' b2).below' hbX
  replace t2 := (t2.below' b2).below' hbX
  replace t3 := (t3.below' b2).below' hbX
  replace t4 := (t4.below' b2).below' hbX
  replace t5 := (t5.below' b2).below' hbX
  replace bq := bq.below hbX
  replace br := br.below hbX
  replace V2 := V2.below b2
  replace V2 := V2.below hbX
  replace hbW := below_then hbW (below_then b2 hbX)
  clear b2 hbX
  have hz : w.heap.size + 5 ≤ y2.heap.size := by have := HWS.out; omega
  clear hs2 HWS
  have k1 := t1.fst
  have k2 := t2.fst
  have k3 := t9.fst
  have k4 := t9.snd
  have k5 := t10.fst
  have k6 := t10.snd
  rw [hX] at k1 k2 k3 k4 k5 k6
  go_wp2_with fail
  rw [← hX]
  rw [← hX] at k1 k2 k3 k4 k5 k6
  have HX := Lib.hid hX
  clear hX V2
  have VX : ∀ V, Below X.heap.size X V → Hid (Calls Tryd.prog 51 #[.bool false, .slice Q mq dq] V fun e w' => e = .returned (.agg #[.bool rq, .slice Q mq dq]) ∧ Below X.heap.size X w') := fun V hb => Lib.hid (((VQ V Q dq (bq.below hb)).out).mono fun e w' ⟨he, hw⟩ => ⟨he, below_then hb hw⟩)
  clear VQ
  go_region_held3 (fun V => V.cell? ⟨w.heap.size, 0, none⟩ = some (.bool false) ∧ V.cell? ⟨w.heap.size + 1, 0, none⟩ = some (.bool false) ∧ V.cell? ⟨y2.heap.size, 0, none⟩ = some (.bool rr) ∧ V.cell? ⟨y2.heap.size, 1, none⟩ = some (.slice R mr dr) ∧ V.cell? ⟨y2.heap.size + 1, 0, none⟩ = some (.bool rr) ∧ V.cell? ⟨y2.heap.size + 1, 1, none⟩ = some (.slice R mr dr)) (first | with_reducible exact ⟨x1w, x2w, x3w, x4w, x5w, x6w⟩ | with_reducible exact ⟨x1v, x2v, x3v, x4v, x5v, x6v⟩ | with_reducible exact ⟨x1u, x2u, x3u, x4u, x5u, x6u⟩ | with_reducible exact ⟨x1s, x2s, x3s, x4s, x5s, x6s⟩ | exact ⟨k1, k2, k3, k4, k5, k6⟩ | go_keep)
    (first | (go_at_call 51; refine ((VX _ (by first | exact Below.refl _ _ | exact Below.drew (Below.refl _ _))).out).mono ?_; rintro e y4 ⟨rfl, b4⟩; have a1 := t1.below' b4; have a2 := t2.below' b4; have a3 := t3.below' b4; have a4 := t4.below' b4; have a5 := t5.below' b4; have a9 := t9.below' b4; have a10 := t10.below' b4; have x1s := a1.fst; have x2s := a2.fst; have x3s := a9.fst; have x4s := a9.snd; have x5s := a10.fst; have x6s := a10.snd; have fa := a3.free 0; have fb := a3.free 1; have fa' := a3.fst; have fb' := a3.snd; have a1u := Two.far2 (b := w.heap.size + 2) (u' := .bool rq) (v' := .slice Q mq dq) a1 (by omega); have a2u := Two.far2 (b := w.heap.size + 2) (u' := .bool rq) (v' := .slice Q mq dq) a2 (by omega); have a4u := Two.far2 (b := w.heap.size + 2) (u' := .bool rq) (v' := .slice Q mq dq) a4 (by omega); have a5u := Two.far2 (b := w.heap.size + 2) (u' := .bool rq) (v' := .slice Q mq dq) a5 (by omega); have a9u := Two.far2 (b := w.heap.size + 2) (u' := .bool rq) (v' := .slice Q mq dq) a9 (by omega); have a10u := Two.far2 (b := w.heap.size + 2) (u' := .bool rq) (v' := .slice Q mq dq) a10 (by omega); have a3u := a3.set2 (a' := .bool rq) (b' := .slice Q mq dq); have x1u := a1u.fst; have x2u := a2u.fst; have x3u := a9u.fst; have x4u := a9u.snd; have x5u := a10u.fst; have x6u := a10u.snd; have fc := a4u.free 0; have fd := a4u.free 1; have fc' := a4u.fst; have fd' := a4u.snd; have a1v := Two.far2 (b := w.heap.size + 3) (u' := .bool rr) (v' := .slice R mr dr) a1u (by omega); have a2v := Two.far2 (b := w.heap.size + 3) (u' := .bool rr) (v' := .slice R mr dr) a2u (by omega); have a3v := Two.far2 (b := w.heap.size + 3) (u' := .bool rr) (v' := .slice R mr dr) a3u (by omega); have a5v := Two.far2 (b := w.heap.size + 3) (u' := .bool rr) (v' := .slice R mr dr) a5u (by omega); have a9v := Two.far2 (b := w.heap.size + 3) (u' := .bool rr) (v' := .slice R mr dr) a9u (by omega); have a10v := Two.far2 (b := w.heap.size + 3) (u' := .bool rr) (v' := .slice R mr dr) a10u (by omega); have a4v := a4u.set2 (a' := .bool rr) (b' := .slice R mr dr); have x1v := a1v.fst; have x2v := a2v.fst; have x3v := a9v.fst; have x4v := a9v.snd; have x5v := a10v.fst; have x6v := a10v.snd; have fe := a5v.free 0; have ff := a5v.free 1; have fe' := a5v.fst; have ff' := a5v.snd; have a1w := Two.far2 (b := w.heap.size + 4) (u' := .bool rr) (v' := .slice R mr dr) a1v (by omega); have a2w := Two.far2 (b := w.heap.size + 4) (u' := .bool rr) (v' := .slice R mr dr) a2v (by omega); have a3w := Two.far2 (b := w.heap.size + 4) (u' := .bool rr) (v' := .slice R mr dr) a3v (by omega); have a4w := Two.far2 (b := w.heap.size + 4) (u' := .bool rr) (v' := .slice R mr dr) a4v (by omega); have a9w := Two.far2 (b := w.heap.size + 4) (u' := .bool rr) (v' := .slice R mr dr) a9v (by omega); have a10w := Two.far2 (b := w.heap.size + 4) (u' := .bool rr) (v' := .slice R mr dr) a10v (by omega); have a5w := a5v.set2 (a' := .bool rr) (b' := .slice R mr dr); have x1w := a1w.fst; have x2w := a2w.fst; have x3w := a9w.fst; have x4w := a9w.snd; have x5w := a10w.fst; have x6w := a10w.snd))
  all_goals
    go_wp2
    have g0 := a3w.fst
    have g1 := a3w.snd
    have g2 := a4w.fst
    have g3 := a4w.snd
    have g4 := a5w.fst
    have g5 := a5w.snd
    replace bq := (((bq.below b4).put2 a3 (u := .bool rq) (v := .slice Q mq dq)).put2 a4u (u := .bool rr) (v := .slice R mr dr)).put2 a5v (u := .bool rr) (v := .slice R mr dr)
    replace br := (((br.below b4).put2 a3 (u := .bool rq) (v := .slice Q mq dq)).put2 a4u (u := .bool rr) (v := .slice R mr dr)).put2 a5v (u := .bool rr) (v := .slice R mr dr)
    exact bodyPost_ret (v := .tuple #[.agg #[.bool rq, .slice Q mq dq], .agg #[.bool rr, .slice R mr dr], .agg #[.bool rr, .slice R mr dr]]) (by simp [results, Tryd.results43, go_sem, g0, g1, g2, g3, g4, g5]) rfl
      ⟨rq, Q, mq, dq, rr, R, mr, dr, rr, R, mr, dr, rfl, XQ.out _ Q dq bq, XR.out _ R dr br, by rw [ZM.out]; exact XR.out _ R dr br, below_two (below_two (below_two (below_then hbW b4) (by omega)) (by omega)) (by omega)⟩
theorem refdivide_at {r1 r2 : Bool} {A1 A2 : Option Addr} {m1 c1 m2 c2 : Nat} {x y : Int} (w : World) (h1 : BVal w r1 A1 m1 c1 x) (h2 : BVal w r2 A2 m2 c2 y) (l1 : m1 ≤ 10000) (l2 : m2 ≤ 10000) (hy : y ≠ 0) :
    Calls Tryd.prog 43 #[.agg #[.bool r1, .slice A1 m1 c1], .agg #[.bool r2, .slice A2 m2 c2]] w fun e w' => Three w w' e x y := by
  rcases Nat.eq_zero_or_pos (x.natAbs % y.natAbs) with h0 | h0
  · cases r1 <;> cases r2
    · exact refdivide_Aff A1 A2 m1 c1 m2 c2 x y w h1 h2 l1 l2 hy h0
    · exact refdivide_Aft A1 A2 m1 c1 m2 c2 x y w h1 h2 l1 l2 hy h0
    · exact refdivide_Atf A1 A2 m1 c1 m2 c2 x y w h1 h2 l1 l2 hy h0
    · exact refdivide_Att A1 A2 m1 c1 m2 c2 x y w h1 h2 l1 l2 hy h0
  · cases r1 <;> cases r2
    · exact refdivide_Sff A1 A2 m1 c1 m2 c2 x y w h1 h2 l1 l2 hy h0
    · exact refdivide_Nft A1 A2 m1 c1 m2 c2 x y w h1 h2 l1 l2 hy h0
    · exact refdivide_Ntf A1 A2 m1 c1 m2 c2 x y w h1 h2 l1 l2 hy h0
    · exact refdivide_Stt A1 A2 m1 c1 m2 c2 x y w h1 h2 l1 l2 hy h0
end Go.Proofs.YtocoflojlliapaaDoor
