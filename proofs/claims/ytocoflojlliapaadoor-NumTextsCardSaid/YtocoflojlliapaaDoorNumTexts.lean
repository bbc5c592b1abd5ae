/- NumTexts: THE LAW's WALK, AND THE STATEMENT. -/
import Derived.Test.YtocoflojlliapaaDoorU2
set_option linter.unusedVariables false
namespace Go.Proofs.YtocoflojlliapaaDoor.numTexts
open Go.ChangeShapes Go.WideShapes Go.ChangeAt Go.RowKit Go.Proofs.YtocoflojlliapaaDoor
set_option maxHeartbeats 6400000 in
set_option maxRecDepth 100000 in
theorem main (r1 : Bool) (A1 : Option Addr) (n1 c1 : Nat) (xs : List Nat) (z : Int) (w : World) (ht : Tab w) (h1 : Limbs w A1 n1 c1 xs) (hz : sg r1 (val 4294967296 xs) = z) (l1 : n1 ≤ 60) :
    Calls Tryd.prog 9 #[.agg #[.bool r1, .slice A1 n1 c1]] w fun e w' => e = .returned (.bool true) ∧ Below w.heap.size w w' := by
  obtain ⟨W, hW⟩ : ∃ W, W = w.alloc (.cells #[.bool r1, .slice A1 n1 c1] 24) := ⟨_, rfl⟩
  have hbW : Below w.heap.size w W := by rw [hW]; exact below_al (Below.refl _ _) _
  have t1 : Two W w.heap.size 24 (.bool r1) (.slice A1 n1 c1) := by rw [hW]; exact Two.made w 24 _ _
  have LA := fun W => Lib.hid (long_no r1 A1 n1 c1 l1 W)
  have HZ := Lib.hid hz
  have R := h1.below hbW
  have NA : ∀ V, Limbs V A1 n1 c1 xs → NumAt V r1 A1 n1 c1 z := fun V h => ⟨_, h.mag, HZ.out⟩
  have HT := Lib.hid ht
  have k1 := t1.fst
  have k2 := t1.snd
  clear hz h1 ht
  go_enter Tryd.func9, Tryd.ntmps9
  go_wp2_with fail
  rw [← hW]
  have HW := Lib.hid hW
  clear hW
  refine ((LA _).out).mono ?_
  rintro e X ⟨rfl, b1⟩
  replace t1 := t1.below' b1
  replace R := R.below b1
  replace hbW := below_then hbW b1
  clear k1 k2 b1 LA
  obtain ⟨T, hT⟩ : ∃ T : ByteArray, T = ⟨(zText z).toArray⟩ := ⟨_, rfl⟩
  have D1 : ∀ V, Below X.heap.size X V → Hid (Calls Tryd.prog 46 #[.agg #[.bool r1, .slice A1 n1 c1]] V fun e w' => e = .returned (.string T) ∧ Below V.heap.size V w') := fun V hb => Lib.hid ((text_at V (NA V (R.below hb)) (by omega) (HT.out.below (below_then hbW hb))).mono fun e w' ⟨he, hw⟩ => ⟨by rw [he, hT], hw⟩)
  have D2 : ∀ V, Below X.heap.size X V → Hid (Calls Tryd.prog 20 #[.agg #[.bool r1, .slice A1 n1 c1]] V fun e w' => ∃ r B m d, e = .returned (.agg #[.bool r, .slice B m d]) ∧ BV 1920 w' r B m d z ∧ Below V.heap.size V w') := fun V hb => Lib.hid (refval_bv V (R.below hb) HZ.out l1)
  have D3 : ∀ V r B m d, BV 1920 V r B m d z → Hid (Calls Tryd.prog 47 #[.agg #[.bool r, .slice B m d]] V fun e w' => e = .returned (.string T) ∧ Below V.heap.size V w') := fun V r B m d h => Lib.hid ((reftext_at V h.1 (by have := h.2; omega)).mono fun e w' ⟨he, hw⟩ => ⟨by rw [he, hT], hw⟩)
  have D4 : ∀ V, Below X.heap.size X V → Hid (Calls Tryd.prog 18 #[] V fun e w' => e = .returned (.bool true) ∧ Below V.heap.size V w') := fun V hb => Lib.hid (awake_any V (HT.out.below (below_then hbW hb)))
  have KS : ∀ V, Below X.heap.size X V → (Below X.heap.size X V ∧ V.cell? ⟨w.heap.size, 0, none⟩ = some (.bool r1) ∧ V.cell? ⟨w.heap.size, 1, none⟩ = some (.slice A1 n1 c1)) := fun V hb => ⟨hb, (t1.below' hb).fst, (t1.below' hb).snd⟩
  have BX0 : Below X.heap.size X X := Below.refl _ _
  have k1 := t1.fst
  have k2 := t1.snd
  have HTT := Lib.hid hT
  clear hT
  go_wp2_with fail
  go_region_held3 (fun V => Below X.heap.size X V ∧ V.cell? ⟨w.heap.size, 0, none⟩ = some (.bool r1) ∧ V.cell? ⟨w.heap.size, 1, none⟩ = some (.slice A1 n1 c1)) (exact KS _ (by first | assumption | exact Below.drew (by assumption)))
    (first
      | (go_at_call 46; refine ((D1 _ (by first | assumption | exact Below.drew (by assumption))).out).mono ?_; rintro e f1 ⟨rfl, fl1⟩; have fb1 := below_then (show Below X.heap.size X _ from (by first | assumption | exact Below.drew (by assumption))) fl1)
      | (go_at_call 20; refine ((D2 _ (by first | assumption | exact Below.drew (by assumption))).out).mono ?_; rintro e f2 ⟨rv, Bv, mv, dv, rfl, QV, fl2⟩; have fb2 := below_then (show Below X.heap.size X _ from (by first | assumption | exact Below.drew (by assumption))) fl2)
      | (go_at_call 47; refine ((D3 _ rv Bv mv dv (by first | exact QV | exact BV.drew QV)).out).mono ?_; rintro e f3 ⟨rfl, fl3⟩; have fb3 := below_then (show Below X.heap.size X _ from (by first | assumption | exact Below.drew (by assumption))) fl3)
      | (go_at_call 18; refine ((D4 _ (by first | assumption | exact Below.drew (by assumption))).out).mono ?_; rintro e f4 ⟨rfl, fl4⟩; have fb4 := below_then (show Below X.heap.size X _ from (by first | assumption | exact Below.drew (by assumption))) fl4))
  go_wp2
  go_ret
  exact ⟨rfl, below_then hbW fb4⟩
set_option maxHeartbeats 1600000 in
set_option maxRecDepth 100000 in
theorem long_1 (na : Bool) (A1 : Option Addr) (n1 c1 : Nat) (w : World) (ht : Tab w) (l1 : 60 < n1) :
    Calls Tryd.prog 9 #[.agg #[.bool na, .slice A1 n1 c1]] w fun e w' => e = .returned (.bool true) ∧ Below w.heap.size w w' := by
  obtain ⟨W, hW⟩ : ∃ W, W = w.alloc (.cells #[.bool na, .slice A1 n1 c1] 24) := ⟨_, rfl⟩
  have hbW : Below w.heap.size w W := by rw [hW]; exact below_al (Below.refl _ _) _
  have t1 : Two W w.heap.size 24 (.bool na) (.slice A1 n1 c1) := by rw [hW]; exact Two.made w 24 _ _
  have L1 := fun W => Lib.hid (long_yes na A1 n1 c1 l1 W)
  have AW : ∀ V, Below w.heap.size w V → Hid (Calls Tryd.prog 18 #[] V fun e w' => e = .returned (.bool true) ∧ Below w.heap.size w w') :=
    fun V hb => Lib.hid ((awake_any V (ht.below hb)).mono fun e w' ⟨he, hw⟩ => ⟨he, below_then hb hw⟩)
  have k1 := t1.fst
  have k2 := t1.snd
  go_enter Tryd.func9, Tryd.ntmps9
  go_wp2_with fail
  rw [← hW]
  have HW := Lib.hid hW
  clear hW t1
  refine ((L1 _).out).mono ?_
  rintro e v1 ⟨rfl, b1⟩
  have B1 := below_then hbW b1
  go_wp2_with fail
  refine ((AW _ B1).out).mono ?_
  rintro e y8 ⟨rfl, bb8⟩
  go_wp2
  go_ret
  exact ⟨rfl, bb8⟩
theorem walk (r1 : Bool) (A1 : Option Addr) (n1 c1 : Nat) (z : Int) (w : World) (ht : Tab w) (h1 : NumAt w r1 A1 n1 c1 z) :
    Calls Tryd.prog 9 #[.agg #[.bool r1, .slice A1 n1 c1]] w fun e w' => e = .returned (.bool true) ∧ Below w.heap.size w w' := by
  by_cases l1 : n1 ≤ 60
  · obtain ⟨xs, hx, hz⟩ := h1.row
    exact main r1 A1 n1 c1 xs z w ht hx hz l1
  · exact long_1 r1 A1 n1 c1 w ht (by omega)
/-! The row's step. -/
set_option maxRecDepth 100000 in
theorem contract (H : Type) (enc : TypeId × Value → H) (W : World) (base : Nat) (args : Array Value) (ds gs : List (DataW H)) (before : List MemPlace)
    (hval : ∀ (j : Nat) t v, Tryd.f9.params[j]? = some t → args[j]? = some v → Value.okWide Tryd.prog W .any base t v)
    (hW : DataW.Whole enc Tryd.prog Tryd.f9.params.toList Rows.numTextsSpec.vars false W args.toList ds gs before) (hL : laidMetH Tryd.prog Rows.numTextsRow.laid W) :
    Calls Tryd.prog 9 args W fun e W' => ∃ v, e = .returned v ∧ Rows.numTextsSpec.post enc Tryd.prog Tryd.f9 false true false false W args v W' := by
  have hW' := hW
  obtain ⟨p, q, hA0, hV, rfl, hfz, hnd⟩ := hW
  have hA : DataW.TrodAll enc Tryd.prog W 0 (fun _ => true) true Tryd.f9.params.toList args.toList ds p := hA0
  obtain ⟨rfl, rfl⟩ := trodVars_none hV
  simp only [List.append_nil] at hW'
  have hlt : ∀ x ∈ p, x.block < W.heap.size := fun x hx => by simpa using hW'.lt x hx
  have hAk := hA
  rw [Tryd.params9] at hA hval
  obtain ⟨v0, vs0, d0, ds0, p0, q0, hargs, rfl, rfl, h0, r0⟩ := trodAll_cons hA
  obtain ⟨rfl, rfl, rfl⟩ := trodAll_nil r0
  obtain rfl : args = #[v0] := by cases args; simp_all
  obtain ⟨g0, A0, n0, c0, N0, rfl, m0⟩ := open_num (hval 0 24 v0 rfl rfl) h0
  refine (walk g0 A0 n0 c0 _ W (tab_of hL) ⟨N0, m0, rfl⟩).mono fun e W' ⟨he, hg⟩ => ?_
  subst he
  exact ⟨_, rfl, _, _, _, [], _, [], hW', (trodAll_cons_mk (shut_bool Tryd.underlying4 _) trodAll_mk0), below_all hg (by kernel_rfl) hAk hlt, rfl, hg.frame _, fun h => by cases h⟩
theorem laid_met (os : Os) : laidMet Tryd.prog Rows.numTextsRow.laid ((laidWorld os).forCall (fun _ _ => 0) ⟨#[], #[.agg #[.bool false, .slice none 0 0]], []⟩).memory :=
  laidMet_laidAll _ (by kernel_rfl) (by kernel_rfl)
theorem reads (os : Os) {H : Type} (enc : TypeId × Value → H) : ∃ places, DataW.whole enc Tryd.prog ((laidWorld os).forCall (fun _ _ => 0) ⟨#[], #[.agg #[.bool false, .slice none 0 0]], []⟩).memory Tryd.f9.params.toList Rows.numTextsSpec.vars false (#[(Value.agg #[.bool false, .slice none 0 0])] : Array Value).toList 8 = some ([.agg [.lit (.bool false), .nil]], [], places) :=
  ⟨[], by kernel_rfl⟩
set_option maxRecDepth 100000 in
theorem lifted (os : Os) (started : os.Started) (H : Type) (enc : TypeId × Value → H) (F : Stop.Interp) :
    ReturnsInHanded {} Tryd.checked os 9 .any ((OpenSpec.ofChange Rows.numTextsSpec).preRow enc Tryd.prog Tryd.f9 Rows.numTextsRow.domain false Rows.numTextsRow.laid) (((OpenSpec.ofChange Rows.numTextsSpec).at F).post enc Tryd.prog Tryd.f9 false true false false) := by
  obtain ⟨places, hx⟩ := reads os enc
  refine returnsInHanded_of_row (C := Tryd.checked) (s := OpenSpec.ofChange Rows.numTextsSpec) own started (by kernel_rfl) Tryd.func9
    (witness_row_at (enc := enc) (C := Tryd.checked) false (laidWorld os) #[.agg #[.bool false, .slice none 0 0]] (laidWorld_os os) (by kernel_rfl) (by kernel_rfl) (by kernel_rfl)
      (OpenSpec.preRow_of_cond 8 hx (by kernel_rfl) (fun k hk => by cases hk) (by kernel_rfl) (laid_met os))) ?_
  intro W base args ds gs before hval hW _ _ _ hL _ _
  exact contract H enc W base args ds gs before hval hW hL
theorem said : Rows.NumTextsSaid :=
  OpenClaim.holds_of_cond 9 Tryd.f9 rfl rfl rfl rfl rfl rfl rfl ⟨rfl, rfl, rfl, rfl, rfl⟩ rfl rfl rfl rfl rfl (by kernel_rfl) Tryd.func9 (by kernel_rfl)
    (of_decide_eq_true (by kernel_rfl)) (by unfold Func.isWrapper; first | (rw [if_pos (by decide +kernel)]; kernel_rfl) | (rw [if_neg (by decide +kernel)]; exact ⟨rfl, rfl⟩))
    (fun os started H enc _ F => by rw [OpenClaim.pre_eq_preRow]; exact lifted os started H enc F)
theorem plain (f : FuncId) (fn : Func) (hf : Tryd.pinned.checked.prog.funcNamed "moraine/morainelaw02.NumTexts" = some f) (hfn : Tryd.pinned.checked.prog.funcs[f]? = some fn) :
    false = Tryd.pinned.checked.prog.looks [] ∧ ∀ (j : Nat) t, fn.params[j]? = some t → Tryd.pinned.checked.prog.wantsStandIn t = false := by
  obtain rfl : f = 9 := Option.some.inj ((show Tryd.prog.funcNamed "moraine/morainelaw02.NumTexts" = some 9 by kernel_rfl).symm.trans hf) |>.symm
  obtain rfl : fn = Tryd.f9 := (Option.some.inj (Tryd.func9.symm.trans hfn)).symm
  refine ⟨by kernel_rfl, fun j t ht => ?_⟩
  rw [Tryd.params9] at ht
  have hm := Array.mem_of_getElem? ht
  have hall : (#[24] : Array TypeId).toList.all (fun t => !Tryd.prog.wantsStandIn t) = true := by kernel_rfl
  have := List.all_eq_true.1 hall t (by simpa using hm)
  exact (show Tryd.prog.wantsStandIn t = false by simpa using this)
/-- THE STATEMENT -/
theorem card : Rows.NumTextsCardSaid :=
  Claim7.holds_tied_plain_at .later [] _ _ _ _ said (fun _ h => by cases h) (by kernel_rfl) (fun _ h => by cases h) Go.Proofs.YtocoflojlliapaaDoor.numTexts_row_tie rfl ⟨rfl, rfl⟩ (by kernel_rfl) rfl plain (by kernel_rfl)
#print axioms card
end Go.Proofs.YtocoflojlliapaaDoor.numTexts
