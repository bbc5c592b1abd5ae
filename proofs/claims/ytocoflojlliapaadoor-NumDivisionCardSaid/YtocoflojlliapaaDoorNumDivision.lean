/- NumDivision: THE LAW's WALK, AND THE STATEMENT. -/
import Derived.Test.YtocoflojlliapaaDoorZ2
import Derived.Test.YtocoflojlliapaaDoorZ3
import Derived.Test.YtocoflojlliapaaDoorZ4
set_option linter.unusedVariables false
set_option linter.unusedSimpArgs false
namespace Go.Proofs.YtocoflojlliapaaDoor.numDivision
open Go.ChangeShapes Go.WideShapes Go.ChangeAt Go.RowKit Go.Proofs.YtocoflojlliapaaDoor
set_option maxHeartbeats 1600000 in
set_option maxRecDepth 100000 in
theorem long_1 (r1 r2 : Bool) (A1 A2 : Option Addr) (n1 c1 n2 c2 : Nat) (w : World) (ht : Tab w) (l1 : 60 < n1) :
    Calls Tryd.prog 12 #[.agg #[.bool r1, .slice A1 n1 c1], .agg #[.bool r2, .slice A2 n2 c2]] w fun e w' => e = .returned (.bool true) ∧ Below w.heap.size w w' := by
  obtain ⟨W, hW⟩ : ∃ W, W = (w.alloc (.cells #[.bool r1, .slice A1 n1 c1] 24)).alloc (.cells #[.bool r2, .slice A2 n2 c2] 24) := ⟨_, rfl⟩
  obtain ⟨t1, t2, hbW, hWs⟩ := boxes24 w _ _ _ _ W hW
  have AW : ∀ V, Below w.heap.size w V → Hid (Calls Tryd.prog 18 #[] V fun e w' => e = .returned (.bool true) ∧ Below w.heap.size w w') :=
    fun V hb => Lib.hid ((awake_any V (ht.below hb)).mono fun e w' ⟨he, hw⟩ => ⟨he, below_then hb hw⟩)
  have LA := fun W => Lib.hid (long_yes r1 A1 n1 c1 l1 W)
  have k1 := t1.fst
  have k2 := t1.snd
  go_enter Tryd.func12, Tryd.ntmps12
  go_wp2_with fail
  rw [← hW]
  have HW := Lib.hid hW
  clear hW hWs t1
  refine ((LA _).out).mono ?_
  rintro e v1 ⟨rfl, b1⟩
  replace t2 := t2.below' b1
  replace hbW := below_then hbW b1
  clear k1 k2 b1
  go_wp2_with fail
  refine ((AW _ hbW).out).mono ?_
  rintro e y8 ⟨rfl, bb8⟩
  go_wp2
  go_ret
  exact ⟨rfl, bb8⟩
set_option maxHeartbeats 1600000 in
set_option maxRecDepth 100000 in
theorem long_2 (r1 r2 : Bool) (A1 A2 : Option Addr) (n1 c1 n2 c2 : Nat) (w : World) (ht : Tab w) (l1 : n1 ≤ 60) (l2 : 60 < n2) :
    Calls Tryd.prog 12 #[.agg #[.bool r1, .slice A1 n1 c1], .agg #[.bool r2, .slice A2 n2 c2]] w fun e w' => e = .returned (.bool true) ∧ Below w.heap.size w w' := by
  obtain ⟨W, hW⟩ : ∃ W, W = (w.alloc (.cells #[.bool r1, .slice A1 n1 c1] 24)).alloc (.cells #[.bool r2, .slice A2 n2 c2] 24) := ⟨_, rfl⟩
  obtain ⟨t1, t2, hbW, hWs⟩ := boxes24 w _ _ _ _ W hW
  have AW : ∀ V, Below w.heap.size w V → Hid (Calls Tryd.prog 18 #[] V fun e w' => e = .returned (.bool true) ∧ Below w.heap.size w w') :=
    fun V hb => Lib.hid ((awake_any V (ht.below hb)).mono fun e w' ⟨he, hw⟩ => ⟨he, below_then hb hw⟩)
  have LA := fun W => Lib.hid (long_no r1 A1 n1 c1 l1 W)
  have LB := fun W => Lib.hid (long_yes r2 A2 n2 c2 l2 W)
  have k1 := t1.fst
  have k2 := t1.snd
  go_enter Tryd.func12, Tryd.ntmps12
  go_wp2_with fail
  rw [← hW]
  have HW := Lib.hid hW
  clear hW hWs t1
  refine ((LA _).out).mono ?_
  rintro e v1 ⟨rfl, b1⟩
  replace t2 := t2.below' b1
  replace hbW := below_then hbW b1
  clear k1 k2 b1
  have k1 := t2.fst
  have k2 := t2.snd
  go_wp2_with fail
  refine ((LB _).out).mono ?_
  rintro e v2 ⟨rfl, b1⟩
  replace hbW := below_then hbW b1
  clear k1 k2 b1 t2
  go_wp2_with fail
  refine ((AW _ hbW).out).mono ?_
  rintro e y8 ⟨rfl, bb8⟩
  go_wp2
  go_ret
  exact ⟨rfl, bb8⟩
theorem three (a b : Int) : cmpI a b = 0 ∨ cmpI a b = 1 ∨ cmpI a b = -1 := by
  rcases Int.lt_trichotomy a b with k | k | k
  · rw [cmpI_lt k]; simp
  · rw [cmpI_eq k]; simp
  · rw [cmpI_gt k]; simp
theorem three_left {P Q : Int} (h : P = 0 ∨ P = Q) (h3 : Q = 0 ∨ Q = 1 ∨ Q = -1) : P = 0 ∨ (P = 1 ∧ Q = 1) ∨ (P = -1 ∧ Q = -1) := by omega
theorem walk (r1 r2 : Bool) (A1 A2 : Option Addr) (n1 c1 n2 c2 : Nat) (x y : Int) (w : World) (ht : Tab w) (h1 : NumAt w r1 A1 n1 c1 x) (h2 : NumAt w r2 A2 n2 c2 y) :
    Calls Tryd.prog 12 #[.agg #[.bool r1, .slice A1 n1 c1], .agg #[.bool r2, .slice A2 n2 c2]] w fun e w' => e = .returned (.bool true) ∧ Below w.heap.size w w' := by
  by_cases l1 : n1 ≤ 60
  · by_cases l2 : n2 ≤ 60
    · rcases resV_two x with va | va
      · rcases resV_two y with vb | vb
        · by_cases hy : y = 0
          · exact zero r1 r2 A1 A2 n1 c1 n2 c2 x y w ht h1 h2 l1 l2 (Lib.hid hy) (Lib.hid va) (Lib.hid vb)
          · rcases three_left (tmod_sign (x := x) (y := y)) (three x 0) with k | k | k <;> rcases three_left (fmod_sign (x := x) hy) (three y 0) with k' | k' | k'
            · exact main_oo r1 r2 A1 A2 n1 c1 n2 c2 x y w ht h1 h2 l1 l2 hy (Lib.hid k) (Lib.hid k') (Lib.hid va) (Lib.hid vb)
            · exact main_op r1 r2 A1 A2 n1 c1 n2 c2 x y w ht h1 h2 l1 l2 hy (Lib.hid k) (Lib.hid k') (Lib.hid va) (Lib.hid vb)
            · exact main_on r1 r2 A1 A2 n1 c1 n2 c2 x y w ht h1 h2 l1 l2 hy (Lib.hid k) (Lib.hid k') (Lib.hid va) (Lib.hid vb)
            · exact main_po r1 r2 A1 A2 n1 c1 n2 c2 x y w ht h1 h2 l1 l2 hy (Lib.hid k) (Lib.hid k') (Lib.hid va) (Lib.hid vb)
            · exact main_pp r1 r2 A1 A2 n1 c1 n2 c2 x y w ht h1 h2 l1 l2 hy (Lib.hid k) (Lib.hid k') (Lib.hid va) (Lib.hid vb)
            · exact main_pn r1 r2 A1 A2 n1 c1 n2 c2 x y w ht h1 h2 l1 l2 hy (Lib.hid k) (Lib.hid k') (Lib.hid va) (Lib.hid vb)
            · exact main_no r1 r2 A1 A2 n1 c1 n2 c2 x y w ht h1 h2 l1 l2 hy (Lib.hid k) (Lib.hid k') (Lib.hid va) (Lib.hid vb)
            · exact main_np r1 r2 A1 A2 n1 c1 n2 c2 x y w ht h1 h2 l1 l2 hy (Lib.hid k) (Lib.hid k') (Lib.hid va) (Lib.hid vb)
            · exact main_nn r1 r2 A1 A2 n1 c1 n2 c2 x y w ht h1 h2 l1 l2 hy (Lib.hid k) (Lib.hid k') (Lib.hid va) (Lib.hid vb)
        · exact big_b r1 r2 A1 A2 n1 c1 n2 c2 x y w ht h1 h2 l1 l2 (Lib.hid va) (Lib.hid vb)
      · exact big_a r1 r2 A1 A2 n1 c1 n2 c2 x y w ht h1 h2 l1 l2 _ (Lib.hid va) (Lib.hid rfl)
    · exact long_2 r1 r2 A1 A2 n1 c1 n2 c2 w ht l1 (by omega)
  · exact long_1 r1 r2 A1 A2 n1 c1 n2 c2 w ht (by omega)
/-! The row's step. -/
set_option maxRecDepth 100000 in
theorem contract (H : Type) (enc : TypeId × Value → H) (W : World) (base : Nat) (args : Array Value) (ds gs : List (DataW H)) (before : List MemPlace)
    (hval : ∀ (j : Nat) t v, Tryd.f12.params[j]? = some t → args[j]? = some v → Value.okWide Tryd.prog W .any base t v)
    (hW : DataW.Whole enc Tryd.prog Tryd.f12.params.toList Rows.numDivisionSpec.vars false W args.toList ds gs before) (hL : laidMetH Tryd.prog Rows.numDivisionRow.laid W) :
    Calls Tryd.prog 12 args W fun e W' => ∃ v, e = .returned v ∧ Rows.numDivisionSpec.post enc Tryd.prog Tryd.f12 false true false false W args v W' := by
  have hW' := hW
  obtain ⟨p, q, hA0, hV, rfl, hfz, hnd⟩ := hW
  have hA : DataW.TrodAll enc Tryd.prog W 0 (fun _ => true) true Tryd.f12.params.toList args.toList ds p := hA0
  obtain ⟨rfl, rfl⟩ := trodVars_none hV
  simp only [List.append_nil] at hW'
  have hlt : ∀ x ∈ p, x.block < W.heap.size := fun x hx => by simpa using hW'.lt x hx
  have hAk := hA
  rw [Tryd.params12] at hA hval
  obtain ⟨v0, vs0, d0, ds0, p0, q0, hargs, rfl, rfl, h0, r0⟩ := trodAll_cons hA
  obtain ⟨v1, vs1, d1, ds1, p1, q1, rfl, rfl, rfl, h1, r1⟩ := trodAll_cons r0
  obtain ⟨rfl, rfl, rfl⟩ := trodAll_nil r1
  obtain rfl : args = #[v0, v1] := by cases args; simp_all
  obtain ⟨g0, A0, n0, c0, N0, rfl, m0⟩ := open_num (hval 0 24 v0 rfl rfl) h0
  obtain ⟨g1, A1, n1, c1, N1, rfl, m1⟩ := open_num (hval 1 24 v1 rfl rfl) h1
  refine (walk g0 g1 A0 A1 n0 c0 n1 c1 _ _ W (tab_of hL) ⟨N0, m0, rfl⟩ ⟨N1, m1, rfl⟩).mono fun e W' ⟨he, hg⟩ => ?_
  subst he
  exact ⟨_, rfl, _, _, _, [], _, [], hW', (trodAll_cons_mk (shut_bool Tryd.underlying4 _) trodAll_mk0), below_all hg (by kernel_rfl) hAk hlt, rfl, hg.frame _, fun h => by cases h⟩
theorem laid_met (os : Os) : laidMet Tryd.prog Rows.numDivisionRow.laid ((laidWorld os).forCall (fun _ _ => 0) ⟨#[], #[.agg #[.bool false, .slice none 0 0], .agg #[.bool false, .slice none 0 0]], []⟩).memory :=
  laidMet_laidAll _ (by kernel_rfl) (by kernel_rfl)
theorem reads (os : Os) {H : Type} (enc : TypeId × Value → H) : ∃ places, DataW.whole enc Tryd.prog ((laidWorld os).forCall (fun _ _ => 0) ⟨#[], #[.agg #[.bool false, .slice none 0 0], .agg #[.bool false, .slice none 0 0]], []⟩).memory Tryd.f12.params.toList Rows.numDivisionSpec.vars false (#[(Value.agg #[.bool false, .slice none 0 0]), (Value.agg #[.bool false, .slice none 0 0])] : Array Value).toList 8 = some ([.agg [.lit (.bool false), .nil], .agg [.lit (.bool false), .nil]], [], places) :=
  ⟨[], by kernel_rfl⟩
set_option maxRecDepth 100000 in
theorem lifted (os : Os) (started : os.Started) (H : Type) (enc : TypeId × Value → H) (F : Stop.Interp) :
    ReturnsInHanded {} Tryd.checked os 12 .any ((OpenSpec.ofChange Rows.numDivisionSpec).preRow enc Tryd.prog Tryd.f12 Rows.numDivisionRow.domain false Rows.numDivisionRow.laid) (((OpenSpec.ofChange Rows.numDivisionSpec).at F).post enc Tryd.prog Tryd.f12 false true false false) := by
  obtain ⟨places, hx⟩ := reads os enc
  refine returnsInHanded_of_row (C := Tryd.checked) (s := OpenSpec.ofChange Rows.numDivisionSpec) own started (by kernel_rfl) Tryd.func12
    (witness_row_at (enc := enc) (C := Tryd.checked) false (laidWorld os) #[.agg #[.bool false, .slice none 0 0], .agg #[.bool false, .slice none 0 0]] (laidWorld_os os) (by kernel_rfl) (by kernel_rfl) (by kernel_rfl)
      (OpenSpec.preRow_of_cond 8 hx (by kernel_rfl) (fun k hk => by cases hk) (by kernel_rfl) (laid_met os))) ?_
  intro W base args ds gs before hval hW _ _ _ hL _ _
  exact contract H enc W base args ds gs before hval hW hL
theorem said : Rows.NumDivisionSaid :=
  OpenClaim.holds_of_cond 12 Tryd.f12 rfl rfl rfl rfl rfl rfl rfl ⟨rfl, rfl, rfl, rfl, rfl⟩ rfl rfl rfl rfl rfl (by kernel_rfl) Tryd.func12 (by kernel_rfl)
    (of_decide_eq_true (by kernel_rfl)) (by unfold Func.isWrapper; first | (rw [if_pos (by decide +kernel)]; kernel_rfl) | (rw [if_neg (by decide +kernel)]; exact ⟨rfl, rfl⟩))
    (fun os started H enc _ F => by rw [OpenClaim.pre_eq_preRow]; exact lifted os started H enc F)
theorem plain (f : FuncId) (fn : Func) (hf : Tryd.pinned.checked.prog.funcNamed "moraine/morainelaw02.NumDivision" = some f) (hfn : Tryd.pinned.checked.prog.funcs[f]? = some fn) :
    false = Tryd.pinned.checked.prog.looks [] ∧ ∀ (j : Nat) t, fn.params[j]? = some t → Tryd.pinned.checked.prog.wantsStandIn t = false := by
  obtain rfl : f = 12 := Option.some.inj ((show Tryd.prog.funcNamed "moraine/morainelaw02.NumDivision" = some 12 by kernel_rfl).symm.trans hf) |>.symm
  obtain rfl : fn = Tryd.f12 := (Option.some.inj (Tryd.func12.symm.trans hfn)).symm
  refine ⟨by kernel_rfl, fun j t ht => ?_⟩
  rw [Tryd.params12] at ht
  have hm := Array.mem_of_getElem? ht
  have hall : (#[24, 24] : Array TypeId).toList.all (fun t => !Tryd.prog.wantsStandIn t) = true := by kernel_rfl
  have := List.all_eq_true.1 hall t (by simpa using hm)
  exact (show Tryd.prog.wantsStandIn t = false by simpa using this)
/-- THE STATEMENT -/
theorem card : Rows.NumDivisionCardSaid :=
  Claim7.holds_tied_plain_at .later [] _ _ _ _ said (fun _ h => by cases h) (by kernel_rfl) (fun _ h => by cases h) Go.Proofs.YtocoflojlliapaaDoor.numDivision_row_tie rfl ⟨rfl, rfl⟩ (by kernel_rfl) rfl plain (by kernel_rfl)
#print axioms card
end Go.Proofs.YtocoflojlliapaaDoor.numDivision
