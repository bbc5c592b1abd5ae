/- NumParses: THE LAW's WALK, AND THE STATEMENT. -/
import Derived.Test.YtocoflojlliapaaDoorV2
import Derived.ChangeMaps5
set_option linter.unusedVariables false
namespace Go.Proofs.YtocoflojlliapaaDoor.numParses
open Go.ChangeShapes Go.WideShapes Go.ChangeAt Go.RowKit Go.Proofs.YtocoflojlliapaaDoor
theorem extract_tail (s : ByteArray) : (s.extract 1 s.size).data.toList = s.data.toList.drop 1 := by
  rw [ByteArray.data_extract, Array.toList_extract, Lib.size_eq]
  exact List.take_of_length_le (by rw [List.length_drop]; exact Nat.le_refl _)
/-- a text, parted -/
theorem parted (s : ByteArray) (h : 0 < s.size) : ∃ a neg d, Split s neg d ∧ Begins s a ∧ d.data.toList = s.data.toList.drop a ∧ ((((s[0]).toNat : Int) == 45) = neg) := by
  have hh := head_at s h
  by_cases h1 : s[0] = 45
  · refine ⟨1, true, s.extract 1 s.size, .inl ⟨by rw [hh, h1], rfl, rfl⟩, .inl ⟨h, rfl, by rw [h1]; rfl⟩, extract_tail s, ?_⟩
    rw [h1]; rfl
  · have n1 : (((s[0]).toNat : Int) == 45) = false := beq_eq_false_iff_ne.2 (fun he => h1 (UInt8.toNat_inj.1 (by simpa using (show (s[0]).toNat = 45 by omega))))
    by_cases h2 : s[0] = 43
    · exact ⟨1, false, s.extract 1 s.size, .inr (.inl ⟨by rw [hh, h2], rfl, rfl⟩), .inr (.inl ⟨h, rfl, by rw [h2]; rfl⟩), extract_tail s, n1⟩
    · have n2 : (((s[0]).toNat : Int) == 43) = false := beq_eq_false_iff_ne.2 (fun he => h2 (UInt8.toNat_inj.1 (by simpa using (show (s[0]).toNat = 43 by omega))))
      exact ⟨0, false, s, .inr (.inr ⟨by rw [hh]; intro he; exact h1 (Option.some.inj he), by rw [hh]; intro he; exact h2 (Option.some.inj he), rfl, rfl⟩), .inr (.inr ⟨h, rfl, n1, n2⟩), rfl, n1⟩
set_option maxHeartbeats 1600000 in
theorem refparse_nil (s : ByteArray) (w : World) (hs : s.size = 0) :
    Calls Tryd.prog 49 #[.string s] w fun e w' => e = .returned (.tuple #[.agg #[.bool false, .slice none 0 0], .int .i64 9]) ∧ Below w.heap.size w w' := by
  obtain ⟨W, hW⟩ : ∃ W, W = w.alloc (.cells #[.bool false, .slice none 0 0] 30) := ⟨_, rfl⟩
  have hbW : Below w.heap.size w W := by rw [hW]; exact below_al (Below.refl _ _) _
  have t1 : Two W w.heap.size 30 (.bool false) (.slice none 0 0) := by rw [hW]; exact Two.made w 30 _ _
  have hz : s = ⟨#[]⟩ := by
    apply ByteArray.ext
    apply Array.ext'
    have := Lib.size_eq s
    exact List.length_eq_zero_iff.1 (by omega)
  subst hz
  have k1 := t1.fst
  have k2 := t1.snd
  have k3 := t1.free 0
  have k4 := t1.free 1
  have q1 := t1.set2 (a' := .bool false) (b' := .slice none 0 0)
  have f0 := Lib.hid q1.fst
  have f1 := Lib.hid q1.snd
  have bb := Lib.hid (below_two (g := w.heap.size) (a := .bool false) (b := .slice none 0 0) hbW (Nat.le_refl _))
  clear q1 hs
  go_enter Tryd.func49, Tryd.ntmps49
  go_wp2_with fail
  rw [← hW]
  have HW := Lib.hid hW
  clear hW
  go_rounds 1
  go_wp2
  refine bodyPost_ret (v := .tuple #[.agg #[.bool false, .slice none 0 0], .int .i64 9]) (by simp [results, Tryd.results49, go_sem, f0.out, f1.out]) rfl ⟨rfl, bb.out⟩
/-- both say the same: no number, for one reason -/
theorem main_no (s : ByteArray) (v : Int) (w : World) (ht : Tab w) (hs : s.size ≤ 1000) (hv : v = 9 ∨ v = 6)
    (P1 : ∀ V, Hid (Calls Tryd.prog 48 #[.string s] V fun e w' => e = .returned (.tuple #[.agg #[.bool false, .slice none 0 0], .int .i64 v]) ∧ Below V.heap.size V w'))
    (P2 : ∀ V, Hid (Calls Tryd.prog 49 #[.string s] V fun e w' => e = .returned (.tuple #[.agg #[.bool false, .slice none 0 0], .int .i64 v]) ∧ Below V.heap.size V w')) :
    Calls Tryd.prog 10 #[.string s] w fun e w' => e = .returned (.bool true) ∧ Below w.heap.size w w' := by
  have AW : ∀ V, Below w.heap.size w V → Hid (Calls Tryd.prog 18 #[] V fun e w' => e = .returned (.bool true) ∧ Below V.heap.size V w') :=
    fun V hb => Lib.hid (awake_any V (ht.below hb))
  clear ht
  rcases hv with rfl | rfl
  all_goals
    go_enter Tryd.func10, Tryd.ntmps10
    go_wp2_with fail
    refine ((P1 _).out).mono ?_
    rintro e y1 ⟨rfl, b1⟩
    have B1 := below_then b1 (below_al (Below.refl _ _) (.cells #[.bool false, .slice none 0 0] 24))
    have t1 := Two.made y1 24 (.bool false) (.slice none 0 0)
    go_wp2_with fail
    refine ((P2 _).out).mono ?_
    rintro e y2 ⟨rfl, b2⟩
    have B2 := below_then b2 (below_al (Below.refl _ _) (.cells #[.bool false, .slice none 0 0] 30))
    have t2 := t1.below' B2
    have B := below_then B1 B2
    clear t1 B1 B2 b1 b2
    have k1 := t2.fst
    have k2 := t2.snd
    go_wp2_with fail
    refine ((AW _ B).out).mono ?_
    rintro e y3 ⟨rfl, b3⟩
    go_wp2
    go_ret
    exact ⟨rfl, below_then B b3⟩
theorem main_yes (s : ByteArray) (z : Int) (w : World) (ht : Tab w) (hs : s.size ≤ 1000) (hz : dl z.natAbs ≤ 48)
    (P1 : ∀ V, Hid (Calls Tryd.prog 48 #[.string s] V fun e w' => ∃ r A m c, e = .returned (.tuple #[.agg #[.bool r, .slice A m c], .int .i64 0]) ∧ Can w' r A m c z ∧ Below V.heap.size V w'))
    (P2 : ∀ V, Hid (Calls Tryd.prog 49 #[.string s] V fun e w' => ∃ r A m c, e = .returned (.tuple #[.agg #[.bool r, .slice A m c], .int .i64 0]) ∧ BV 1536 w' r A m c z ∧ Below V.heap.size V w')) :
    Calls Tryd.prog 10 #[.string s] w fun e w' => e = .returned (.bool true) ∧ Below w.heap.size w w' := by
  have AW : ∀ V, Below w.heap.size w V → Hid (Calls Tryd.prog 18 #[] V fun e w' => e = .returned (.bool true) ∧ Below V.heap.size V w') :=
    fun V hb => Lib.hid (awake_any V (ht.below hb))
  have IS : ∀ V r A m c r2 A2 m2 c2, Can V r A m c z → BV 1536 V r2 A2 m2 c2 z → Hid (Calls Tryd.prog 25 #[.agg #[.bool r, .slice A m c], .int .i64 0, .agg #[.bool r2, .slice A2 m2 c2]] V fun e w' => e = .returned (.bool true) ∧ Below V.heap.size V w') :=
    fun V r A m c r2 A2 m2 c2 h1 h2 => Lib.hid (is_can V (by rw [resZ_yes hz]; exact h1) h2.1 (by have := h2.2; omega) 0 (Lib.hid (resV_yes hz)))
  clear ht hz
  go_enter Tryd.func10, Tryd.ntmps10
  go_wp2_with fail
  refine ((P1 _).out).mono ?_
  rintro e y1 ⟨r, A, m, c, rfl, Q1, b1⟩
  have ba := below_al (Below.refl y1.heap.size y1) (.cells #[.bool r, .slice A m c] 24)
  have B1 := below_then b1 ba
  have t1 := Two.made y1 24 (.bool r) (.slice A m c)
  replace Q1 := Q1.below ba
  clear b1 ba
  go_wp2_with fail
  refine ((P2 _).out).mono ?_
  rintro e y2 ⟨r2, A2, m2, c2, rfl, Q2, b2⟩
  have ba := below_al (Below.refl y2.heap.size y2) (.cells #[.bool r2, .slice A2 m2 c2] 30)
  have B2 := below_then b2 ba
  have t2 := Two.made y2 30 (.bool r2) (.slice A2 m2 c2)
  replace Q2 := Q2.below ba
  replace Q1 := Q1.below B2
  replace t1 := t1.below' B2
  have B := below_then B1 B2
  clear b2 ba B1 B2
  have k1 := t1.fst
  have k2 := t1.snd
  have k3 := t2.fst
  have k4 := t2.snd
  go_wp2_with fail
  have CT := IS _ r A m c r2 A2 m2 c2 Q1 Q2
  clear IS Q1 Q2
  refine (CT.out).mono ?_
  rintro e y3 ⟨rfl, b3⟩
  replace B := below_then B b3
  clear b3 CT
  go_wp2_with fail
  refine ((AW _ B).out).mono ?_
  rintro e y4 ⟨rfl, b4⟩
  go_wp2
  go_ret
  exact ⟨rfl, below_then B b4⟩
theorem long_1 (s : ByteArray) (w : World) (ht : Tab w) (hs : 1000 < s.size) (hm : s.size ≤ 9223372036854775807) :
    Calls Tryd.prog 10 #[.string s] w fun e w' => e = .returned (.bool true) ∧ Below w.heap.size w w' := by
  have AW := Lib.hid (awake_any w ht)
  go_enter Tryd.func10, Tryd.ntmps10
  go_wp2_with fail
  refine (AW.out).mono ?_
  rintro e y4 ⟨rfl, b4⟩
  go_wp2
  go_ret
  exact ⟨rfl, b4⟩
theorem walk (s : ByteArray) (w : World) (ht : Tab w) (hm : s.size ≤ maxLen) :
    Calls Tryd.prog 10 #[.string s] w fun e w' => e = .returned (.bool true) ∧ Below w.heap.size w w' := by
  unfold maxLen at hm
  by_cases hs : s.size ≤ 1000
  · rcases Nat.eq_zero_or_pos s.size with h0 | h0
    · have hl : s.data.toList = [] := List.length_eq_zero_iff.1 (by rw [← Lib.size_eq]; exact h0)
      exact main_no s 9 w ht hs (.inl rfl) (fun V => Lib.hid (parse_form s false s V (by omega) (.inr (.inr ⟨by rw [hl]; simp, by rw [hl]; simp, rfl, rfl⟩)) (Lib.hid (by rw [hl]; simp)))) (fun V => Lib.hid (refparse_nil s V h0))
    · obtain ⟨a, neg, d, hsp, hbg, hd, hng⟩ := parted s h0
      by_cases hdig : s.data.toList.drop a ≠ [] ∧ isDig (s.data.toList.drop a)
      · obtain ⟨N, hN⟩ : ∃ N, decVal (s.data.toList.drop a) = N := ⟨_, rfl⟩
        have hla : a < s.size := by
          rcases Nat.lt_or_ge a s.size with h | h
          · exact h
          · exact absurd (List.drop_of_length_le (by rw [← Lib.size_eq]; exact h)) hdig.1
        have PR := fun V => refparse_dig s a neg N V hs (Lib.hid hbg) (Lib.hid ⟨h0, hng⟩) hla (Lib.hid hdig.2) (Lib.hid hN)
        by_cases hf : dl N ≤ 48
        · have hbf : bl N ≤ 1536 := (bl_dl N 48 1536 rfl).2 hf
          have hz : (sg neg N).natAbs = N := (sg_abs rfl).symm
          refine main_yes s (sg neg N) w ht hs (by rw [hz]; exact hf) (fun V => Lib.hid ?_) (fun V => Lib.hid ?_)
          · refine (parse_ok s neg d V (by omega) hsp (by rw [hd]; exact hdig.1) (by rw [hd]; exact hdig.2) N (Lib.hid (by rw [hd]; exact hN.symm)) hf).mono fun e w' hq => ?_
            obtain ⟨A, c, rfl, hfr⟩ := hq
            exact ⟨_, A, _, c, rfl, ⟨signB_sg rfl, by rw [hz], hf, by rw [hz]; exact (Mag.of_fresh hfr).1⟩, hfr.2⟩
          · refine (PR V).mono fun e w' hq => ?_
            rcases hq with ⟨_, B, d2, rfl, hb, hw⟩ | ⟨h1, _⟩
            · exact ⟨_, B, _, d2, rfl, ⟨⟨signB_sg rfl, by rw [hz], by rw [hz]; exact hb⟩, hbf⟩, hw⟩
            · omega
        · have hbf : 1536 < bl N := by have := mt (bl_dl N 48 1536 rfl).1 hf; omega
          refine main_no s 6 w ht hs (.inr rfl) (fun V => Lib.hid ?_) (fun V => Lib.hid ?_)
          · exact (parse_big s neg d V (by omega) hsp (by rw [hd]; exact hdig.1) (by rw [hd]; exact hdig.2) (by rw [hd, hN]; omega)).mono fun e w' hq => hq
          · refine (PR V).mono fun e w' hq => ?_
            rcases hq with ⟨h1, _⟩ | ⟨_, he, hw⟩
            · omega
            · exact ⟨he, hw⟩
      · exact main_no s 9 w ht hs (.inl rfl) (fun V => Lib.hid (parse_form s neg d V (by omega) hsp (Lib.hid (by rw [hd]; exact hdig)))) (fun V => Lib.hid (refparse_form s a V hs (Lib.hid hbg) (Lib.hid hdig)))
  · exact long_1 s w ht (by omega) (by omega)
/-! The row's step. -/
set_option maxRecDepth 100000 in
theorem contract (H : Type) (enc : TypeId × Value → H) (W : World) (base : Nat) (args : Array Value) (ds gs : List (DataW H)) (before : List MemPlace)
    (hval : ∀ (j : Nat) t v, Tryd.f10.params[j]? = some t → args[j]? = some v → Value.okWide Tryd.prog W .any base t v)
    (hW : DataW.Whole enc Tryd.prog Tryd.f10.params.toList Rows.numParsesSpec.vars false W args.toList ds gs before) (hL : laidMetH Tryd.prog Rows.numParsesRow.laid W) :
    Calls Tryd.prog 10 args W fun e W' => ∃ v, e = .returned v ∧ Rows.numParsesSpec.post enc Tryd.prog Tryd.f10 false true false false W args v W' := by
  have hW' := hW
  obtain ⟨p, q, hA0, hV, rfl, hfz, hnd⟩ := hW
  have hA : DataW.TrodAll enc Tryd.prog W 0 (fun _ => true) true Tryd.f10.params.toList args.toList ds p := hA0
  obtain ⟨rfl, rfl⟩ := trodVars_none hV
  simp only [List.append_nil] at hW'
  have hlt : ∀ x ∈ p, x.block < W.heap.size := fun x hx => by simpa using hW'.lt x hx
  have hAk := hA
  rw [Tryd.params10] at hA hval
  obtain ⟨v0, vs0, d0, ds0, p0, q0, hargs, rfl, rfl, h0, r0⟩ := trodAll_cons hA
  obtain ⟨rfl, rfl, rfl⟩ := trodAll_nil r0
  obtain rfl : args = #[v0] := by cases args; simp_all
  obtain ⟨x0, rfl, rfl, rfl, hs0⟩ := Go.ChangeMaps.open_string Tryd.underlying9 (hval 0 9 v0 rfl rfl) h0
  refine (walk x0 W (tab_of hL) hs0).mono fun e W' ⟨he, hg⟩ => ?_
  subst he
  exact ⟨_, rfl, _, _, _, [], _, [], hW', (trodAll_cons_mk (shut_bool Tryd.underlying4 _) trodAll_mk0), below_all hg (by kernel_rfl) hAk hlt, rfl, hg.frame _, fun h => by cases h⟩
theorem laid_met (os : Os) : laidMet Tryd.prog Rows.numParsesRow.laid ((laidWorld os).forCall (fun _ _ => 0) ⟨#[], #[.string ⟨#[]⟩], []⟩).memory :=
  laidMet_laidAll _ (by kernel_rfl) (by kernel_rfl)
theorem reads (os : Os) {H : Type} (enc : TypeId × Value → H) : ∃ places, DataW.whole enc Tryd.prog ((laidWorld os).forCall (fun _ _ => 0) ⟨#[], #[.string ⟨#[]⟩], []⟩).memory Tryd.f10.params.toList Rows.numParsesSpec.vars false (#[(Value.string ⟨#[]⟩)] : Array Value).toList 8 = some ([.lit (.string [])], [], places) :=
  ⟨[], by kernel_rfl⟩
set_option maxRecDepth 100000 in
theorem lifted (os : Os) (started : os.Started) (H : Type) (enc : TypeId × Value → H) (F : Stop.Interp) :
    ReturnsInHanded {} Tryd.checked os 10 .any ((OpenSpec.ofChange Rows.numParsesSpec).preRow enc Tryd.prog Tryd.f10 Rows.numParsesRow.domain false Rows.numParsesRow.laid) (((OpenSpec.ofChange Rows.numParsesSpec).at F).post enc Tryd.prog Tryd.f10 false true false false) := by
  obtain ⟨places, hx⟩ := reads os enc
  refine returnsInHanded_of_row (C := Tryd.checked) (s := OpenSpec.ofChange Rows.numParsesSpec) own started (by kernel_rfl) Tryd.func10
    (witness_row_at (enc := enc) (C := Tryd.checked) false (laidWorld os) #[.string ⟨#[]⟩] (laidWorld_os os) (by kernel_rfl) (by kernel_rfl) (by kernel_rfl)
      (OpenSpec.preRow_of_cond 8 hx (by kernel_rfl) (fun k hk => by cases hk) (by kernel_rfl) (laid_met os))) ?_
  intro W base args ds gs before hval hW _ _ _ hL _ _
  exact contract H enc W base args ds gs before hval hW hL
theorem said : Rows.NumParsesSaid :=
  OpenClaim.holds_of_cond 10 Tryd.f10 rfl rfl rfl rfl rfl rfl rfl ⟨rfl, rfl, rfl, rfl, rfl⟩ rfl rfl rfl rfl rfl (by kernel_rfl) Tryd.func10 (by kernel_rfl)
    (of_decide_eq_true (by kernel_rfl)) (by unfold Func.isWrapper; first | (rw [if_pos (by decide +kernel)]; kernel_rfl) | (rw [if_neg (by decide +kernel)]; exact ⟨rfl, rfl⟩))
    (fun os started H enc _ F => by rw [OpenClaim.pre_eq_preRow]; exact lifted os started H enc F)
theorem plain (f : FuncId) (fn : Func) (hf : Tryd.pinned.checked.prog.funcNamed "moraine/morainelaw02.NumParses" = some f) (hfn : Tryd.pinned.checked.prog.funcs[f]? = some fn) :
    false = Tryd.pinned.checked.prog.looks [] ∧ ∀ (j : Nat) t, fn.params[j]? = some t → Tryd.pinned.checked.prog.wantsStandIn t = false := by
  obtain rfl : f = 10 := Option.some.inj ((show Tryd.prog.funcNamed "moraine/morainelaw02.NumParses" = some 10 by kernel_rfl).symm.trans hf) |>.symm
  obtain rfl : fn = Tryd.f10 := (Option.some.inj (Tryd.func10.symm.trans hfn)).symm
  refine ⟨by kernel_rfl, fun j t ht => ?_⟩
  rw [Tryd.params10] at ht
  have hm := Array.mem_of_getElem? ht
  have hall : (#[9] : Array TypeId).toList.all (fun t => !Tryd.prog.wantsStandIn t) = true := by kernel_rfl
  have := List.all_eq_true.1 hall t (by simpa using hm)
  exact (show Tryd.prog.wantsStandIn t = false by simpa using this)
/-- THE STATEMENT -/
theorem card : Rows.NumParsesCardSaid :=
  Claim7.holds_tied_plain_at .later [] _ _ _ _ said (fun _ h => by cases h) (by kernel_rfl) (fun _ h => by cases h) Go.Proofs.YtocoflojlliapaaDoor.numParses_row_tie rfl ⟨rfl, rfl⟩ (by kernel_rfl) rfl plain (by kernel_rfl)
#print axioms card
end Go.Proofs.YtocoflojlliapaaDoor.numParses
