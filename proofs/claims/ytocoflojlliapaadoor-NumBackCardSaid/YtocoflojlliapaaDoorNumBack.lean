/- NumBack: THE LAW's WALK, AND THE STATEMENT. -/
import Derived.Test.YtocoflojlliapaaDoorH8
set_option linter.unusedVariables false
namespace Go.Proofs.YtocoflojlliapaaDoor.numBack
open Go.ChangeShapes Go.WideShapes Go.ChangeAt Go.RowKit Go.Proofs.YtocoflojlliapaaDoor
theorem resV_two (z : Int) : resV z = 0 ∨ resV z = 6 := by
  by_cases h : dl z.natAbs ≤ 48
  · exact .inl (resV_yes h)
  · exact .inr (resV_no h)
theorem resZ_of0 {z : Int} (h : resV z = 0) : resZ z = z := by
  by_cases hf : dl z.natAbs ≤ 48
  · exact resZ_yes hf
  · rw [resV_no hf] at h; omega
theorem extract_tail (s : ByteArray) : (s.extract 1 s.size).data.toList = s.data.toList.drop 1 := by
  rw [ByteArray.data_extract, Array.toList_extract, Lib.size_eq]
  exact List.take_of_length_le (by rw [List.length_drop]; exact Nat.le_refl _)
theorem extract_behind (c : UInt8) (D : ByteArray) : ((⟨#[c]⟩ : ByteArray) ++ D).extract 1 ((⟨#[c]⟩ : ByteArray) ++ D).size = D := by
  apply ByteArray.ext
  apply Array.ext'
  rw [extract_tail, ByteArray.data_append, Array.toList_append]
  rfl
theorem head_behind (c : UInt8) (D : ByteArray) : ((⟨#[c]⟩ : ByteArray) ++ D).data.toList.head? = some c := by
  rw [ByteArray.data_append, Array.toList_append]
  rfl
theorem size_behind (c : UInt8) (D : ByteArray) : ((⟨#[c]⟩ : ByteArray) ++ D).size ≤ D.size + 1 := by
  rw [ByteArray.size_append]
  exact Nat.le_of_eq (Nat.add_comm 1 D.size)
theorem fix_three (x : Int) : (fixB x = true ∧ fixV x = x ∧ -1152921504606846976 ≤ x ∧ x < 1152921504606846976) ∨ (fixB x = false ∧ x < -1152921504606846976) ∨ (fixB x = false ∧ 1152921504606846976 ≤ x) := by
  by_cases h : -1152921504606846976 ≤ x ∧ x < 1152921504606846976
  · have e : fixB x = true := by simp [fixB, h]
    exact .inl ⟨e, by rw [fixV, if_pos e], h⟩
  · have e : fixB x = false := by simp only [fixB, decide_eq_false_iff_not]; exact h
    by_cases h2 : x < -1152921504606846976
    · exact .inr (.inl ⟨e, h2⟩)
    · exact .inr (.inr ⟨e, by omega⟩)
theorem dec_head (N : Nat) (c : UInt8) (hc : ¬ (48 ≤ c ∧ c ≤ 57)) : (Lib.decDigits N).head? ≠ some c := by
  intro h
  have hm : c ∈ Lib.decDigits N := List.mem_of_mem_head? h
  exact hc (dec_isDig N c hm)
set_option maxHeartbeats 12800000 in
set_option maxRecDepth 100000 in
theorem main_n (na : Bool) (A1 : Option Addr) (n1 c1 : Nat) (sa x : Int) (q : Int) (w : World) (ht : Tab w) (h1 : NumAt w na A1 n1 c1 sa) (l1 : n1 ≤ 60) (x0 : -9223372036854775808 ≤ x) (x1 : x ≤ 9223372036854775807) (q0 : 0 ≤ q) (q1 : q ≤ 255) (hv : Hid (resV sa = 0)) (hneg : Hid (sa < 0)) :
    Calls Tryd.prog 13 #[.agg #[.bool na, .slice A1 n1 c1], .int .i64 x, .int .u8 q] w fun e w' => e = .returned (.bool true) ∧ Below w.heap.size w w' := by
  obtain ⟨W, hW⟩ : ∃ W, W = w.alloc (.cells #[.bool na, .slice A1 n1 c1] 24) := ⟨_, rfl⟩
  have hbW : Below w.heap.size w W := by rw [hW]; exact below_al (Below.refl _ _) _
  have t1 : Two W w.heap.size 24 (.bool na) (.slice A1 n1 c1) := by rw [hW]; exact Two.made w 24 _ _
  have m1 := h1.below hbW
  obtain ⟨s, hs⟩ : ∃ s : ByteArray, s = ⟨(zText sa).toArray⟩ := ⟨_, rfl⟩
  obtain ⟨L, hL⟩ : ∃ L, L = Lib.decDigits sa.natAbs := ⟨_, rfl⟩
  obtain ⟨K, hK⟩ : ∃ K : Nat, (K : Int) = Int.tmod q 9 := ⟨(Int.tmod q 9).toNat, by rw [Int.tmod_eq_emod_of_nonneg q0]; omega⟩
  have K8 : K ≤ 8 := by rw [Int.tmod_eq_emod_of_nonneg q0] at hK; omega
  have hsl : s.data.toList = 45 :: L := by rw [hs, hL]; simp [zText, hneg.out]
  have hfit : Hid (dl sa.natAbs ≤ 48) := Lib.hid (by
    by_cases h : dl sa.natAbs ≤ 48
    · exact h
    · have := hv.out; rw [resV_no h] at this; omega)
  have hLlen : L.length ≤ 481 := by rw [hL]; exact dec_short hfit.out
  have hsz : 1 ≤ s.size := by rw [Lib.size_eq, hsl, hL]; have := dec_len_pos sa.natAbs; simp; try omega
  have NG : ∀ V, NumAt V na A1 n1 c1 sa → Hid (Calls Tryd.prog 21 #[.agg #[.bool na, .slice A1 n1 c1]] V fun e w' => ∃ r A m c, e = .returned (.tuple #[.agg #[.bool r, .slice A m c], .int .i64 0]) ∧ Can w' r A m c sa ∧ Below V.heap.size V w') := fun V h => Lib.hid ((norm_gives V h (by omega)).mono fun e w' hq => by
    obtain ⟨r, A, m, c, he, hc, hb⟩ := hq
    exact ⟨r, A, m, c, by rw [he, hv.out], by rw [resZ_of0 hv.out] at hc; exact hc, hb⟩)
  have LA := fun W => Lib.hid (long_no na A1 n1 c1 l1 W)
  have TX : ∀ V r A m c, NumAt V r A m c sa → m ≤ 100 → Tab V → Hid (Calls Tryd.prog 46 #[.agg #[.bool r, .slice A m c]] V fun e w' => e = .returned (.string s) ∧ Below V.heap.size V w') := fun V r A m c h hm hT => Lib.hid (by rw [hs]; exact text_at V h hm hT)
  have PA : ∀ V, Hid (Calls Tryd.prog 48 #[.string s] V fun e w' => ∃ r A m c, e = .returned (.tuple #[.agg #[.bool r, .slice A m c], .int .i64 0]) ∧ Can w' r A m c sa ∧ Below V.heap.size V w') := fun V => Lib.hid (parse_can s (s.extract 1 s.size) 0 sa V (by omega) (by rw [extract_tail, hsl, hL]; rfl) (.inl ⟨by rw [hsl]; rfl, decide_eq_true hneg.out, rfl⟩) (by rw [ByteArray.size_extract]; omega) hfit.out)
  have PB : ∀ V (D : ByteArray), D.data.toList = List.replicate K 48 ++ L → Hid (Calls Tryd.prog 48 #[.string ((⟨#[45]⟩ : ByteArray) ++ D)] V fun e w' => ∃ r A m c, e = .returned (.tuple #[.agg #[.bool r, .slice A m c], .int .i64 0]) ∧ Can w' r A m c sa ∧ Below V.heap.size V w') := fun V D hD => Lib.hid (parse_can ((⟨#[45]⟩ : ByteArray) ++ D) D K sa V (by omega) (by rw [hD, hL]) (.inl ⟨head_behind 45 D, decide_eq_true hneg.out, (extract_behind 45 D).symm⟩) (size_behind 45 D) hfit.out)
  have hdl : Hid ((s.extract 1 s.size).data.toList = L) := Lib.hid (by rw [extract_tail, hsl]; rfl)
  obtain ⟨g, hg⟩ : ∃ g, cmpI sa 0 = g := ⟨_, rfl⟩
  have SG : ∀ V r A m c, NumAt V r A m c sa → m ≤ 100 → Hid (Calls Tryd.prog 27 #[.agg #[.bool r, .slice A m c]] V fun e w' => e = .returned (.int .i64 g) ∧ Below V.heap.size V w') := fun V r A m c h hm => Lib.hid ((sign_at V h (by omega)).mono fun e w' ⟨he, hb⟩ => ⟨by rw [he, hg], hb⟩)
  have hg0 : g < 0 := by rw [← hg]; rw [cmpI_lt hneg.out]; decide
  have AW : ∀ V, Below w.heap.size w V → Hid (Calls Tryd.prog 18 #[] V fun e w' => e = .returned (.bool true) ∧ Below w.heap.size w w') :=
    fun V hb => Lib.hid ((awake_any V (ht.below hb)).mono fun e w' ⟨he, hw⟩ => ⟨he, below_then hb hw⟩)
  have OF : ∀ V, Hid (Calls Tryd.prog 32 #[.int .i64 x] V fun e w' => ∃ r A m c, e = .returned (.agg #[.bool r, .slice A m c]) ∧ Can w' r A m c x ∧ Below V.heap.size V w') := fun V => Lib.hid (of_can x x0 x1 V)
  have FX : ∀ V r A m c, Can V r A m c x → Hid (Calls Tryd.prog 30 #[.agg #[.bool r, .slice A m c]] V fun e w' => e = .returned (.tuple #[.int .i64 (fixV x), .bool (fixB x)]) ∧ Below V.heap.size V w') := fun V r A m c h => Lib.hid (fix_at V h.at (by have := h.le; omega))
  have TB : ∀ V, Below w.heap.size w V → Hid (Tab V) := fun V hb => Lib.hid (ht.below hb)
  have F3 := Lib.hid (fix_three x)
  generalize fixV x = fv at FX F3
  generalize fixB x = fb at FX F3
  have HSL := Lib.hid hsl
  have HKK := Lib.hid hK
  have k1 := t1.fst
  have k2 := t1.snd
  clear hs hL hg hsl hK h1 ht
  go_enter Tryd.func13, Tryd.ntmps13
  go_wp2_with fail
  rw [← hW]
  have HW := Lib.hid hW
  clear hW
  refine ((NG W m1).out).mono ?_
  rintro e y1 ⟨r, A, m, c, rfl, Q, b1⟩
  have bb := below_then b1 (below_al (Below.refl _ _) (.cells #[.bool r, .slice A m c] 24))
  replace t1 := t1.below' bb
  replace m1 := m1.below bb
  replace Q := Q.below (below_al (Below.refl _ _) (.cells #[.bool r, .slice A m c] 24))
  have tm := Two.made y1 24 (.bool r) (.slice A m c)
  have B := below_then hbW bb
  clear bb b1 k1 k2 hbW NG
  have k1 := t1.fst
  have k2 := t1.snd
  go_wp2_with fail
  refine ((LA _).out).mono ?_
  rintro e y2 ⟨rfl, bb⟩
  replace t1 := t1.below' bb
  replace tm := tm.below' bb
  replace m1 := m1.below bb
  replace Q := Q.below bb
  replace B := below_then B bb
  clear bb
  clear k1 k2
  have k1 := tm.fst
  have k2 := tm.snd
  go_wp2_with fail
  refine ((TX _ r A m c Q.at (by have := Q.le; omega) (TB _ B).out).out).mono ?_
  rintro e y3 ⟨rfl, bb⟩
  replace t1 := t1.below' bb
  replace tm := tm.below' bb
  replace m1 := m1.below bb
  replace Q := Q.below bb
  replace B := below_then B bb
  clear bb
  go_wp2_with fail
  refine ((PA _).out).mono ?_
  rintro e y4 ⟨rp, Ap, mp, cp, rfl, Qp, b1⟩
  have bb := below_then b1 (below_al (Below.refl _ _) (.cells #[.bool rp, .slice Ap mp cp] 24))
  replace Qp := Qp.below (below_al (Below.refl _ _) (.cells #[.bool rp, .slice Ap mp cp] 24))
  have tp := Two.made y4 24 (.bool rp) (.slice Ap mp cp)
  replace t1 := t1.below' bb
  replace tm := tm.below' bb
  replace m1 := m1.below bb
  replace Q := Q.below bb
  replace B := below_then B bb
  clear bb
  clear k1 k2 b1
  have k1 := tm.fst
  have k2 := tm.snd
  have k3 := tp.fst
  have k4 := tp.snd
  go_wp2_with fail
  have CT := Lib.hid (same_can Qp Q)
  refine (CT.out).mono ?_
  rintro e y5 ⟨rfl, bb⟩
  replace t1 := t1.below' bb
  replace tm := tm.below' bb
  replace m1 := m1.below bb
  replace Q := Q.below bb
  replace B := below_then B bb
  clear bb
  clear k1 k2 k3 k4 CT tp Qp
  have k1 := t1.fst
  have k2 := t1.snd
  go_wp2_with fail
  refine ((TX _ na A1 n1 c1 m1 (by omega) (TB _ B).out).out).mono ?_
  rintro e y6 ⟨rfl, bb⟩
  replace t1 := t1.below' bb
  replace tm := tm.below' bb
  replace m1 := m1.below bb
  replace Q := Q.below bb
  replace B := below_then B bb
  clear bb
  clear k1 k2
  have k1 := tm.fst
  have k2 := tm.snd
  go_wp2_with fail
  refine ((SG _ r A m c Q.at (by have := Q.le; omega)).out).mono ?_
  rintro e y7 ⟨rfl, bb⟩
  replace t1 := t1.below' bb
  replace tm := tm.below' bb
  replace m1 := m1.below bb
  replace Q := Q.below bb
  replace B := below_then B bb
  clear bb
  clear k1 k2 SG TX PA LA
  go_wp2_with fail
  go_quiet (fail)
  obtain ⟨V, hV⟩ : ∃ V, V = y7.drewN nq := ⟨_, rfl⟩
  have tv : Two V w.heap.size 24 (.bool na) (.slice A1 n1 c1) := by rw [hV]; exact t1
  have tw : Two V y1.heap.size 24 (.bool r) (.slice A m c) := by rw [hV]; exact tm
  have Q' : Can V r A m c sa := by rw [hV]; exact Q
  have B' : Below w.heap.size w V := by rw [hV]; exact below_drewN B _
  rw [← hV]
  clear hV t1 tm Q B m1
  go_wp2_with fail
  go_loopw [13, 14] (fun d i wr => ∃ (k : Nat) (D : ByteArray), k ≤ K ∧ d = .string D ∧ Hid (D.data.toList = List.replicate k 48 ++ L) ∧ i = .int .i64 k ∧ wr = V) (fun _ i _ => K - (intOf i).toNat)
  case atStart => exact ⟨0, _, Nat.zero_le _, rfl, Lib.hid hdl.out, rfl, rfl⟩
  case round =>
    obtain ⟨k, D, hk, rfl, HD, rfl, rfl⟩ := hrel
    have eK1 : Int.tmod q 9 = (K : Int) := HKK.out.symm
    have hDs : D.size ≤ 500 := by rw [Lib.size_eq, HD.out, List.length_append, List.length_replicate]; omega
    by_cases hlt : k < K
    · go_wp2
      go_roundw
      case rel => exact ⟨k + 1, _, by omega, rfl, Lib.hid (by rw [ByteArray.data_append, Array.toList_append, HD.out]; rfl), by go_num, (by first | rfl | trivial)⟩
      case measure => simp [intOf]; omega
    · have ek : k = K := by omega
      subst ek
      have PQ := Lib.hid ((PB wr D HD.out).out)
      go_wp2_with fail
      refine (PQ.out).mono ?_
      rintro e y8 ⟨rz, Az, mz, cz, rfl, Qz, b1⟩
      have bb := below_then b1 (below_al (Below.refl _ _) (.cells #[.bool rz, .slice Az mz cz] 24))
      replace Qz := Qz.below (below_al (Below.refl _ _) (.cells #[.bool rz, .slice Az mz cz] 24))
      have tz := Two.made y8 24 (.bool rz) (.slice Az mz cz)
      replace tw := tw.below' bb
      replace Q' := Q'.below bb
      replace B' := below_then B' bb
      clear bb b1 PQ PB tv
      have k1 := tz.fst
      have k2 := tz.snd
      have k3 := tw.fst
      have k4 := tw.snd
      go_wp2_with fail
      have CT := Lib.hid (same_can Qz Q')
      refine (CT.out).mono ?_
      rintro e y9 ⟨rfl, bb⟩
      replace B' := below_then B' bb
      clear k1 k2 k3 k4 CT tz Qz Q' tw bb
      go_wp2_with fail
      refine ((OF _).out).mono ?_
      rintro e y10 ⟨ro, Ao, mo, co, rfl, Qo, bb⟩
      replace B' := below_then B' bb
      clear bb
      go_wp2_with fail
      refine ((FX _ ro Ao mo co Qo).out).mono ?_
      rintro e y11 ⟨rfl, bb⟩
      replace B' := below_then B' bb
      clear bb FX OF eK1 HKK
      obtain ⟨rfl, rfl, r0, r1⟩ | ⟨rfl, r0⟩ | ⟨rfl, r0⟩ := F3.out
      all_goals
        go_wp2_with fail
        refine ((AW _ B').out).mono ?_
        rintro e ye ⟨rfl, be⟩
        go_wp2
        go_ret
        exact ⟨by first | rfl | (simp; omega), be⟩
set_option maxHeartbeats 12800000 in
set_option maxRecDepth 100000 in
theorem main_p (na : Bool) (A1 : Option Addr) (n1 c1 : Nat) (sa x : Int) (q : Int) (w : World) (ht : Tab w) (h1 : NumAt w na A1 n1 c1 sa) (l1 : n1 ≤ 60) (x0 : -9223372036854775808 ≤ x) (x1 : x ≤ 9223372036854775807) (q0 : 0 ≤ q) (q1 : q ≤ 255) (hv : Hid (resV sa = 0)) (hneg : Hid (0 ≤ sa)) :
    Calls Tryd.prog 13 #[.agg #[.bool na, .slice A1 n1 c1], .int .i64 x, .int .u8 q] w fun e w' => e = .returned (.bool true) ∧ Below w.heap.size w w' := by
  obtain ⟨W, hW⟩ : ∃ W, W = w.alloc (.cells #[.bool na, .slice A1 n1 c1] 24) := ⟨_, rfl⟩
  have hbW : Below w.heap.size w W := by rw [hW]; exact below_al (Below.refl _ _) _
  have t1 : Two W w.heap.size 24 (.bool na) (.slice A1 n1 c1) := by rw [hW]; exact Two.made w 24 _ _
  have m1 := h1.below hbW
  obtain ⟨s, hs⟩ : ∃ s : ByteArray, s = ⟨(zText sa).toArray⟩ := ⟨_, rfl⟩
  obtain ⟨L, hL⟩ : ∃ L, L = Lib.decDigits sa.natAbs := ⟨_, rfl⟩
  obtain ⟨K, hK⟩ : ∃ K : Nat, (K : Int) = Int.tmod q 9 := ⟨(Int.tmod q 9).toNat, by rw [Int.tmod_eq_emod_of_nonneg q0]; omega⟩
  have K8 : K ≤ 8 := by rw [Int.tmod_eq_emod_of_nonneg q0] at hK; omega
  have hsl : s.data.toList =  L := by rw [hs, hL]; simp [zText, show ¬ sa < 0 from by have := hneg.out; omega]
  have hfit : Hid (dl sa.natAbs ≤ 48) := Lib.hid (by
    by_cases h : dl sa.natAbs ≤ 48
    · exact h
    · have := hv.out; rw [resV_no h] at this; omega)
  have hLlen : L.length ≤ 481 := by rw [hL]; exact dec_short hfit.out
  have hsz : 1 ≤ s.size := by rw [Lib.size_eq, hsl, hL]; have := dec_len_pos sa.natAbs; simp; try omega
  have NG : ∀ V, NumAt V na A1 n1 c1 sa → Hid (Calls Tryd.prog 21 #[.agg #[.bool na, .slice A1 n1 c1]] V fun e w' => ∃ r A m c, e = .returned (.tuple #[.agg #[.bool r, .slice A m c], .int .i64 0]) ∧ Can w' r A m c sa ∧ Below V.heap.size V w') := fun V h => Lib.hid ((norm_gives V h (by omega)).mono fun e w' hq => by
    obtain ⟨r, A, m, c, he, hc, hb⟩ := hq
    exact ⟨r, A, m, c, by rw [he, hv.out], by rw [resZ_of0 hv.out] at hc; exact hc, hb⟩)
  have LA := fun W => Lib.hid (long_no na A1 n1 c1 l1 W)
  have TX : ∀ V r A m c, NumAt V r A m c sa → m ≤ 100 → Tab V → Hid (Calls Tryd.prog 46 #[.agg #[.bool r, .slice A m c]] V fun e w' => e = .returned (.string s) ∧ Below V.heap.size V w') := fun V r A m c h hm hT => Lib.hid (by rw [hs]; exact text_at V h hm hT)
  have PA : ∀ V, Hid (Calls Tryd.prog 48 #[.string s] V fun e w' => ∃ r A m c, e = .returned (.tuple #[.agg #[.bool r, .slice A m c], .int .i64 0]) ∧ Can w' r A m c sa ∧ Below V.heap.size V w') := fun V => Lib.hid (parse_can s (s) 0 sa V (by omega) (by rw [hsl, hL]; rfl) (.inr (.inr ⟨by rw [hsl, hL]; exact dec_head _ 45 (by decide), by rw [hsl, hL]; exact dec_head _ 43 (by decide), decide_eq_false (by have := hneg.out; omega), rfl⟩)) (by omega) hfit.out)
  have PB : ∀ V (D : ByteArray), D.data.toList = List.replicate K 48 ++ L → Hid (Calls Tryd.prog 48 #[.string ((⟨#[43]⟩ : ByteArray) ++ D)] V fun e w' => ∃ r A m c, e = .returned (.tuple #[.agg #[.bool r, .slice A m c], .int .i64 0]) ∧ Can w' r A m c sa ∧ Below V.heap.size V w') := fun V D hD => Lib.hid (parse_can ((⟨#[43]⟩ : ByteArray) ++ D) D K sa V (by omega) (by rw [hD, hL]) (.inr (.inl ⟨head_behind 43 D, decide_eq_false (by have := hneg.out; omega), (extract_behind 43 D).symm⟩)) (size_behind 43 D) hfit.out)
  have hdl : Hid (s.data.toList = L) := Lib.hid (hsl)
  obtain ⟨g, hg⟩ : ∃ g, cmpI sa 0 = g := ⟨_, rfl⟩
  have SG : ∀ V r A m c, NumAt V r A m c sa → m ≤ 100 → Hid (Calls Tryd.prog 27 #[.agg #[.bool r, .slice A m c]] V fun e w' => e = .returned (.int .i64 g) ∧ Below V.heap.size V w') := fun V r A m c h hm => Lib.hid ((sign_at V h (by omega)).mono fun e w' ⟨he, hb⟩ => ⟨by rw [he, hg], hb⟩)
  have hg0 : ¬ g < 0 := by rw [← hg]; rcases Int.lt_trichotomy sa 0 with h | h | h; (have := hneg.out; omega); (rw [cmpI_eq h]; decide); (rw [cmpI_gt h]; decide)
  have AW : ∀ V, Below w.heap.size w V → Hid (Calls Tryd.prog 18 #[] V fun e w' => e = .returned (.bool true) ∧ Below w.heap.size w w') :=
    fun V hb => Lib.hid ((awake_any V (ht.below hb)).mono fun e w' ⟨he, hw⟩ => ⟨he, below_then hb hw⟩)
  have OF : ∀ V, Hid (Calls Tryd.prog 32 #[.int .i64 x] V fun e w' => ∃ r A m c, e = .returned (.agg #[.bool r, .slice A m c]) ∧ Can w' r A m c x ∧ Below V.heap.size V w') := fun V => Lib.hid (of_can x x0 x1 V)
  have FX : ∀ V r A m c, Can V r A m c x → Hid (Calls Tryd.prog 30 #[.agg #[.bool r, .slice A m c]] V fun e w' => e = .returned (.tuple #[.int .i64 (fixV x), .bool (fixB x)]) ∧ Below V.heap.size V w') := fun V r A m c h => Lib.hid (fix_at V h.at (by have := h.le; omega))
  have TB : ∀ V, Below w.heap.size w V → Hid (Tab V) := fun V hb => Lib.hid (ht.below hb)
  have F3 := Lib.hid (fix_three x)
  generalize fixV x = fv at FX F3
  generalize fixB x = fb at FX F3
  have HSL := Lib.hid hsl
  have HKK := Lib.hid hK
  have k1 := t1.fst
  have k2 := t1.snd
  clear hs hL hg hsl hK h1 ht
  go_enter Tryd.func13, Tryd.ntmps13
  go_wp2_with fail
  rw [← hW]
  have HW := Lib.hid hW
  clear hW
  refine ((NG W m1).out).mono ?_
  rintro e y1 ⟨r, A, m, c, rfl, Q, b1⟩
  have bb := below_then b1 (below_al (Below.refl _ _) (.cells #[.bool r, .slice A m c] 24))
  replace t1 := t1.below' bb
  replace m1 := m1.below bb
  replace Q := Q.below (below_al (Below.refl _ _) (.cells #[.bool r, .slice A m c] 24))
  have tm := Two.made y1 24 (.bool r) (.slice A m c)
  have B := below_then hbW bb
  clear bb b1 k1 k2 hbW NG
  have k1 := t1.fst
  have k2 := t1.snd
  go_wp2_with fail
  refine ((LA _).out).mono ?_
  rintro e y2 ⟨rfl, bb⟩
  replace t1 := t1.below' bb
  replace tm := tm.below' bb
  replace m1 := m1.below bb
  replace Q := Q.below bb
  replace B := below_then B bb
  clear bb
  clear k1 k2
  have k1 := tm.fst
  have k2 := tm.snd
  go_wp2_with fail
  refine ((TX _ r A m c Q.at (by have := Q.le; omega) (TB _ B).out).out).mono ?_
  rintro e y3 ⟨rfl, bb⟩
  replace t1 := t1.below' bb
  replace tm := tm.below' bb
  replace m1 := m1.below bb
  replace Q := Q.below bb
  replace B := below_then B bb
  clear bb
  go_wp2_with fail
  refine ((PA _).out).mono ?_
  rintro e y4 ⟨rp, Ap, mp, cp, rfl, Qp, b1⟩
  have bb := below_then b1 (below_al (Below.refl _ _) (.cells #[.bool rp, .slice Ap mp cp] 24))
  replace Qp := Qp.below (below_al (Below.refl _ _) (.cells #[.bool rp, .slice Ap mp cp] 24))
  have tp := Two.made y4 24 (.bool rp) (.slice Ap mp cp)
  replace t1 := t1.below' bb
  replace tm := tm.below' bb
  replace m1 := m1.below bb
  replace Q := Q.below bb
  replace B := below_then B bb
  clear bb
  clear k1 k2 b1
  have k1 := tm.fst
  have k2 := tm.snd
  have k3 := tp.fst
  have k4 := tp.snd
  go_wp2_with fail
  have CT := Lib.hid (same_can Qp Q)
  refine (CT.out).mono ?_
  rintro e y5 ⟨rfl, bb⟩
  replace t1 := t1.below' bb
  replace tm := tm.below' bb
  replace m1 := m1.below bb
  replace Q := Q.below bb
  replace B := below_then B bb
  clear bb
  clear k1 k2 k3 k4 CT tp Qp
  have k1 := t1.fst
  have k2 := t1.snd
  go_wp2_with fail
  refine ((TX _ na A1 n1 c1 m1 (by omega) (TB _ B).out).out).mono ?_
  rintro e y6 ⟨rfl, bb⟩
  replace t1 := t1.below' bb
  replace tm := tm.below' bb
  replace m1 := m1.below bb
  replace Q := Q.below bb
  replace B := below_then B bb
  clear bb
  clear k1 k2
  have k1 := tm.fst
  have k2 := tm.snd
  go_wp2_with fail
  refine ((SG _ r A m c Q.at (by have := Q.le; omega)).out).mono ?_
  rintro e y7 ⟨rfl, bb⟩
  replace t1 := t1.below' bb
  replace tm := tm.below' bb
  replace m1 := m1.below bb
  replace Q := Q.below bb
  replace B := below_then B bb
  clear bb
  clear k1 k2 SG TX PA LA
  go_wp2_with fail
  obtain ⟨V, hV⟩ : ∃ V, V = y7 := ⟨_, rfl⟩
  have tv : Two V w.heap.size 24 (.bool na) (.slice A1 n1 c1) := by rw [hV]; exact t1
  have tw : Two V y1.heap.size 24 (.bool r) (.slice A m c) := by rw [hV]; exact tm
  have Q' : Can V r A m c sa := by rw [hV]; exact Q
  have B' : Below w.heap.size w V := by rw [hV]; exact B
  rw [← hV]
  clear hV t1 tm Q B m1
  go_wp2_with fail
  go_loopw [13, 14] (fun d i wr => ∃ (k : Nat) (D : ByteArray), k ≤ K ∧ d = .string D ∧ Hid (D.data.toList = List.replicate k 48 ++ L) ∧ i = .int .i64 k ∧ wr = V) (fun _ i _ => K - (intOf i).toNat)
  case atStart => exact ⟨0, _, Nat.zero_le _, rfl, Lib.hid hdl.out, rfl, rfl⟩
  case round =>
    obtain ⟨k, D, hk, rfl, HD, rfl, rfl⟩ := hrel
    have eK1 : Int.tmod q 9 = (K : Int) := HKK.out.symm
    have hDs : D.size ≤ 500 := by rw [Lib.size_eq, HD.out, List.length_append, List.length_replicate]; omega
    by_cases hlt : k < K
    · go_wp2
      go_roundw
      case rel => exact ⟨k + 1, _, by omega, rfl, Lib.hid (by rw [ByteArray.data_append, Array.toList_append, HD.out]; rfl), by go_num, (by first | rfl | trivial)⟩
      case measure => simp [intOf]; omega
    · have ek : k = K := by omega
      subst ek
      have PQ := Lib.hid ((PB wr D HD.out).out)
      go_wp2_with fail
      refine (PQ.out).mono ?_
      rintro e y8 ⟨rz, Az, mz, cz, rfl, Qz, b1⟩
      have bb := below_then b1 (below_al (Below.refl _ _) (.cells #[.bool rz, .slice Az mz cz] 24))
      replace Qz := Qz.below (below_al (Below.refl _ _) (.cells #[.bool rz, .slice Az mz cz] 24))
      have tz := Two.made y8 24 (.bool rz) (.slice Az mz cz)
      replace tw := tw.below' bb
      replace Q' := Q'.below bb
      replace B' := below_then B' bb
      clear bb b1 PQ PB tv
      have k1 := tz.fst
      have k2 := tz.snd
      have k3 := tw.fst
      have k4 := tw.snd
      go_wp2_with fail
      have CT := Lib.hid (same_can Qz Q')
      refine (CT.out).mono ?_
      rintro e y9 ⟨rfl, bb⟩
      replace B' := below_then B' bb
      clear k1 k2 k3 k4 CT tz Qz Q' tw bb
      go_wp2_with fail
      refine ((OF _).out).mono ?_
      rintro e y10 ⟨ro, Ao, mo, co, rfl, Qo, bb⟩
      replace B' := below_then B' bb
      clear bb
      go_wp2_with fail
      refine ((FX _ ro Ao mo co Qo).out).mono ?_
      rintro e y11 ⟨rfl, bb⟩
      replace B' := below_then B' bb
      clear bb FX OF eK1 HKK
      obtain ⟨rfl, rfl, r0, r1⟩ | ⟨rfl, r0⟩ | ⟨rfl, r0⟩ := F3.out
      all_goals
        go_wp2_with fail
        refine ((AW _ B').out).mono ?_
        rintro e ye ⟨rfl, be⟩
        go_wp2
        go_ret
        exact ⟨by first | rfl | (simp; omega), be⟩
set_option maxHeartbeats 3200000 in
set_option maxRecDepth 100000 in
theorem long_1 (na : Bool) (A1 : Option Addr) (n1 c1 : Nat) (sa x : Int) (q : Int) (w : World) (ht : Tab w) (h1 : NumAt w na A1 n1 c1 sa) (hl : n1 ≤ 35184372088832) (l1 : 60 < n1) :
    Calls Tryd.prog 13 #[.agg #[.bool na, .slice A1 n1 c1], .int .i64 x, .int .u8 q] w fun e w' => e = .returned (.bool true) ∧ Below w.heap.size w w' := by
  obtain ⟨W, hW⟩ : ∃ W, W = w.alloc (.cells #[.bool na, .slice A1 n1 c1] 24) := ⟨_, rfl⟩
  have hbW : Below w.heap.size w W := by rw [hW]; exact below_al (Below.refl _ _) _
  have t1 : Two W w.heap.size 24 (.bool na) (.slice A1 n1 c1) := by rw [hW]; exact Two.made w 24 _ _
  have m1 := h1.below hbW
  have NG := fun V h => Lib.hid (norm_gives (r1 := na) (A1 := A1) (n := n1) (c1 := c1) (z := sa) V h hl)
  have LA := fun W => Lib.hid (long_yes na A1 n1 c1 l1 W)
  have AW : ∀ V, Below w.heap.size w V → Hid (Calls Tryd.prog 18 #[] V fun e w' => e = .returned (.bool true) ∧ Below w.heap.size w w') :=
    fun V hb => Lib.hid ((awake_any V (ht.below hb)).mono fun e w' ⟨he, hw⟩ => ⟨he, below_then hb hw⟩)
  have k1 := t1.fst
  have k2 := t1.snd
  clear h1 ht
  go_enter Tryd.func13, Tryd.ntmps13
  go_wp2_with fail
  rw [← hW]
  have HW := Lib.hid hW
  clear hW
  refine ((NG W m1).out).mono ?_
  rintro e y1 ⟨r, A, m, c, rfl, Q, b1⟩
  generalize resV sa = v0
  have bb := below_then b1 (below_al (Below.refl _ _) (.cells #[.bool r, .slice A m c] 24))
  replace t1 := t1.below' bb
  have B := below_then hbW bb
  clear bb b1 k1 k2 hbW NG Q m1
  have k1 := t1.fst
  have k2 := t1.snd
  go_wp2_with fail
  refine ((LA _).out).mono ?_
  rintro e y2 ⟨rfl, bb⟩
  replace B := below_then B bb
  clear bb k1 k2
  go_wp2_with fail
  refine ((AW _ B).out).mono ?_
  rintro e ye ⟨rfl, be⟩
  go_wp2
  go_ret
  exact ⟨rfl, be⟩
set_option maxHeartbeats 3200000 in
set_option maxRecDepth 100000 in
theorem nofit (na : Bool) (A1 : Option Addr) (n1 c1 : Nat) (sa x : Int) (q : Int) (w : World) (ht : Tab w) (h1 : NumAt w na A1 n1 c1 sa) (hl : n1 ≤ 35184372088832) (l1 : n1 ≤ 60) (hv : resV sa = 6) :
    Calls Tryd.prog 13 #[.agg #[.bool na, .slice A1 n1 c1], .int .i64 x, .int .u8 q] w fun e w' => e = .returned (.bool true) ∧ Below w.heap.size w w' := by
  obtain ⟨W, hW⟩ : ∃ W, W = w.alloc (.cells #[.bool na, .slice A1 n1 c1] 24) := ⟨_, rfl⟩
  have hbW : Below w.heap.size w W := by rw [hW]; exact below_al (Below.refl _ _) _
  have t1 : Two W w.heap.size 24 (.bool na) (.slice A1 n1 c1) := by rw [hW]; exact Two.made w 24 _ _
  have m1 := h1.below hbW
  have NG := fun V h => Lib.hid (norm_gives (r1 := na) (A1 := A1) (n := n1) (c1 := c1) (z := sa) V h hl)
  have LA := fun W => Lib.hid (long_no na A1 n1 c1 l1 W)
  have AW : ∀ V, Below w.heap.size w V → Hid (Calls Tryd.prog 18 #[] V fun e w' => e = .returned (.bool true) ∧ Below w.heap.size w w') :=
    fun V hb => Lib.hid ((awake_any V (ht.below hb)).mono fun e w' ⟨he, hw⟩ => ⟨he, below_then hb hw⟩)
  have k1 := t1.fst
  have k2 := t1.snd
  clear h1 ht
  go_enter Tryd.func13, Tryd.ntmps13
  go_wp2_with fail
  rw [← hW]
  have HW := Lib.hid hW
  clear hW
  refine ((NG W m1).out).mono ?_
  rintro e y1 ⟨r, A, m, c, rfl, Q, b1⟩
  rw [hv]
  have bb := below_then b1 (below_al (Below.refl _ _) (.cells #[.bool r, .slice A m c] 24))
  replace t1 := t1.below' bb
  have B := below_then hbW bb
  clear bb b1 k1 k2 hbW NG Q m1
  have k1 := t1.fst
  have k2 := t1.snd
  go_wp2_with fail
  refine ((LA _).out).mono ?_
  rintro e y2 ⟨rfl, bb⟩
  replace B := below_then B bb
  clear bb k1 k2
  go_wp2_with fail
  refine ((AW _ B).out).mono ?_
  rintro e ye ⟨rfl, be⟩
  go_wp2
  go_ret
  exact ⟨rfl, be⟩
theorem walk (na : Bool) (A1 : Option Addr) (n1 c1 : Nat) (sa x : Int) (q : Int) (w : World) (ht : Tab w) (h1 : NumAt w na A1 n1 c1 sa) (hl : n1 ≤ 35184372088832) (wx : (Lit.int .i64 x).wf = true) (wq : (Lit.int .u8 q).wf = true) :
    Calls Tryd.prog 13 #[.agg #[.bool na, .slice A1 n1 c1], .int .i64 x, .int .u8 q] w fun e w' => e = .returned (.bool true) ∧ Below w.heap.size w w' := by
  have bx := bounds_i64 wx
  have bq := bounds_u8 wq
  by_cases l1 : n1 ≤ 60
  · rcases resV_two sa with hv | hv
    · by_cases hneg : sa < 0
      · exact main_n na A1 n1 c1 sa x q w ht h1 l1 (by omega) (by omega) (by omega) (by omega) (Lib.hid hv) (Lib.hid hneg)
      · exact main_p na A1 n1 c1 sa x q w ht h1 l1 (by omega) (by omega) (by omega) (by omega) (Lib.hid hv) (Lib.hid (by omega))
    · exact nofit na A1 n1 c1 sa x q w ht h1 hl l1 hv
  · exact long_1 na A1 n1 c1 sa x q w ht h1 hl (by omega)
/-! The row's step. -/
set_option maxRecDepth 100000 in
theorem contract (H : Type) (enc : TypeId × Value → H) (W : World) (base : Nat) (args : Array Value) (ds gs : List (DataW H)) (before : List MemPlace)
    (hval : ∀ (j : Nat) t v, Tryd.f13.params[j]? = some t → args[j]? = some v → Value.okWide Tryd.prog W .any base t v)
    (hW : DataW.Whole enc Tryd.prog Tryd.f13.params.toList Rows.numBackSpec.vars false W args.toList ds gs before) (hsz : (DataW.weightsEach Tryd.prog (Tryd.f13.params.toList ++ (OpenSpec.ofChange Rows.numBackSpec).bare.plain.varTypes Tryd.prog) (ds ++ gs)).all (· ≤ reachBytes) = true) (hL : laidMetH Tryd.prog Rows.numBackRow.laid W) :
    Calls Tryd.prog 13 args W fun e W' => ∃ v, e = .returned v ∧ Rows.numBackSpec.post enc Tryd.prog Tryd.f13 false true false false W args v W' := by
  have hW' := hW
  obtain ⟨p, q, hA0, hV, rfl, hfz, hnd⟩ := hW
  have hA : DataW.TrodAll enc Tryd.prog W 0 (fun _ => true) true Tryd.f13.params.toList args.toList ds p := hA0
  obtain ⟨rfl, rfl⟩ := trodVars_none hV
  simp only [List.append_nil] at hW'
  have hlt : ∀ x ∈ p, x.block < W.heap.size := fun x hx => by simpa using hW'.lt x hx
  have hAk := hA
  rw [Tryd.params13] at hA hval
  obtain ⟨v0, vs0, d0, ds0, p0, q0, hargs, rfl, rfl, h0, r0⟩ := trodAll_cons hA
  obtain ⟨v1, vs1, d1, ds1, p1, q1, rfl, rfl, rfl, h1, r1⟩ := trodAll_cons r0
  obtain ⟨v2, vs2, d2, ds2, p2, q2, rfl, rfl, rfl, h2, r2⟩ := trodAll_cons r1
  obtain ⟨rfl, rfl, rfl⟩ := trodAll_nil r2
  obtain rfl : args = #[v0, v1, v2] := by cases args; simp_all
  obtain ⟨g0, A0, n0, c0, N0, rfl, m0, hl0⟩ := open_num2 (hval 0 24 v0 rfl rfl) h0 (j := 0) hsz (by rw [Tryd.params13]; rfl) rfl
  obtain ⟨x1, rfl, rfl, rfl, w1⟩ := open_int Tryd.underlying2 (hval 1 2 v1 rfl rfl) h1
  obtain ⟨x2, rfl, rfl, rfl, w2⟩ := open_int Tryd.underlying5 (hval 2 5 v2 rfl rfl) h2
  refine (walk g0 A0 n0 c0 _ x1 x2 W (tab_of hL) ⟨N0, m0, rfl⟩ hl0 w1 w2).mono fun e W' ⟨he, hg⟩ => ?_
  subst he
  exact ⟨_, rfl, _, _, _, [], _, [], hW', (trodAll_cons_mk (shut_bool Tryd.underlying4 _) trodAll_mk0), below_all hg (by kernel_rfl) hAk hlt, rfl, hg.frame _, fun h => by cases h⟩
theorem laid_met (os : Os) : laidMet Tryd.prog Rows.numBackRow.laid ((laidWorld os).forCall (fun _ _ => 0) ⟨#[], #[.agg #[.bool false, .slice none 0 0], .int .i64 0, .int .u8 0], []⟩).memory :=
  laidMet_laidAll _ (by kernel_rfl) (by kernel_rfl)
theorem reads (os : Os) {H : Type} (enc : TypeId × Value → H) : ∃ places, DataW.whole enc Tryd.prog ((laidWorld os).forCall (fun _ _ => 0) ⟨#[], #[.agg #[.bool false, .slice none 0 0], .int .i64 0, .int .u8 0], []⟩).memory Tryd.f13.params.toList Rows.numBackSpec.vars false (#[(Value.agg #[.bool false, .slice none 0 0]), (Value.int .i64 0), (Value.int .u8 0)] : Array Value).toList 8 = some ([.agg [.lit (.bool false), .nil], .lit (.int .i64 0), .lit (.int .u8 0)], [], places) :=
  ⟨[], by kernel_rfl⟩
set_option maxRecDepth 100000 in
theorem lifted (os : Os) (started : os.Started) (H : Type) (enc : TypeId × Value → H) (F : Stop.Interp) :
    ReturnsInHanded {} Tryd.checked os 13 .any ((OpenSpec.ofChange Rows.numBackSpec).preRow enc Tryd.prog Tryd.f13 Rows.numBackRow.domain false Rows.numBackRow.laid) (((OpenSpec.ofChange Rows.numBackSpec).at F).post enc Tryd.prog Tryd.f13 false true false false) := by
  obtain ⟨places, hx⟩ := reads os enc
  refine returnsInHanded_of_row (C := Tryd.checked) (s := OpenSpec.ofChange Rows.numBackSpec) own started (by kernel_rfl) Tryd.func13
    (witness_row_at (enc := enc) (C := Tryd.checked) false (laidWorld os) #[.agg #[.bool false, .slice none 0 0], .int .i64 0, .int .u8 0] (laidWorld_os os) (by kernel_rfl) (by kernel_rfl) (by kernel_rfl)
      (OpenSpec.preRow_of_cond 8 hx (by kernel_rfl) (fun k hk => by cases hk) (by kernel_rfl) (laid_met os))) ?_
  intro W base args ds gs before hval hW _ _ hsz hL _ _
  exact contract H enc W base args ds gs before hval hW hsz hL
theorem said : Rows.NumBackSaid :=
  OpenClaim.holds_of_cond 13 Tryd.f13 rfl rfl rfl rfl rfl rfl rfl ⟨rfl, rfl, rfl, rfl, rfl⟩ rfl rfl rfl rfl rfl (by kernel_rfl) Tryd.func13 (by kernel_rfl)
    (of_decide_eq_true (by kernel_rfl)) (by unfold Func.isWrapper; first | (rw [if_pos (by decide +kernel)]; kernel_rfl) | (rw [if_neg (by decide +kernel)]; exact ⟨rfl, rfl⟩))
    (fun os started H enc _ F => by rw [OpenClaim.pre_eq_preRow]; exact lifted os started H enc F)
theorem plain (f : FuncId) (fn : Func) (hf : Tryd.pinned.checked.prog.funcNamed "moraine/morainelaw02.NumBack" = some f) (hfn : Tryd.pinned.checked.prog.funcs[f]? = some fn) :
    false = Tryd.pinned.checked.prog.looks [] ∧ ∀ (j : Nat) t, fn.params[j]? = some t → Tryd.pinned.checked.prog.wantsStandIn t = false := by
  obtain rfl : f = 13 := Option.some.inj ((show Tryd.prog.funcNamed "moraine/morainelaw02.NumBack" = some 13 by kernel_rfl).symm.trans hf) |>.symm
  obtain rfl : fn = Tryd.f13 := (Option.some.inj (Tryd.func13.symm.trans hfn)).symm
  refine ⟨by kernel_rfl, fun j t ht => ?_⟩
  rw [Tryd.params13] at ht
  have hm := Array.mem_of_getElem? ht
  have hall : (#[24, 2, 5] : Array TypeId).toList.all (fun t => !Tryd.prog.wantsStandIn t) = true := by kernel_rfl
  have := List.all_eq_true.1 hall t (by simpa using hm)
  exact (show Tryd.prog.wantsStandIn t = false by simpa using this)
/-- THE STATEMENT -/
theorem card : Rows.NumBackCardSaid :=
  Claim7.holds_tied_plain_at .later [] _ _ _ _ said (fun _ h => by cases h) (by kernel_rfl) (fun _ h => by cases h) Go.Proofs.YtocoflojlliapaaDoor.numBack_row_tie rfl ⟨rfl, rfl⟩ (by kernel_rfl) rfl plain (by kernel_rfl)
#print axioms card
end Go.Proofs.YtocoflojlliapaaDoor.numBack
