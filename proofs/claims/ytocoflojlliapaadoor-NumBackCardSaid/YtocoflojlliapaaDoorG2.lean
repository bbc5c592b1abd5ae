import Derived.Test.YtocoflojlliapaaDoorG1
set_option linter.unusedVariables false
namespace Go.Proofs.YtocoflojlliapaaDoor
open Go.RowKit
set_option maxHeartbeats 3200000 in
theorem awake_any (w : World) (ht : Tab w) : Calls Tryd.prog 18 #[] w fun e w' => e = .returned (.bool true) ∧ Below w.heap.size w w' := by
  go_enter Tryd.func18, Tryd.ntmps18
  go_wp2_with (first
    | (go_at_call 48; (first | ((with_reducible refine (aw_parse _).mono ?_); rintro e w1 ⟨A1, c1, rfl, m1, b1⟩) | ((with_reducible refine (aw_plus _).mono ?_); rintro e w2 ⟨rfl, b2⟩)))
    | (go_at_call 32; refine (aw_of7n _).mono ?_; rintro e w3 ⟨A3, c3, rfl, m3, b3⟩; refine Hid.out ?_))
  refine Lib.hid ?_
  have HB2 : Below w.heap.size w w2 := below_then (below_al b1 _) b2
  have t1 : Two w2 w1.heap.size 24 (.bool true) (.slice A1 (dl 7) c1) := (Two.made w1 24 _ _).below' b2
  have n1 : Mag w2 A1 (dl 7) c1 7 := (m1.alloc _).below b2
  have HB3 : Below w.heap.size w w3 := below_then (below_al HB2 _) b3
  have t2 := (t1.alloc (.cells #[.bool false, .slice none 0 0] 24)).below' b3
  have n2 := (n1.alloc (.cells #[.bool false, .slice none 0 0] 24)).below b3
  clear b1 b2 m1 t1 n1 HB2 b3
  go_wp2_with (go_at_call 32; refine (aw_of 2 (by decide) _).mono ?_; rintro e w4 ⟨A4, c4, rfl, m4, b4⟩; refine Hid.out ?_)
  refine Lib.hid ?_
  go_wp2_with (first
    | (go_at_call 42; refine (aw_mod A3 A4 c3 c4 _ (m3.below b4) m4).mono ?_; rintro e w5 ⟨A5, c5, rfl, m5, b5⟩)
    | (go_at_call 32; refine (aw_of 7 (by decide) _).mono ?_; rintro e w6 ⟨A6, c6, rfl, m6, b6⟩; refine Hid.out ?_))
  refine Lib.hid ?_
  have HB4 : Below w.heap.size w w6 := below_then (below_al (below_then (below_then HB3 b4) b5) _) b6
  have t3 := (((t2.below' b4).below' b5).alloc (.cells #[.bool false, .slice A5 (dl 1) c5] 24)).below' b6
  have n3 := (((n2.below b4).below b5).alloc (.cells #[.bool false, .slice A5 (dl 1) c5] 24)).below b6
  have t4 : Two w6 w5.heap.size 24 (.bool false) (.slice A5 (dl 1) c5) := (Two.made w5 24 _ _).below' b6
  have n4 : Mag w6 A5 (dl 1) c5 1 := (m5.alloc _).below b6
  clear b4 b5 b6 HB3 t2 n2 m3 m4 m5 m6
  go_wp2_with (go_at_call 32; refine (aw_of 0 (by decide) _).mono ?_; rintro e w7 ⟨A7, c7, rfl, m7, b7⟩; refine Hid.out ?_)
  refine Lib.hid ?_
  go_wp2_with (go_at_call 40; refine (aw_quo A6 A7 c6 c7 _ m7).mono ?_; rintro e w8 ⟨rfl, b8⟩; refine Hid.out ?_)
  refine Lib.hid ?_
  have HB8 : Below w.heap.size w w8 := below_then (below_then HB4 b7) b8
  have t5 := (t3.below' b7).below' b8
  have n5 := (n3.below b7).below b8
  have t6 := (t4.below' b7).below' b8
  have n6 := (n4.below b7).below b8
  clear b7 b8 HB4 t3 n3 t4 n4 m7
  have k0 := fun o => (t5.alloc o).fst
  have k1 := fun o => (t5.alloc o).snd
  have hT8 : ∀ o, Tab (w8.alloc o) := fun o => (ht.below HB8).alloc o
  go_wp2_with (go_at_call 46; refine (aw_text7 A1 c1 _ (n5.alloc _) (hT8 _)).mono ?_; rintro e w9 ⟨rfl, b9⟩; refine Hid.out ?_)
  refine Lib.hid ?_
  have HB9 : Below w.heap.size w w9 := below_then (below_al HB8 _) b9
  have t7 := (t6.alloc (.cells #[.bool false, .slice none 0 0] 24)).below' b9
  have n7 := (n6.alloc (.cells #[.bool false, .slice none 0 0] 24)).below b9
  have k2 := t7.fst
  have k3 := t7.snd
  have hT9 : Tab w9 := ht.below HB9
  clear k0 k1 t5 n5 t6 n6 b9 HB8 hT8
  go_wp2_with (go_at_call 46; refine (aw_text1 A5 c5 _ n7 hT9).mono ?_; rintro e w10 ⟨rfl, b10⟩; refine Hid.out ?_)
  refine Lib.hid ?_
  have HB10 : Below w.heap.size w w10 := below_then HB9 b10
  have hT10 : Tab w10 := ht.below HB10
  clear k2 k3 t7 n7 HB9 b10 hT9
  go_wp2_with (go_at_call 46; refine (aw_text4 _ hT10).mono ?_; rintro e w11 ⟨rfl, b11⟩)
  go_ret
  exact ⟨rfl, below_then HB10 b11⟩
end Go.Proofs.YtocoflojlliapaaDoor
