/- awake, walked. -/
import Derived.Test.YtkffojipgphneaaDoorW1
import Derived.Deep.RegionHeld3
set_option linter.unusedVariables false
set_option linter.unusedSimpArgs false
namespace Go.Proofs.YtkffojipgphneaaDoor
open Go Go.RowKit
theorem val_alloc {G : Nat → Prop} {V : World} {d : D} {f : F} (h : Val G V d f) (o : Obj) : Val (fun k => k < (V.alloc o).heap.size) (V.alloc o) d f :=
  (h.lt.keep ((Keep.refl _ _).alloc _)).mono (fun k hk => by have := hk.2; rw [World.size_alloc]; omega)
theorem val_next {G : Nat → Prop} {V V' : World} {d : D} {f : F} (h : Val G V d f) (hb : Below V.heap.size V V') : Val (fun k => k < V'.heap.size) V' d f :=
  (h.lt.keep (Keep.any hb)).mono (fun k hk => Nat.lt_of_lt_of_le hk.2 hb.size)
theorem val_here {G : Nat → Prop} {V : World} {d : D} {f : F} (h : Val G V d f) : Val (fun k => k < V.heap.size) V d f := h.lt.mono (fun k hk => hk.2)
theorem cnt_fl1 {B : Option Addr} {b : Nat} {e : D} {g : F} (h : sameD (lstD (fl1 B b)) (lstF (fl1 B b)) e g = true) : g.cnt = 2 := by
  simp only [sameD, Bool.and_eq_true] at h
  have := sameF_cnt _ _ h.2
  simpa [fl1, lstF, two, F.cnt, lstD] using this.symm
theorem aw_items (A B : Option Addr) (a b : Nat) (d : D) (f : F) (w : World) (h : Val (fun k => k < w.heap.size) w d f) (hs : sameD (lstD (fl2 A a B b)) (lstF (fl2 A a B b)) d f = true) :
    Calls Tryd.prog 28 #[.agg #[.int .i64 d.k, .int .i32 d.c, .bool d.neg, .slice d.mA d.mag.length d.mcap, .string d.t, .slice d.lA f.len d.lcap]] w fun e w' => ∃ X c, e = .returned (.tuple #[.slice X 2 c, .bool true]) ∧ Below w.heap.size w w' := by
  have hs2 := hs
  simp only [sameD, Bool.and_eq_true] at hs2
  have hc := sameF_cnt _ _ hs2.2
  rw [cnt_fl2] at hc
  refine (items_any d f w h (by omega)).mono fun e w' hq => ?_
  have h1 := carsE_same hs
  have h2 := cars_lst (fl2 A a B b)
  rcases hq with ⟨h0, _⟩ | ⟨_, X, b', o', c, fl, rfl, _, _, hsm, _, hb⟩
  · rw [← h1.2, h2.2] at h0
    exact absurd rfl h0
  · have hl : fl.len = 2 := by
      have e1 := sameF_len _ _ hsm
      have e2 := sameF_len _ _ h1.1
      have e3 := sameF_len _ _ h2.1
      rw [← e1, ← e2, e3]
      rfl
    rw [hl]
    exact ⟨X, c, rfl, hb⟩
set_option maxRecDepth 100000 in
set_option maxHeartbeats 4000000 in
theorem awake_any (w : World) (hT : Lib.Utf8Tabs 0 1 w) : Calls Tryd.prog 10 #[] w fun e w' => e = .returned (.bool true) ∧ Below w.heap.size w w' := by
  go_enter Tryd.func10, Tryd.ntmps10
  go_wp2_with (first
    | (go_at_call 20; (first | ((with_reducible refine (aw7 _).mono ?_); rintro e w1 ⟨A, a, rfl, v1, b1⟩) | ((with_reducible refine (aw8 _).mono ?_); rintro e w2 ⟨B, b, rfl, v2, b2⟩)))
    | (go_at_call 25; refine Hid.out ?_))
  refine Lib.hid ?_
  obtain ⟨W, hW⟩ : ∃ W, W = w2.alloc (.cells #[.int .i64 4, .int .i32 0, .bool false, .slice A 1 a, .string ⟨#[]⟩, .slice none 0 0, .int .i64 4, .int .i32 0, .bool false, .slice B 1 b, .string ⟨#[]⟩, .slice none 0 0] 27) := ⟨_, rfl⟩
  rw [← hW]
  have z1 := b1.size
  have z2 := b2.size
  have zW : w2.heap.size < W.heap.size := by rw [hW]; simp
  have h12 : W.heap[w2.heap.size]? = some (.cells #[.int .i64 4, .int .i32 0, .bool false, .slice A 1 a, .string ⟨#[]⟩, .slice none 0 0, .int .i64 4, .int .i32 0, .bool false, .slice B 1 b, .string ⟨#[]⟩, .slice none 0 0] 27 (0, 0)) := by rw [hW]; exact heap_alloc_new _ _
  have kW : Keep (fun _ => True) w2 W := by rw [hW]; exact (Keep.refl _ _).alloc _
  have bW : Below w.heap.size w W := by rw [hW]; exact (b1.trans (b2.mono z1)).alloc (by omega) _
  have v7 : Val (fun k => k < W.heap.size) W (nD 7 A a) .nil := ((v1.lt.keep (Keep.any b2)).keep (kW.mono (fun _ _ _ => trivial))).mono (fun k hk => by have := hk.2; omega)
  have v8 : Val (fun k => k < W.heap.size) W (nD 8 B b) .nil := (v2.lt.keep (kW.mono (fun _ _ _ => trivial))).mono (fun k hk => by have := hk.2; omega)
  refine (aw_list2 A B a b w2.heap.size W h12 v7 v8).mono ?_
  rintro e w3 ⟨d, f, rfl, v3, s3, b3⟩
  have B3 : Below w.heap.size w w3 := bW.trans (b3.mono bW.size)
  have hX0 : (w3.alloc (six d f.len)).heap[w3.heap.size]? = some (six d f.len) := heap_alloc_new _ _
  obtain ⟨X, hX⟩ : ∃ X, X = w3.alloc (six d f.len) := ⟨_, rfl⟩
  have kX : Keep (fun _ => True) w3 X := by rw [hX]; exact (Keep.refl _ _).alloc _
  have zX : w3.heap.size < X.heap.size := by rw [hX]; simp
  rw [← hX] at hX0
  have BX : Below w.heap.size w X := by rw [hX]; exact B3.alloc B3.size _
  have vX : Val (fun k => k < X.heap.size) X d f := (v3.lt.keep (kX.mono (fun _ _ _ => trivial))).mono (fun k hk => by have := hk.2; omega)
  have HX := Lib.hid hX
  clear hX hW h12 kW bW v7 v8 v1 v2 b1 b2 z1 z2 zW b3 v3 kX B3
  go_wp2_with (go_at_call 28; rw [show w3.alloc (.cells #[.int .i64 d.k, .int .i32 d.c, .bool d.neg, .slice d.mA d.mag.length d.mcap, .string d.t, .slice d.lA f.len d.lcap] 27) = X from HX.out.symm]; refine (aw_items A B a b d f X vX s3).mono ?_; rintro e w5 ⟨Y, y, rfl, b5⟩; refine Hid.out ?_)
  refine Lib.hid ?_
  have hr5 : w5.heap[w3.heap.size]? = some (six d f.len) := (b5.block _ zX).trans hX0
  have B5 : Below w.heap.size w w5 := BX.trans (b5.mono BX.size)
  have v5 : Val (fun k => k < w5.heap.size) w5 d f := vX.below b5
  have hT5 := Utf8Tabs_below hT B5
  have z3 := B5.size
  have hlt5 : w3.heap.size < w5.heap.size := by have := b5.size; omega
  clear hX0 BX vX HX b5 zX
  have hsm := s3
  simp only [sameD, Bool.and_eq_true] at hsm
  have hcn := sameF_cnt _ _ hsm.2
  rw [cnt_fl2] at hcn
  have HCN := Lib.hid hcn
  clear hcn
  have KS : ∀ V, Below w5.heap.size w5 V → Hid (V.cell? ⟨w3.heap.size, 0, none⟩ = some (.int .i64 d.k) ∧ V.cell? ⟨w3.heap.size, 1, none⟩ = some (.int .i32 d.c) ∧ V.cell? ⟨w3.heap.size, 2, none⟩ = some (.bool d.neg) ∧ V.cell? ⟨w3.heap.size, 3, none⟩ = some (.slice d.mA d.mag.length d.mcap) ∧ V.cell? ⟨w3.heap.size, 4, none⟩ = some (.string d.t) ∧ V.cell? ⟨w3.heap.size, 5, none⟩ = some (.slice d.lA f.len d.lcap)) := fun V hb => Lib.hid (by
    have h1 : V.heap[w3.heap.size]? = some (six d f.len) := (hb.block _ hlt5).trans hr5
    have n := Node.of_six h1
    exact ⟨n.k, n.c, n.neg, n.mag, n.t, n.l⟩)
  have CM : ∀ V, Below w5.heap.size w5 V → Hid (Calls Tryd.prog 12 #[.agg #[.int .i64 d.k, .int .i32 d.c, .bool d.neg, .slice d.mA d.mag.length d.mcap, .string d.t, .slice d.lA f.len d.lcap]] V fun e w' => e = .returned (.bool true) ∧ Below V.heap.size V w') := fun V hb => Lib.hid (by
    have := may_d d f V (v5.below hb) (Utf8Tabs_below hT5 hb) (by have := HCN.out; omega)
    rw [← mayD_same s3, may_fl2] at this
    exact this)
  have CD : ∀ V, Below w5.heap.size w5 V → Hid (Calls Tryd.prog 14 #[.agg #[.int .i64 d.k, .int .i32 d.c, .bool d.neg, .slice d.mA d.mag.length d.mcap, .string d.t, .slice d.lA f.len d.lcap]] V fun e w' => e = .returned (.int .i64 1) ∧ Below V.heap.size V w') := fun V hb => Lib.hid (by
    have := depth_d d f V (v5.below hb) (by have := HCN.out; omega)
    rw [← dpD_same s3, dp_fl2] at this
    exact this)
  have CC : ∀ V, Below w5.heap.size w5 V → Hid (Calls Tryd.prog 16 #[.agg #[.int .i64 d.k, .int .i32 d.c, .bool d.neg, .slice d.mA d.mag.length d.mcap, .string d.t, .slice d.lA f.len d.lcap]] V fun e w' => e = .returned (.int .i64 5) ∧ Below V.heap.size V w') := fun V hb => Lib.hid (by
    have := count_any d f V (v5.below hb) (by have := HCN.out; omega)
    rw [← HCN.out] at this
    exact this)
  have CS : ∀ V, Hid (Calls Tryd.prog 24 #[.string ⟨#[]⟩] V fun e w' => e = .returned (.agg #[.int .i64 6, .int .i32 0, .bool false, .slice none 0 0, .string ⟨#[]⟩, .slice none 0 0]) ∧ Below V.heap.size V w') := fun V => Lib.hid ((sym_any ⟨#[]⟩ (by decide) V).mono fun e w' h => ⟨h.1, h.2.2⟩)
  have CN : ∀ V, Below w5.heap.size w5 V → Hid (Calls Tryd.prog 12 #[.agg #[.int .i64 6, .int .i32 0, .bool false, .slice none 0 0, .string ⟨#[]⟩, .slice none 0 0]] V fun e w' => e = .returned (.bool false) ∧ Below V.heap.size V w') := fun V hb => Lib.hid (by
    have := may_d (txtD 6 ⟨#[]⟩) .nil V (txt_val _ _ _ _ (by decide) (by decide) (by decide)) (Utf8Tabs_below hT5 hb) (by simp [F.cnt])
    rw [may_none] at this
    exact this)
  have p := (KS w5 (Below.refl _ _)).out
  obtain ⟨p0, p1, p2, p3, p4, p5⟩ := p
  have BR : Below w5.heap.size w5 w5 := Below.refl _ _
  have BRd : Below w5.heap.size w5 w5.drew := BR.drew
  have UP := Lib.hid (fun (V V' : World) (h : Below w5.heap.size w5 V) (k : Below V.heap.size V V') => (h.trans (k.mono h.size) : Below w5.heap.size w5 V'))
  have SM : ∀ (V : World) (e : D) (g : F), Below w5.heap.size w5 V → Val (fun k => k < V.heap.size) V e g → sameD d f e g = true → Hid (Calls Tryd.prog 19 #[.agg #[.int .i64 d.k, .int .i32 d.c, .bool d.neg, .slice d.mA d.mag.length d.mcap, .string d.t, .slice d.lA f.len d.lcap], .agg #[.int .i64 e.k, .int .i32 e.c, .bool e.neg, .slice e.mA e.mag.length e.mcap, .string e.t, .slice e.lA g.len e.lcap]] V fun x w' => x = .returned (.bool true) ∧ Below V.heap.size V w') := fun V e g hb hv hs => Lib.hid (same_any d f e g V (v5.below hb) hv (by have := HCN.out; omega) true (Lib.hid hs))
  have KT : ∀ V, Below w5.heap.size w5 V → (Below w5.heap.size w5 V ∧ V.cell? ⟨w3.heap.size, 0, none⟩ = some (.int .i64 d.k) ∧ V.cell? ⟨w3.heap.size, 1, none⟩ = some (.int .i32 d.c) ∧ V.cell? ⟨w3.heap.size, 2, none⟩ = some (.bool d.neg) ∧ V.cell? ⟨w3.heap.size, 3, none⟩ = some (.slice d.mA d.mag.length d.mcap) ∧ V.cell? ⟨w3.heap.size, 4, none⟩ = some (.string d.t) ∧ V.cell? ⟨w3.heap.size, 5, none⟩ = some (.slice d.lA f.len d.lcap)) := fun V hb => ⟨hb, (KS V hb).out⟩
  clear hr5 hsm v5 hT5
  go_wp2_with fail
  go_region_held3 (fun V => Below w5.heap.size w5 V ∧ V.cell? ⟨w3.heap.size, 0, none⟩ = some (.int .i64 d.k) ∧ V.cell? ⟨w3.heap.size, 1, none⟩ = some (.int .i32 d.c) ∧ V.cell? ⟨w3.heap.size, 2, none⟩ = some (.bool d.neg) ∧ V.cell? ⟨w3.heap.size, 3, none⟩ = some (.slice d.mA d.mag.length d.mcap) ∧ V.cell? ⟨w3.heap.size, 4, none⟩ = some (.string d.t) ∧ V.cell? ⟨w3.heap.size, 5, none⟩ = some (.slice d.lA f.len d.lcap)) (exact KT _ (by first | assumption | exact Below.drew (by assumption) | exact Below.alloc B8 B8.size _ | exact Below.drew (Below.alloc B8 B8.size _) | exact Below.alloc B8.drew B8.size _))
    (first
      | (go_at_call 12; (first
        | ((with_reducible refine ((CM _ (by assumption)).out).mono ?_); rintro e y1 ⟨rfl, c1⟩; have B1 := UP.out _ _ (by assumption) c1)
        | ((with_reducible refine ((CN _ (by assumption)).out).mono ?_); rintro e y2 ⟨rfl, c2⟩; have B2 := UP.out _ _ (by assumption) c2)))
      | (go_at_call 14; (with_reducible refine ((CD _ (by assumption)).out).mono ?_); rintro e y3 ⟨rfl, c3⟩; have B3 := UP.out _ _ (by assumption) c3)
      | (go_at_call 16; (with_reducible refine ((CC _ (by assumption)).out).mono ?_); rintro e y4 ⟨rfl, c4⟩; have B4 := UP.out _ _ (by assumption) c4)
      | (go_at_call 20; (first
        | ((with_reducible refine (aw7 _).mono ?_); rintro e y7 ⟨A7, a7, rfl, v7, c7⟩; have B7 := UP.out _ _ (by assumption) c7)
        | ((with_reducible refine (aw8 _).mono ?_); rintro e y8 ⟨A8, a8, rfl, v8, c8⟩; have B8 := UP.out _ _ (by assumption) c8)))
      | (go_at_call 25; refine (aw_list1 A8 a8 _ _ (heap_alloc_new _ _) (val_alloc v8 _)).mono ?_; rintro e y9 ⟨e9, g9, rfl, v9, s9, c9⟩; have B9 := UP.out _ _ (Below.alloc B8 B8.size _) c9; have v7' := val_next (val_alloc (val_next v7 c8) _) c9; have HG9 := Lib.hid (cnt_fl1 s9))
      | (go_at_call 27; refine (cons_any (nD 7 A7 a7) .nil e9 g9 _ v7' (val_here v9) (by simp [F.cnt]) (by have := HG9.out; omega)).mono ?_; rintro e y10 ⟨d10, f10, rfl, v10, s10, c10⟩; have B10 := UP.out _ _ B9 c10)
      | (go_at_call 19; refine ((SM _ d10 f10 B10 (val_here v10) (aw_same s3 s9 s10)).out).mono ?_; rintro e y11 ⟨rfl, c11⟩; have B11 := UP.out _ _ B10 c11)
      | (go_at_call 24; (with_reducible refine ((CS _).out).mono ?_); rintro e y5 ⟨rfl, c5⟩; have B5' := UP.out _ _ (by assumption) c5))
  go_wp2_with fail
  go_ret
  exact ⟨rfl, B5.trans (B2.mono B5.size)⟩
end Go.Proofs.YtkffojipgphneaaDoor
