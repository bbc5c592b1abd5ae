/- DatumParts: the walk. -/
import Derived.Test.YtkffojipgphneaaDoorK1
import Derived.Test.YtkffojipgphneaaDoorK2
import Derived.Test.YtkffojipgphneaaDoorG3
import Derived.Test.YtkffojipgphneaaDoorU2
import Derived.Test.YtkffojipgphneaaDoorL2
import Derived.Test.YtkffojipgphneaaDoorR1
import Derived.Deep.RegionHeld3
import Derived.IntWalk
set_option linter.unusedVariables false
set_option linter.unusedSimpArgs false
namespace Go.Proofs.YtkffojipgphneaaDoor
open Go Go.RowKit
/-- A box that holds a datum that is as the list of these. -/
def PX (W : World) (b1 : F) (s : Value) (wx : World) : Prop := ∃ (bx : Nat) (dx : D) (fx : F), s = .pointer (some ⟨bx, 0, none⟩) ∧ wx.heap[bx]? = some (six dx fx.len) ∧ Val (fun k => k < wx.heap.size) wx dx fx ∧ sameD (lstD b1) (lstF b1) dx fx = true ∧ Below W.heap.size W wx
theorem lst_cons {d1 dl dx : D} {f1 fl gl fx : F} (h1 : sameD (lstD fl) (lstF fl) dl gl = true) (h2 : sameD (pairD none) (two d1 f1 dl gl) dx fx = true) : sameD (lstD (.cons d1 f1 fl)) (lstF (.cons d1 f1 fl)) dx fx = true :=
  sameD_trans (same_two (A := none) (A' := none) (sameD_refl d1 f1) h1) h2
theorem below_up {W V : World} (h : Below W.heap.size W V) {o : Obj} : Below W.heap.size W (V.alloc o) := h.alloc h.size o
theorem cnt_lst {fl : F} {d : D} {f : F} (h : sameD (lstD fl) (lstF fl) d f = true) : f.cnt = fl.cnt + fl.len := by
  simp only [sameD, Bool.and_eq_true] at h
  rw [← sameF_cnt _ _ h.2, lst_cnt]
theorem px_set {W u2 : World} {bx n : Nat} {dx : D} {fx : F} (zb : u2.heap[bx]? = some (six nilD 0)) (h1 : W.heap.size ≤ bx) (h2 : bx < n) (vx : Val (fun k => n ≤ k) u2 dx fx) (hb : Below W.heap.size W u2) (X : World)
    (hX : X = (((((u2.setCell ⟨bx, 0, none⟩ (.int .i64 dx.k)).setCell ⟨bx, 1, none⟩ (.int .i32 dx.c)).setCell ⟨bx, 2, none⟩ (.bool dx.neg)).setCell ⟨bx, 3, none⟩ (.slice dx.mA dx.mag.length dx.mcap)).setCell ⟨bx, 4, none⟩ (.string dx.t)).setCell ⟨bx, 5, none⟩ (.slice dx.lA fx.len dx.lcap)) :
    X.heap[bx]? = some (six dx fx.len) ∧ Val (fun k => k < X.heap.size) X dx fx ∧ Below W.heap.size W X := by
  have hk : Keep (fun k => n ≤ k) u2 X := by
    rw [hX]
    exact ((((((Keep.refl _ _).setCell (p := ⟨bx, 0, none⟩) _ (.inl (by simp <;> omega))).setCell (p := ⟨bx, 1, none⟩) _ (.inl (by simp <;> omega))).setCell (p := ⟨bx, 2, none⟩) _ (.inl (by simp <;> omega))).setCell (p := ⟨bx, 3, none⟩) _ (.inl (by simp <;> omega))).setCell (p := ⟨bx, 4, none⟩) _ (.inl (by simp <;> omega))).setCell (p := ⟨bx, 5, none⟩) _ (.inl (by simp <;> omega))
  refine ⟨?_, val_here (vx.keep hk), ?_⟩
  · rw [hX]
    exact set_six (by simpa [six] using zb) _ _ _ _ _ _
  · rw [hX]
    exact (((((hb.setCell (p := ⟨bx, 0, none⟩) h1 _).setCell (p := ⟨bx, 1, none⟩) h1 _).setCell (p := ⟨bx, 2, none⟩) h1 _).setCell (p := ⟨bx, 3, none⟩) h1 _).setCell (p := ⟨bx, 4, none⟩) h1 _).setCell (p := ⟨bx, 5, none⟩) h1 _
theorem lst_same {f g : F} (h : sameF f g = true) : sameD (lstD f) (lstF f) (lstD g) (lstF g) = true := by
  induction f generalizing g with
  | nil => cases g with
    | nil => exact sameD_refl _ _
    | cons d k r => simp [sameF] at h
  | cons d k r _ ih =>
    cases g with
    | nil => simp [sameF] at h
    | cons d' k' r' =>
      simp only [sameF, Bool.and_eq_true] at h
      exact same_two (A := none) (A' := none) (by simp only [sameD, Bool.and_eq_true]; exact h.1) (ih h.2)
/-- What Items says of a list of these. -/
def ItemsOf (d1 : D) (f1 fl : F) (w : World) (e : Ending) (w' : World) : Prop := ∃ (bm om cm n : Nat) (dm : D) (km rm : F), e = .returned (.tuple #[.slice (some ⟨bm, om, none⟩) n cm, .bool true]) ∧ Hid (n = fl.len + 1) ∧ AtF (fun k => w.heap.size ≤ k) w' (.cons dm km rm) bm om ∧ sameD d1 f1 dm km = true ∧ sameF fl rm = true ∧ Hid (rm.len = fl.len) ∧ fl.len + 1 ≤ cm ∧ Below w.heap.size w w'
theorem items_of {d1 dx : D} {f1 fl fx : F} {w : World} {e : Ending} {w' : World} (sx : sameD (lstD (.cons d1 f1 fl)) (lstF (.cons d1 f1 fl)) dx fx = true) (h : ItemsSaid dx fx w e w') : ItemsOf d1 f1 fl w e w' := by
  have hc := carsE_same sx
  have hl := cars_lst (.cons d1 f1 fl)
  rw [hl.2] at hc
  rcases h with ⟨h0, _⟩ | ⟨h0, A, b, o, c, fm, rfl, hA, hF, hs, hlc, hb⟩
  · exact absurd hc.2.symm h0
  · have h1 : sameF (.cons d1 f1 fl) fm = true := sameF_trans _ _ _ (by rw [sameF_symm]; exact hl.1) (sameF_trans _ _ _ hc.1 hs)
    cases fm with
    | nil => simp [sameF] at h1
    | cons dm km rm =>
      simp only [sameF, Bool.and_eq_true] at h1
      have h2 := sameF_len _ _ h1.2
      obtain rfl := hA (by simp [F.len])
      refine ⟨b, o, c, fl.len + 1, dm, km, rm, ?_, Lib.hid rfl, hF, by simp only [sameD, Bool.and_eq_true]; exact h1.1, h1.2, Lib.hid h2.symm, ?_, hb⟩
      · simp only [F.len, h2]
      · simp only [F.len] at hlc
        omega
/-- What Items says, in short. -/
def ItemsOk (L : Bool) (w : World) (e : Ending) (w' : World) : Prop := ∃ A n c, e = .returned (.tuple #[.slice A n c, .bool L]) ∧ Below w.heap.size w w'
theorem items_ok {d : D} {f : F} {w : World} {e : Ending} {w' : World} {L : Bool} (hL : decide (endK d f = 0) = L) (h : ItemsSaid d f w e w') : ItemsOk L w e w' := by
  rcases h with ⟨h0, rfl, hb⟩ | ⟨h0, A, b, o, c, fl, rfl, _, _, _, _, hb⟩
  · exact ⟨none, 0, 0, by rw [← hL]; simp [h0], hb⟩
  · exact ⟨A, fl.len, c, by rw [← hL]; simp [h0], hb⟩
theorem endK_pair {d d' : D} {f f' : F} {e : D} {g : F} (h : sameD (pairD none) (two d f e g) d' f' = true) : endK d' f' = endK e g := by
  have := (carsE_same h).2
  rw [← this]
  simp [two, endK, pairD]
set_option maxRecDepth 100000 in
set_option maxHeartbeats 16000000 in
theorem parts_main (d1 : D) (f1 : F) (d2 : D) (f2 : F) (fl : F) (A : Option Addr) (b o c : Nat) (w : World) (v1 : Val (fun k => k < w.heap.size) w d1 f1) (v2 : Val (fun k => k < w.heap.size) w d2 f2) (hA : Hid (0 < fl.len → A = some ⟨b, o, none⟩)) (hF : AtF (fun k => k < w.heap.size) w fl b o) (hT : Lib.Utf8Tabs 0 1 w)
    (g1 : heavyB d1 f1 = false) (g2 : heavyB d2 f2 = false) (hn : fl.len ≤ 50) :
    Calls Tryd.prog 7 #[.agg #[.int .i64 d1.k, .int .i32 d1.c, .bool d1.neg, .slice d1.mA d1.mag.length d1.mcap, .string d1.t, .slice d1.lA f1.len d1.lcap], .slice A fl.len c, .agg #[.int .i64 d2.k, .int .i32 d2.c, .bool d2.neg, .slice d2.mA d2.mag.length d2.mcap, .string d2.t, .slice d2.lA f2.len d2.lcap]] w fun e w' => e = .returned (.bool true) ∧ Below w.heap.size w w' := by
  obtain ⟨W, hW⟩ : ∃ W, W = (w.alloc (six d1 f1.len)).alloc (six d2 f2.len) := ⟨_, rfl⟩
  have hbW : Below w.heap.size w W := by rw [hW]; exact ((Below.refl _ _).alloc (Nat.le_refl _) _).alloc (by simp) _
  have hx1 : W.heap[w.heap.size]? = some (six d1 f1.len) := by rw [hW]; exact (Below.heap_alloc _ _ _ (by simp)).trans (heap_alloc_new _ _)
  have hx2 : W.heap[w.heap.size + 1]? = some (six d2 f2.len) := by
    rw [hW]
    have := heap_alloc_new (w.alloc (six d1 f1.len)) (six d2 f2.len)
    rwa [World.size_alloc] at this
  have hT1 := Utf8Tabs_below hT hbW
  have w1 := v1.below hbW
  have w2 := v2.below hbW
  have wF := AtF.mono (fun k hk => Nat.lt_of_lt_of_le hk hbW.size) _ _ _ (AtF.keep (Keep.of_below hbW) _ _ _ hF)
  have k1 := (light_cnt g1).1
  have k2 := (light_cnt g2).1
  have C1 := Lib.hid (heavy_any d1 f1 W w1)
  have C2 := Lib.hid (fun V (hb : Below W.heap.size W V) => heavy_any d2 f2 V (w2.below hb))
  rw [g1] at C1
  rw [g2] at C2
  have KT : ∀ V, Below W.heap.size W V → (Below W.heap.size W V ∧ V.cell? ⟨w.heap.size, 0, none⟩ = some (.int .i64 d1.k) ∧ V.cell? ⟨w.heap.size, 1, none⟩ = some (.int .i32 d1.c) ∧ V.cell? ⟨w.heap.size, 2, none⟩ = some (.bool d1.neg) ∧ V.cell? ⟨w.heap.size, 3, none⟩ = some (.slice d1.mA d1.mag.length d1.mcap) ∧ V.cell? ⟨w.heap.size, 4, none⟩ = some (.string d1.t) ∧ V.cell? ⟨w.heap.size, 5, none⟩ = some (.slice d1.lA f1.len d1.lcap) ∧ V.cell? ⟨w.heap.size + 1, 0, none⟩ = some (.int .i64 d2.k) ∧ V.cell? ⟨w.heap.size + 1, 1, none⟩ = some (.int .i32 d2.c) ∧ V.cell? ⟨w.heap.size + 1, 2, none⟩ = some (.bool d2.neg) ∧ V.cell? ⟨w.heap.size + 1, 3, none⟩ = some (.slice d2.mA d2.mag.length d2.mcap) ∧ V.cell? ⟨w.heap.size + 1, 4, none⟩ = some (.string d2.t) ∧ V.cell? ⟨w.heap.size + 1, 5, none⟩ = some (.slice d2.lA f2.len d2.lcap)) := fun V hb => by
    have e1 := Node.of_six ((hb.block _ (Array.getElem?_eq_some_iff.1 hx1).1).trans hx1)
    have e2 := Node.of_six ((hb.block _ (Array.getElem?_eq_some_iff.1 hx2).1).trans hx2)
    exact ⟨hb, e1.k, e1.c, e1.neg, e1.mag, e1.t, e1.l, e2.k, e2.c, e2.neg, e2.mag, e2.t, e2.l⟩
  have UP := Lib.hid (fun (V1 V2 : World) (h : Below W.heap.size W V1) (k : Below V1.heap.size V1 V2) => (h.trans (k.mono h.size) : Below W.heap.size W V2))
  have KK := Lib.hid KT
  clear KT
  have HT := Lib.hid (fun V (hb : Below W.heap.size W V) => Utf8Tabs_below hT1 hb)
  have HW := Lib.hid hW
  have HBW := Lib.hid hbW
  have HV1 := Lib.hid (fun V (hb : Below W.heap.size W V) => w1.below hb)
  have HV2 := Lib.hid (fun V (hb : Below W.heap.size W V) => w2.below hb)
  have HFF := Lib.hid (fun V (hb : Below W.heap.size W V) => (AtF.mono (fun k hk => Nat.lt_of_lt_of_le hk hb.size) _ _ _ (AtF.keep (Keep.of_below hb) _ _ _ wF) : AtF (fun k => k < V.heap.size) V fl b o))
  have pp := KK.out W (Below.refl _ _)
  obtain ⟨_, r1, r2, r3, r4, r5, r6, t1, t2, t3, t4, t5, t6⟩ := pp
  clear hW hx1 hx2 hT v1 v2 g1 g2 hF hT1 hbW w1 w2 wF
  go_enter Tryd.func7, Tryd.ntmps7
  go_wp2_with (go_at_call 9; rw [show (w.alloc (.cells #[.int .i64 d1.k, .int .i32 d1.c, .bool d1.neg, .slice d1.mA d1.mag.length d1.mcap, .string d1.t, .slice d1.lA f1.len d1.lcap] 27)).alloc (.cells #[.int .i64 d2.k, .int .i32 d2.c, .bool d2.neg, .slice d2.mA d2.mag.length d2.mcap, .string d2.t, .slice d2.lA f2.len d2.lcap] 27) = W from HW.out.symm]; refine (C1.out).mono ?_; rintro e x1 ⟨rfl, b1⟩; refine Hid.out ?_)
  refine Lib.hid ?_
  clear r1 r2 r3 r4 r5 r6 t1 t2 t3 t4 t5 t6
  have pp := KK.out _ b1
  obtain ⟨_, r1, r2, r3, r4, r5, r6, t1, t2, t3, t4, t5, t6⟩ := pp
  go_wp2_with (go_at_call 9; refine (C2.out _ b1).mono ?_; rintro e x2 ⟨rfl, b2⟩)
  have a2 := UP.out _ _ b1 b2
  clear r1 r2 r3 r4 r5 r6 t1 t2 t3 t4 t5 t6
  go_loopw [7] (fun i wr => ∃ (j : Nat), j ≤ fl.len ∧ i = .int .i64 (j : Nat) ∧ cntTo fl j ≤ 3000 * j ∧ Hid (Below W.heap.size W wr)) (fun i _ => fl.len - (intOf i).toNat)
  case atStart => exact ⟨0, Nat.zero_le _, rfl, by rw [cntTo_zero]; omega, Lib.hid a2⟩
  case round =>
    obtain ⟨j, hj, rfl, hcl, hB⟩ := hrel
    obtain ⟨V, hV⟩ : ∃ V, V = wr := ⟨_, rfl⟩
    rw [← hV] at hB ⊢
    clear hV b1 b2 a2
    by_cases hlt : j < fl.len
    · obtain rfl := hA.out (by omega)
      have it := AtF.nth (HFF.out V hB.out) 0 j hlt
      have vi := it.val
      simp only [] at vi
      have ⟨q1, q2, q3, q4, q5, q6⟩ := it.node
      simp only [] at q1 q2 q3 q4 q5 q6
      have hnx := cntTo_succ fl j hlt
      clear it
      have CI := Lib.hid (heavy_any (fl.nthD j) (fl.nthK j) V vi)
      cases hg : heavyB (fl.nthD j) (fl.nthK j) with
      | true =>
        rw [hg] at CI
        clear hg hnx vi
        generalize fl.nthD j = x at *
        generalize fl.nthK j = kx at *
        go_wp2_with (first
          | (go_at_call 9; refine (CI.out).mono ?_; rintro e y1 ⟨rfl, c1⟩)
          | (go_at_call 10; refine (awake_any _ (HT.out _ (UP.out _ _ hB.out c1))).mono ?_; rintro e y2 ⟨rfl, c2⟩))
        go_ret
        exact ⟨rfl, HBW.out.trans ((UP.out _ _ (UP.out _ _ hB.out c1) c2).mono HBW.out.size)⟩
      | false =>
        rw [hg] at CI
        have hcx := (light_cnt hg).1
        clear hg vi
        have HNX := Lib.hid hnx
        clear hnx
        generalize fl.nthD j = x at *
        generalize fl.nthK j = kx at *
        go_wp2_with (go_at_call 9; refine (CI.out).mono ?_; rintro e y1 ⟨rfl, c1⟩)
        go_roundw
        case rel => exact ⟨j + 1, by omega, by go_num, by rw [HNX.out]; omega, Lib.hid (UP.out _ _ hB.out c1)⟩
        case measure => simp [intOf]; omega
    · have ej : j = fl.len := by omega
      clear hlt hj
      subst ej
      have hcn := cntTo_len fl
      rw [hcn] at hcl
      clear hcn
      have pp := KK.out _ hB.out
      obtain ⟨_, r1, r2, r3, r4, r5, r6, t1, t2, t3, t4, t5, t6⟩ := pp
      have B0 := hB.out
      have BRd : Below W.heap.size W V.drew := hB.out.drew
      have KT := KK.out
      go_upto_region 8 with fail
      go_cut [8] (fun s wx => PX W (.cons d1 f1 fl) s wx)
      case first =>
        refine wp_region_held_drew (S := fun V' => Below W.heap.size W V' ∧ V'.cell? ⟨w.heap.size, 0, none⟩ = some (.int .i64 d1.k) ∧ V'.cell? ⟨w.heap.size, 1, none⟩ = some (.int .i32 d1.c) ∧ V'.cell? ⟨w.heap.size, 2, none⟩ = some (.bool d1.neg) ∧ V'.cell? ⟨w.heap.size, 3, none⟩ = some (.slice d1.mA d1.mag.length d1.mcap) ∧ V'.cell? ⟨w.heap.size, 4, none⟩ = some (.string d1.t) ∧ V'.cell? ⟨w.heap.size, 5, none⟩ = some (.slice d1.lA f1.len d1.lcap) ∧ V'.cell? ⟨w.heap.size + 1, 0, none⟩ = some (.int .i64 d2.k) ∧ V'.cell? ⟨w.heap.size + 1, 1, none⟩ = some (.int .i32 d2.c) ∧ V'.cell? ⟨w.heap.size + 1, 2, none⟩ = some (.bool d2.neg) ∧ V'.cell? ⟨w.heap.size + 1, 3, none⟩ = some (.slice d2.mA d2.mag.length d2.mcap) ∧ V'.cell? ⟨w.heap.size + 1, 4, none⟩ = some (.string d2.t) ∧ V'.cell? ⟨w.heap.size + 1, 5, none⟩ = some (.slice d2.lA f2.len d2.lcap)) (by kernel_rfl) ?_ (fun hHeld => ?_)
        · (try dsimp only)
          exact KT _ BRd
        have HZ : W.heap.size ≤ V.heap.size := hB.out.size
        have BZ : Below W.heap.size W (V.drew.alloc (six nilD 0)) := below_up BRd
        refine wpAnyH_take (i := 0) (v := ?_) rfl (by kernel_rfl) (by kernel_rfl) (by kernel_rfl) (fun _ _ _ h => h) (Or.inl ⟨by rfl, ?_⟩) (by assumption) ?_
        rotate_left
        · intro w hSw
          (try dsimp only at hSw)
          go_simp
          all_goals with_reducible rfl
        try simp only [Act.put, List.getElem_toArray, List.getElem_cons_zero, List.getElem_cons_succ, List.setIfInBounds_toArray, List.set_cons_zero, List.set_cons_succ]
        refine wpAnyH_take (i := 1) (v := ?_) rfl (by kernel_rfl) (by kernel_rfl) (by kernel_rfl) (fun _ _ _ h => h) (Or.inl ⟨by rfl, ?_⟩) (by assumption) ?_
        rotate_left
        · intro w hSw
          (try dsimp only at hSw)
          go_simp
          all_goals with_reducible rfl
        try simp only [Act.put, List.getElem_toArray, List.getElem_cons_zero, List.getElem_cons_succ, List.setIfInBounds_toArray, List.set_cons_zero, List.set_cons_succ]
        refine wpAnyH_ready (rs := [2, 4]) (by kernel_rfl) (by simp) ?_
        refine AllReadyH.cons rfl (fun K hK => ?_) (AllReadyH.cons rfl (fun K hK => ?_) AllReadyH.nil)
        · go_simp
          go_at_call 25
          refine (list_any fl A b o c _ hA (HFF.out _ (BRd)) (by omega)).mono ?_
          rintro e u1 ⟨dl, gl, rfl, vl, sl, c1⟩
          have B1 : Below W.heap.size W u1 := UP.out _ _ (BRd) c1
          have hcl := cnt_lst sl
          have s1 := c1.size
          go_wp2_with fail
          refine hK.out _ _ ?_ (fun hH2 => ?_)
          · (try dsimp only)
            exact KT _ (B1)
          clear hK K hHeld
          have hHeld := hH2
          clear hH2
          try simp only [Act.put, List.getElem_toArray, List.getElem_cons_zero, List.getElem_cons_succ, List.setIfInBounds_toArray, List.set_cons_zero, List.set_cons_succ]
          refine wpAnyH_ready (rs := [3, 4]) (by kernel_rfl) (by simp) ?_
          refine AllReadyH.cons rfl (fun K hK => ?_) (AllReadyH.cons rfl (fun K hK => ?_) AllReadyH.nil)
          · go_simp
            go_at_call 27
            refine (cons_any d1 f1 dl gl _ (HV1.out _ (B1)) (val_here vl) (by omega) (by omega)).mono ?_
            rintro e u2 ⟨dx, fx, rfl, vx, sx, c2⟩
            have B2 : Below W.heap.size W u2 := UP.out _ _ (B1) c2
            have hsx := lst_cons sl sx
            have s2 := c2.size
            go_wp2_with fail
            refine hK.out _ _ ?_ (fun hH2 => ?_)
            · (try dsimp only)
              exact KT _ (B2)
            clear hK K hHeld
            have hHeld := hH2
            clear hH2
            try simp only [Act.put, List.getElem_toArray, List.getElem_cons_zero, List.getElem_cons_succ, List.setIfInBounds_toArray, List.set_cons_zero, List.set_cons_succ]
            refine wpAnyH_ready (rs := [4]) (by kernel_rfl) (by simp) ?_
            refine AllReadyH.cons rfl (fun K hK => ?_) AllReadyH.nil
            go_simp
            refine hK.out _ _ ?_ (fun hH2 => ?_)
            · (try dsimp only)
              exact KT _ (below_up B2)
            clear hK K hHeld
            have hHeld := hH2
            clear hH2
            try simp only [Act.put, List.getElem_toArray, List.getElem_cons_zero, List.getElem_cons_succ, List.setIfInBounds_toArray, List.set_cons_zero, List.set_cons_succ]
            refine wpAnyH_ready (rs := [5]) (by kernel_rfl) (by simp) ?_
            refine AllReadyH.cons rfl (fun K hK => ?_) AllReadyH.nil
            go_simp
            refine hK.out _ _ ?_ (fun hH2 => ?_)
            · (try dsimp only)
              exact KT _ (below_up B2)
            clear hK K hHeld
            have hHeld := hH2
            clear hH2
            try simp only [Act.put, List.getElem_toArray, List.getElem_cons_zero, List.getElem_cons_succ, List.setIfInBounds_toArray, List.set_cons_zero, List.set_cons_succ]
            refine wpAnyH_done (by kernel_rfl) ?_ _
            go_wp2_with fail
            go_meet
            case rel => exact ⟨u2.heap.size, dx, fx, rfl, heap_alloc_new _ _, val_alloc (val_here vx) _, hsx, below_up B2⟩
          · go_simp
            refine hK.out _ _ ?_ (fun hH2 => ?_)
            · (try dsimp only)
              exact KT _ (below_up B1)
            clear hK K hHeld
            have hHeld := hH2
            clear hH2
            try simp only [Act.put, List.getElem_toArray, List.getElem_cons_zero, List.getElem_cons_succ, List.setIfInBounds_toArray, List.set_cons_zero, List.set_cons_succ]
            refine wpAnyH_ready (rs := [3]) (by kernel_rfl) (by simp) ?_
            refine AllReadyH.cons rfl (fun K hK => ?_) AllReadyH.nil
            go_simp
            go_at_call 27
            refine (cons_any d1 f1 dl gl _ (HV1.out _ (below_up B1)) (val_alloc (val_here vl) _) (by omega) (by omega)).mono ?_
            rintro e u2 ⟨dx, fx, rfl, vx, sx, c2⟩
            have B2 : Below W.heap.size W u2 := UP.out _ _ (below_up B1) c2
            have hsx := lst_cons sl sx
            have s2 := c2.size
            go_wp2_with fail
            refine hK.out _ _ ?_ (fun hH2 => ?_)
            · (try dsimp only)
              exact KT _ (B2)
            clear hK K hHeld
            have hHeld := hH2
            clear hH2
            try simp only [Act.put, List.getElem_toArray, List.getElem_cons_zero, List.getElem_cons_succ, List.setIfInBounds_toArray, List.set_cons_zero, List.set_cons_succ]
            have zb2 : u2.heap[u1.heap.size]? = some (six nilD 0) := (c2.block _ (by simp)).trans (heap_alloc_new _ _)
            have PS := px_set (W := W) (bx := u1.heap.size) (n := (u1.alloc (six nilD 0)).heap.size) zb2 (B1.size) (by simp) vx B2 _ rfl
            obtain ⟨ps1, ps2, ps3⟩ := PS
            have zf := (cells_of_six zb2).2
            have ⟨z1, z2, z3, z4, z5, z6⟩ := (cells_of_six zb2).1
            simp only [Nat.zero_add, nilD, List.length_nil] at z1 z2 z3 z4 z5 z6
            have zf0 := zf 0
            have zf1 := zf 1
            have zf2 := zf 2
            have zf3 := zf 3
            have zf4 := zf 4
            have zf5 := zf 5
            clear zf
            refine wpAnyH_ready (rs := [5]) (by kernel_rfl) (by simp) ?_
            refine AllReadyH.cons rfl (fun K hK => ?_) AllReadyH.nil
            go_simp
            refine hK.out _ _ ?_ (fun hH2 => ?_)
            · (try dsimp only)
              exact KT _ (ps3)
            clear hK K hHeld
            have hHeld := hH2
            clear hH2
            try simp only [Act.put, List.getElem_toArray, List.getElem_cons_zero, List.getElem_cons_succ, List.setIfInBounds_toArray, List.set_cons_zero, List.set_cons_succ]
            refine wpAnyH_done (by kernel_rfl) ?_ _
            go_wp2_with fail
            go_meet
            case rel => exact ⟨u1.heap.size, dx, fx, rfl, ps1, ps2, hsx, ps3⟩
        · go_simp
          refine hK.out _ _ ?_ (fun hH2 => ?_)
          · (try dsimp only)
            exact KT _ (BZ)
          clear hK K hHeld
          have hHeld := hH2
          clear hH2
          try simp only [Act.put, List.getElem_toArray, List.getElem_cons_zero, List.getElem_cons_succ, List.setIfInBounds_toArray, List.set_cons_zero, List.set_cons_succ]
          refine wpAnyH_ready (rs := [2]) (by kernel_rfl) (by simp) ?_
          refine AllReadyH.cons rfl (fun K hK => ?_) AllReadyH.nil
          go_simp
          go_at_call 25
          refine (list_any fl A b o c _ hA (HFF.out _ (BZ)) (by omega)).mono ?_
          rintro e u1 ⟨dl, gl, rfl, vl, sl, c1⟩
          have B1 : Below W.heap.size W u1 := UP.out _ _ (BZ) c1
          have hcl := cnt_lst sl
          have s1 := c1.size
          go_wp2_with fail
          refine hK.out _ _ ?_ (fun hH2 => ?_)
          · (try dsimp only)
            exact KT _ (B1)
          clear hK K hHeld
          have hHeld := hH2
          clear hH2
          try simp only [Act.put, List.getElem_toArray, List.getElem_cons_zero, List.getElem_cons_succ, List.setIfInBounds_toArray, List.set_cons_zero, List.set_cons_succ]
          have zb1 : u1.heap[V.heap.size]? = some (six nilD 0) := (c1.block _ (by simp)).trans (heap_alloc_new V.drew _)
          refine wpAnyH_ready (rs := [3]) (by kernel_rfl) (by simp) ?_
          refine AllReadyH.cons rfl (fun K hK => ?_) AllReadyH.nil
          go_simp
          go_at_call 27
          refine (cons_any d1 f1 dl gl _ (HV1.out _ (B1)) (val_here vl) (by omega) (by omega)).mono ?_
          rintro e u2 ⟨dx, fx, rfl, vx, sx, c2⟩
          have B2 : Below W.heap.size W u2 := UP.out _ _ (B1) c2
          have hsx := lst_cons sl sx
          have s2 := c2.size
          go_wp2_with fail
          refine hK.out _ _ ?_ (fun hH2 => ?_)
          · (try dsimp only)
            exact KT _ (B2)
          clear hK K hHeld
          have hHeld := hH2
          clear hH2
          try simp only [Act.put, List.getElem_toArray, List.getElem_cons_zero, List.getElem_cons_succ, List.setIfInBounds_toArray, List.set_cons_zero, List.set_cons_succ]
          have zb2 : u2.heap[V.heap.size]? = some (six nilD 0) := (c2.block _ (Array.getElem?_eq_some_iff.1 zb1).1).trans zb1
          have PS := px_set (W := W) (bx := V.heap.size) (n := u1.heap.size) zb2 (HZ) ((Array.getElem?_eq_some_iff.1 zb1).1) vx B2 _ rfl
          obtain ⟨ps1, ps2, ps3⟩ := PS
          have zf := (cells_of_six zb2).2
          have ⟨z1, z2, z3, z4, z5, z6⟩ := (cells_of_six zb2).1
          simp only [Nat.zero_add, nilD, List.length_nil] at z1 z2 z3 z4 z5 z6
          have zf0 := zf 0
          have zf1 := zf 1
          have zf2 := zf 2
          have zf3 := zf 3
          have zf4 := zf 4
          have zf5 := zf 5
          clear zf
          refine wpAnyH_ready (rs := [5]) (by kernel_rfl) (by simp) ?_
          refine AllReadyH.cons rfl (fun K hK => ?_) AllReadyH.nil
          go_simp
          refine hK.out _ _ ?_ (fun hH2 => ?_)
          · (try dsimp only)
            exact KT _ (ps3)
          clear hK K hHeld
          have hHeld := hH2
          clear hH2
          try simp only [Act.put, List.getElem_toArray, List.getElem_cons_zero, List.getElem_cons_succ, List.setIfInBounds_toArray, List.set_cons_zero, List.set_cons_succ]
          refine wpAnyH_done (by kernel_rfl) ?_ _
          go_wp2_with fail
          go_meet
          case rel => exact ⟨V.heap.size, dx, fx, rfl, ps1, ps2, hsx, ps3⟩
      case rest =>
        clear B0 BRd r1 r2 r3 r4 r5 r6 t1 t2 t3 t4 t5 t6
        obtain ⟨bx, dx, fx, rfl, hbx, vx, sx, Bx⟩ := hcut
        obtain ⟨X, hX⟩ : ∃ X, X = wc := ⟨_, rfl⟩
        rw [← hX] at hbx vx Bx ⊢
        clear hX
        have hzx := (Array.getElem?_eq_some_iff.1 hbx).1
        have hcx : fx.cnt ≤ 160000 := by
          have h := cnt_lst sx
          simp only [F.cnt, F.len] at h
          omega
        have HI := Lib.hid ((items_any dx fx X vx (by omega)).mono fun e w' h => items_of sx h)
        have ⟨q1, q2, q3, q4, q5, q6⟩ := Node.of_six hbx
        simp only [Nat.zero_add] at q1 q2 q3 q4 q5 q6
        go_wp2_with (go_at_call 28; refine (HI.out).mono ?_; rintro e w3 ⟨bm, om, cm, n, dm, km, rm, rfl, hn1, hFm, sm1, sm2, hrl, hcm, c3⟩; refine Hid.out ?_)
        refine Lib.hid ?_
        have HN := hn1
        have HRL := hrl
        replace hn1 := hn1.out
        replace hrl := hrl.out
        clear q1 q2 q3 q4 q5 q6 HI
        have B3 : Below W.heap.size W w3 := UP.out _ _ Bx c3
        have vm := AtF.lt _ _ _ hFm
        have vm3 : AtF (fun k => k < w3.heap.size) w3 (.cons dm km rm) bm om := AtF.mono (fun k hk => hk.2) _ _ _ vm
        have HVM := Lib.hid vm3
        obtain ⟨⟨gm, nm, okm, mgm, kdm⟩, hrm⟩ := vm3
        have vdm : Val (fun k => k < w3.heap.size) w3 dm km := ⟨okm, mgm, kdm⟩
        have scm : km.cnt + rm.cnt ≤ 160000 := by
          have h1 := sameF_cnt _ _ sm2
          simp only [sameD, Bool.and_eq_true] at sm1
          have h2 := sameF_cnt _ _ sm1.2
          omega
        have K3 : ∀ V', Below w3.heap.size w3 V' → (Below w3.heap.size w3 V' ∧ V'.cell? ⟨w.heap.size, 0, none⟩ = some (.int .i64 d1.k) ∧ V'.cell? ⟨w.heap.size, 1, none⟩ = some (.int .i32 d1.c) ∧ V'.cell? ⟨w.heap.size, 2, none⟩ = some (.bool d1.neg) ∧ V'.cell? ⟨w.heap.size, 3, none⟩ = some (.slice d1.mA d1.mag.length d1.mcap) ∧ V'.cell? ⟨w.heap.size, 4, none⟩ = some (.string d1.t) ∧ V'.cell? ⟨w.heap.size, 5, none⟩ = some (.slice d1.lA f1.len d1.lcap) ∧ V'.cell? ⟨bx, 0, none⟩ = some (.int .i64 dx.k) ∧ V'.cell? ⟨bx, 1, none⟩ = some (.int .i32 dx.c) ∧ V'.cell? ⟨bx, 2, none⟩ = some (.bool dx.neg) ∧ V'.cell? ⟨bx, 3, none⟩ = some (.slice dx.mA dx.mag.length dx.mcap) ∧ V'.cell? ⟨bx, 4, none⟩ = some (.string dx.t) ∧ V'.cell? ⟨bx, 5, none⟩ = some (.slice dx.lA fx.len dx.lcap) ∧ V'.cell? ⟨bm, om, none⟩ = some (.int .i64 dm.k) ∧ V'.cell? ⟨bm, om + 1, none⟩ = some (.int .i32 dm.c) ∧ V'.cell? ⟨bm, om + 2, none⟩ = some (.bool dm.neg) ∧ V'.cell? ⟨bm, om + 3, none⟩ = some (.slice dm.mA dm.mag.length dm.mcap) ∧ V'.cell? ⟨bm, om + 4, none⟩ = some (.string dm.t) ∧ V'.cell? ⟨bm, om + 5, none⟩ = some (.slice dm.lA km.len dm.lcap)) := fun V' hb => by
          have pp := KT V' (B3.trans (hb.mono B3.size))
          obtain ⟨_, r1, r2, r3, r4, r5, r6, _⟩ := pp
          have e2 := Node.of_six (((c3.trans (hb.mono c3.size)).block _ hzx).trans hbx)
          have e3 := nm.keep gm (Keep.of_below hb)
          exact ⟨hb, r1, r2, r3, r4, r5, r6, e2.k, e2.c, e2.neg, e2.mag, e2.t, e2.l, e3.k, e3.c, e3.neg, e3.mag, e3.t, e3.l⟩
        have CSa : ∀ V', Below w3.heap.size w3 V' → Hid (Calls Tryd.prog 19 #[.agg #[.int .i64 dm.k, .int .i32 dm.c, .bool dm.neg, .slice dm.mA dm.mag.length dm.mcap, .string dm.t, .slice dm.lA km.len dm.lcap], .agg #[.int .i64 d1.k, .int .i32 d1.c, .bool d1.neg, .slice d1.mA d1.mag.length d1.mcap, .string d1.t, .slice d1.lA f1.len d1.lcap]] V' fun e w' => e = .returned (.bool true) ∧ Below V'.heap.size V' w') := fun V' hb => Lib.hid (same_any dm km d1 f1 V' (vdm.below hb) (HV1.out V' (B3.trans (hb.mono B3.size))) (by omega) true (Lib.hid (by rw [sameD_symm]; exact sm1)))
        have CRl : ∀ V' (A' : Option Addr) (k' c' : Nat), Hid (k' = fl.len) → Below w3.heap.size w3 V' → Hid (0 < fl.len → A' = some ⟨bm, om + 6, none⟩) → Hid (Calls Tryd.prog 30 #[.slice A' k' c', .slice A fl.len c] V' fun e w' => e = .returned (.bool true) ∧ Below V'.heap.size V' w') := fun V' A' k' c' hk hb ha => Lib.hid (by
          rw [hk.out]
          have hb' := B3.trans (hb.mono B3.size)
          have := rlist_any rm fl A' A bm (om + 6) b o c' c V' (by omega) (by omega) (Lib.hid (by rw [hrl]; exact ha.out)) hA (AtF.mono (fun k hk => Nat.lt_of_lt_of_le hk hb.size) _ _ _ (AtF.keep (Keep.of_below hb) _ _ _ hrm)) (HFF.out V' hb')
          rw [hrl, sameF_symm, sm2] at this
          exact this)
        have CLm : ∀ V', Below w3.heap.size w3 V' → Hid (Calls Tryd.prog 25 #[.slice (some ⟨bm, om, none⟩) n cm] V' fun x w' => ∃ (dn : D) (gn : F), x = .returned (.agg #[.int .i64 dn.k, .int .i32 dn.c, .bool dn.neg, .slice dn.mA dn.mag.length dn.mcap, .string dn.t, .slice dn.lA gn.len dn.lcap]) ∧ Val (fun k => V'.heap.size ≤ k) w' dn gn ∧ (sameD dn gn dx fx = true ∧ gn.cnt ≤ 170000) ∧ Below V'.heap.size V' w') := fun V' hb => Lib.hid (by
          have hat : AtF (fun k => k < V'.heap.size) V' (.cons dm km rm) bm om := AtF.mono (fun k hk => Nat.lt_of_lt_of_le hk hb.size) _ _ _ (AtF.keep (Keep.of_below hb) _ _ _ HVM.out)
          have := list_any (.cons dm km rm) (some ⟨bm, om, none⟩) bm om cm V' (Lib.hid (fun _ => rfl)) hat (by simp only [F.cnt]; omega)
          rw [show (F.cons dm km rm).len = n by simp [F.len, hrl, hn1]] at this
          refine this.mono ?_
          rintro e w' ⟨dn, gn, rfl, v, sn, hb2⟩
          refine ⟨dn, gn, rfl, v, ⟨?_, ?_⟩, hb2⟩
          · have h1 : sameF (.cons d1 f1 fl) (.cons dm km rm) = true := by
              simp only [sameF, Bool.and_eq_true]
              simp only [sameD, Bool.and_eq_true] at sm1
              exact ⟨sm1, sm2⟩
            have h2 := sameD_trans (lst_same h1) sn
            rw [sameD_symm] at h2
            exact sameD_trans h2 sx
          · have h := cnt_lst sn
            simp only [F.cnt, F.len] at h
            omega)
        have CSb : ∀ V' (dn : D) (gn : F), Below w3.heap.size w3 V' → Val (fun k => k < V'.heap.size) V' dn gn → sameD dn gn dx fx = true ∧ gn.cnt ≤ 170000 → Hid (Calls Tryd.prog 19 #[.agg #[.int .i64 dn.k, .int .i32 dn.c, .bool dn.neg, .slice dn.mA dn.mag.length dn.mcap, .string dn.t, .slice dn.lA gn.len dn.lcap], .agg #[.int .i64 dx.k, .int .i32 dx.c, .bool dx.neg, .slice dx.mA dx.mag.length dx.mcap, .string dx.t, .slice dx.lA fx.len dx.lcap]] V' fun e w' => e = .returned (.bool true) ∧ Below V'.heap.size V' w') := fun V' dn gn hb v s => Lib.hid (same_any dn gn dx fx V' v (vx.below (c3.trans (hb.mono c3.size))) (by omega) true (Lib.hid s.1))
        have U3 := Lib.hid (fun (V1 V2 : World) (h : Below w3.heap.size w3 V1) (k : Below V1.heap.size V1 V2) => (h.trans (k.mono h.size) : Below w3.heap.size w3 V2))
        have BR3 : Below w3.heap.size w3 w3.drew := (Below.refl _ _).drew
        have pp := K3 w3 (Below.refl _ _)
        obtain ⟨_, r1, r2, r3, r4, r5, r6, t1, t2, t3, t4, t5, t6, q1, q2, q3, q4, q5, q6⟩ := pp
        obtain ⟨L, HL⟩ : ∃ L, Hid (decide (endK d2 f2 = 0) = L) := ⟨_, Lib.hid rfl⟩
        have hw : IntKind.i64.wrap ((fl.len : Int) + 1) = (n : Int) := by rw [hn1]; exact IntWalk.i64_in _ (by omega)
        have hnn : ((n : Int) != (n : Int)) = false := by simp
        have hn0 : 1 ≤ n := by omega
        have hncm : n ≤ cm := by omega
        have hni : 0 < n := by omega
        have hnI : (0 : Int) < (n : Int) := by omega
        have hnJ : (1 : Int) ≤ (n : Int) := by omega
        have hnK : (n : Int) ≤ (cm : Int) := by omega
        clear hFm vm gm nm okm mgm kdm hrm vdm hbx vx sx sm1 sm2 scm hrl hn1 hcm
        have HN1 : Hid (n - 1 = fl.len) := Lib.hid (by have := HN.out; omega)
        have hck : n ≤ 51 := by have := HN.out; omega
        by_cases hc1 : cm = 1
        · subst hc1
          have CR2 : ∀ V', Below w3.heap.size w3 V' → Hid (Calls Tryd.prog 30 #[.slice (some ⟨bm, om, none⟩) 0 0, .slice A fl.len c] V' fun e w' => e = .returned (.bool true) ∧ Below V'.heap.size V' w') := fun V' hb => CRl V' _ _ _ (Lib.hid (by have := HN.out; omega)) hb (Lib.hid (fun h => by have := HN.out; omega))
          clear CRl
          go_wp2_with fail
          refine wp_region_held_drew (S := fun V' => Below w3.heap.size w3 V' ∧ V'.cell? ⟨w.heap.size, 0, none⟩ = some (.int .i64 d1.k) ∧ V'.cell? ⟨w.heap.size, 1, none⟩ = some (.int .i32 d1.c) ∧ V'.cell? ⟨w.heap.size, 2, none⟩ = some (.bool d1.neg) ∧ V'.cell? ⟨w.heap.size, 3, none⟩ = some (.slice d1.mA d1.mag.length d1.mcap) ∧ V'.cell? ⟨w.heap.size, 4, none⟩ = some (.string d1.t) ∧ V'.cell? ⟨w.heap.size, 5, none⟩ = some (.slice d1.lA f1.len d1.lcap) ∧ V'.cell? ⟨bx, 0, none⟩ = some (.int .i64 dx.k) ∧ V'.cell? ⟨bx, 1, none⟩ = some (.int .i32 dx.c) ∧ V'.cell? ⟨bx, 2, none⟩ = some (.bool dx.neg) ∧ V'.cell? ⟨bx, 3, none⟩ = some (.slice dx.mA dx.mag.length dx.mcap) ∧ V'.cell? ⟨bx, 4, none⟩ = some (.string dx.t) ∧ V'.cell? ⟨bx, 5, none⟩ = some (.slice dx.lA fx.len dx.lcap) ∧ V'.cell? ⟨bm, om, none⟩ = some (.int .i64 dm.k) ∧ V'.cell? ⟨bm, om + 1, none⟩ = some (.int .i32 dm.c) ∧ V'.cell? ⟨bm, om + 2, none⟩ = some (.bool dm.neg) ∧ V'.cell? ⟨bm, om + 3, none⟩ = some (.slice dm.mA dm.mag.length dm.mcap) ∧ V'.cell? ⟨bm, om + 4, none⟩ = some (.string dm.t) ∧ V'.cell? ⟨bm, om + 5, none⟩ = some (.slice dm.lA km.len dm.lcap)) (by kernel_rfl) ?_ (fun hHeld => ?_)
          · (try dsimp only)
            exact K3 _ BR3
          refine wpAnyH_take (i := 0) (v := ?_) rfl (by kernel_rfl) (by kernel_rfl) (by kernel_rfl) (fun _ _ _ h => h) (Or.inl ⟨by rfl, ?_⟩) (by assumption) ?_
          rotate_left
          · intro w hSw
            (try dsimp only at hSw)
            go_simp
            all_goals with_reducible rfl
          try simp only [Act.put, List.getElem_toArray, List.getElem_cons_zero, List.getElem_cons_succ, List.setIfInBounds_toArray, List.set_cons_zero, List.set_cons_succ]
          refine wpAnyH_take (i := 1) (v := ?_) rfl (by kernel_rfl) (by kernel_rfl) (by kernel_rfl) (fun _ _ _ h => h) (Or.inl ⟨by rfl, ?_⟩) (by assumption) ?_
          rotate_left
          · intro w hSw
            (try dsimp only at hSw)
            go_simp
            all_goals with_reducible rfl
          try simp only [Act.put, List.getElem_toArray, List.getElem_cons_zero, List.getElem_cons_succ, List.setIfInBounds_toArray, List.set_cons_zero, List.set_cons_succ]
          refine wpAnyH_take (i := 2) (v := ?_) rfl (by kernel_rfl) (by kernel_rfl) (by kernel_rfl) (fun _ _ _ h => h) (Or.inl ⟨by rfl, ?_⟩) (by assumption) ?_
          rotate_left
          · intro w hSw
            (try dsimp only at hSw)
            go_simp
            all_goals with_reducible rfl
          try simp only [Act.put, List.getElem_toArray, List.getElem_cons_zero, List.getElem_cons_succ, List.setIfInBounds_toArray, List.set_cons_zero, List.set_cons_succ]
          refine wpAnyH_take (i := 3) (v := ?_) rfl (by kernel_rfl) (by kernel_rfl) (by kernel_rfl) (fun _ _ _ h => h) (Or.inl ⟨by rfl, ?_⟩) (by assumption) ?_
          rotate_left
          · intro w hSw
            (try dsimp only at hSw)
            go_simp
            all_goals with_reducible rfl
          try simp only [Act.put, List.getElem_toArray, List.getElem_cons_zero, List.getElem_cons_succ, List.setIfInBounds_toArray, List.set_cons_zero, List.set_cons_succ]
          refine wpAnyH_take (i := 4) (v := ?_) rfl (by kernel_rfl) (by kernel_rfl) (by kernel_rfl) (fun _ _ _ h => h) (Or.inl ⟨by rfl, ?_⟩) (by assumption) ?_
          rotate_left
          · intro w hSw
            (try dsimp only at hSw)
            go_simp
            all_goals with_reducible rfl
          try simp only [Act.put, List.getElem_toArray, List.getElem_cons_zero, List.getElem_cons_succ, List.setIfInBounds_toArray, List.set_cons_zero, List.set_cons_succ]
          refine wpAnyH_take (i := 5) (v := ?_) rfl (by kernel_rfl) (by kernel_rfl) (by kernel_rfl) (fun _ _ _ h => h) (Or.inl ⟨by rfl, ?_⟩) (by assumption) ?_
          rotate_left
          · intro w hSw
            (try dsimp only at hSw)
            go_simp
            all_goals with_reducible rfl
          try simp only [Act.put, List.getElem_toArray, List.getElem_cons_zero, List.getElem_cons_succ, List.setIfInBounds_toArray, List.set_cons_zero, List.set_cons_succ]
          refine wpAnyH_take (i := 6) (v := ?_) rfl (by kernel_rfl) (by kernel_rfl) (by kernel_rfl) (fun _ _ _ h => h) (Or.inl ⟨by rfl, ?_⟩) (by assumption) ?_
          rotate_left
          · intro w hSw
            (try dsimp only at hSw)
            go_simp
            all_goals with_reducible rfl
          try simp only [Act.put, List.getElem_toArray, List.getElem_cons_zero, List.getElem_cons_succ, List.setIfInBounds_toArray, List.set_cons_zero, List.set_cons_succ]
          refine wpAnyH_take (i := 7) (v := ?_) rfl (by kernel_rfl) (by kernel_rfl) (by kernel_rfl) (fun _ _ _ h => h) (Or.inl ⟨by rfl, ?_⟩) (by assumption) ?_
          rotate_left
          · intro w hSw
            (try dsimp only at hSw)
            go_simp
            all_goals with_reducible rfl
          try simp only [Act.put, List.getElem_toArray, List.getElem_cons_zero, List.getElem_cons_succ, List.setIfInBounds_toArray, List.set_cons_zero, List.set_cons_succ]
          refine wpAnyH_take (i := 8) (v := ?_) rfl (by kernel_rfl) (by kernel_rfl) (by kernel_rfl) (fun _ _ _ h => h) (Or.inl ⟨by rfl, ?_⟩) (by assumption) ?_
          rotate_left
          · intro w hSw
            (try dsimp only at hSw)
            go_simp
            all_goals with_reducible rfl
          try simp only [Act.put, List.getElem_toArray, List.getElem_cons_zero, List.getElem_cons_succ, List.setIfInBounds_toArray, List.set_cons_zero, List.set_cons_succ]
          refine wpAnyH_take (i := 9) (v := ?_) rfl (by kernel_rfl) (by kernel_rfl) (by kernel_rfl) (fun _ _ _ h => h) (Or.inl ⟨by rfl, ?_⟩) (by assumption) ?_
          rotate_left
          · intro w hSw
            (try dsimp only at hSw)
            go_simp
            all_goals with_reducible rfl
          try simp only [Act.put, List.getElem_toArray, List.getElem_cons_zero, List.getElem_cons_succ, List.setIfInBounds_toArray, List.set_cons_zero, List.set_cons_succ]
          refine wpAnyH_take (i := 10) (v := ?_) rfl (by kernel_rfl) (by kernel_rfl) (by kernel_rfl) (fun _ _ _ h => h) (Or.inl ⟨by rfl, ?_⟩) (by assumption) ?_
          rotate_left
          · intro w hSw
            (try dsimp only at hSw)
            go_simp
            all_goals with_reducible rfl
          try simp only [Act.put, List.getElem_toArray, List.getElem_cons_zero, List.getElem_cons_succ, List.setIfInBounds_toArray, List.set_cons_zero, List.set_cons_succ]
          refine wpAnyH_take (i := 11) (v := ?_) rfl (by kernel_rfl) (by kernel_rfl) (by kernel_rfl) (fun _ _ _ h => h) (Or.inl ⟨by rfl, ?_⟩) (by assumption) ?_
          rotate_left
          · intro w hSw
            (try dsimp only at hSw)
            go_simp
            all_goals with_reducible rfl
          try simp only [Act.put, List.getElem_toArray, List.getElem_cons_zero, List.getElem_cons_succ, List.setIfInBounds_toArray, List.set_cons_zero, List.set_cons_succ]
          refine wpAnyH_take (i := 12) (v := ?_) rfl (by kernel_rfl) (by kernel_rfl) (by kernel_rfl) (fun _ _ _ h => h) (Or.inl ⟨by rfl, ?_⟩) (by assumption) ?_
          rotate_left
          · intro w hSw
            (try dsimp only at hSw)
            go_simp
            all_goals with_reducible rfl
          try simp only [Act.put, List.getElem_toArray, List.getElem_cons_zero, List.getElem_cons_succ, List.setIfInBounds_toArray, List.set_cons_zero, List.set_cons_succ]
          refine wpAnyH_take (i := 13) (v := ?_) rfl (by kernel_rfl) (by kernel_rfl) (by kernel_rfl) (fun _ _ _ h => h) (Or.inl ⟨by rfl, ?_⟩) (by assumption) ?_
          rotate_left
          · intro w hSw
            (try dsimp only at hSw)
            go_simp
            all_goals with_reducible rfl
          try simp only [Act.put, List.getElem_toArray, List.getElem_cons_zero, List.getElem_cons_succ, List.setIfInBounds_toArray, List.set_cons_zero, List.set_cons_succ]
          refine wpAnyH_take (i := 14) (v := ?_) rfl (by kernel_rfl) (by kernel_rfl) (by kernel_rfl) (fun _ _ _ h => h) (Or.inl ⟨by rfl, ?_⟩) (by assumption) ?_
          rotate_left
          · intro w hSw
            (try dsimp only at hSw)
            go_simp
            all_goals with_reducible rfl
          try simp only [Act.put, List.getElem_toArray, List.getElem_cons_zero, List.getElem_cons_succ, List.setIfInBounds_toArray, List.set_cons_zero, List.set_cons_succ]
          refine wpAnyH_ready (rs := [15]) (by kernel_rfl) (by simp) ?_
          refine AllReadyH.cons rfl (fun K hK => ?_) AllReadyH.nil
          go_simp
          go_at_call 19
          with_reducible refine ((CSa _ BR3).out).mono ?_
          rintro e y1 ⟨rfl, e1⟩
          have B4 := U3.out _ _ BR3 e1
          go_wp2_with fail
          refine hK.out _ _ ?_ (fun hH2 => ?_)
          · (try dsimp only)
            exact K3 _ (B4)
          clear hK K hHeld
          have hHeld := hH2
          clear hH2
          try simp only [Act.put, List.getElem_toArray, List.getElem_cons_zero, List.getElem_cons_succ, List.setIfInBounds_toArray, List.set_cons_zero, List.set_cons_succ]
          refine wpAnyH_take (i := 16) (v := ?_) rfl (by kernel_rfl) (by kernel_rfl) (by kernel_rfl) (fun _ _ _ h => h) (Or.inl ⟨by rfl, ?_⟩) (by assumption) ?_
          rotate_left
          · intro w hSw
            (try dsimp only at hSw)
            go_simp
            all_goals with_reducible rfl
          try simp only [Act.put, List.getElem_toArray, List.getElem_cons_zero, List.getElem_cons_succ, List.setIfInBounds_toArray, List.set_cons_zero, List.set_cons_succ]
          refine wpAnyH_take (i := 17) (v := ?_) rfl (by kernel_rfl) (by kernel_rfl) (by kernel_rfl) (fun _ _ _ h => h) (Or.inl ⟨by rfl, ?_⟩) (by assumption) ?_
          rotate_left
          · intro w hSw
            (try dsimp only at hSw)
            go_simp
            all_goals with_reducible rfl
          try simp only [Act.put, List.getElem_toArray, List.getElem_cons_zero, List.getElem_cons_succ, List.setIfInBounds_toArray, List.set_cons_zero, List.set_cons_succ]
          refine wpAnyH_take (i := 18) (v := ?_) rfl (by kernel_rfl) (by kernel_rfl) (by kernel_rfl) (fun _ _ _ h => h) (Or.inl ⟨by rfl, ?_⟩) (by assumption) ?_
          rotate_left
          · intro w hSw
            (try dsimp only at hSw)
            go_simp
            all_goals with_reducible rfl
          try simp only [Act.put, List.getElem_toArray, List.getElem_cons_zero, List.getElem_cons_succ, List.setIfInBounds_toArray, List.set_cons_zero, List.set_cons_succ]
          refine wpAnyH_take (i := 19) (v := ?_) rfl (by kernel_rfl) (by kernel_rfl) (by kernel_rfl) (fun _ _ _ h => h) (Or.inl ⟨by rfl, ?_⟩) (by assumption) ?_
          rotate_left
          · intro w hSw
            (try dsimp only at hSw)
            go_simp
            all_goals with_reducible rfl
          try simp only [Act.put, List.getElem_toArray, List.getElem_cons_zero, List.getElem_cons_succ, List.setIfInBounds_toArray, List.set_cons_zero, List.set_cons_succ]
          refine wpAnyH_take (i := 20) (v := ?_) rfl (by kernel_rfl) (by kernel_rfl) (by kernel_rfl) (fun _ _ _ h => h) (Or.inl ⟨by rfl, ?_⟩) (by assumption) ?_
          rotate_left
          · intro w hSw
            (try dsimp only at hSw)
            go_simp
            all_goals with_reducible rfl
          try simp only [Act.put, List.getElem_toArray, List.getElem_cons_zero, List.getElem_cons_succ, List.setIfInBounds_toArray, List.set_cons_zero, List.set_cons_succ]
          refine wpAnyH_take (i := 21) (v := ?_) rfl (by kernel_rfl) (by kernel_rfl) (by kernel_rfl) (fun _ _ _ h => h) (Or.inl ⟨by rfl, ?_⟩) (by assumption) ?_
          rotate_left
          · intro w hSw
            (try dsimp only at hSw)
            go_simp
            all_goals with_reducible rfl
          try simp only [Act.put, List.getElem_toArray, List.getElem_cons_zero, List.getElem_cons_succ, List.setIfInBounds_toArray, List.set_cons_zero, List.set_cons_succ]
          refine wpAnyH_ready (rs := [22]) (by kernel_rfl) (by simp) ?_
          refine AllReadyH.cons rfl (fun K hK => ?_) AllReadyH.nil
          go_simp
          go_at_call 30
          with_reducible refine ((CR2 _ B4).out).mono ?_
          rintro e y2 ⟨rfl, e2⟩
          have B5 := U3.out _ _ B4 e2
          go_wp2_with fail
          refine hK.out _ _ ?_ (fun hH2 => ?_)
          · (try dsimp only)
            exact K3 _ (B5)
          clear hK K hHeld
          have hHeld := hH2
          clear hH2
          try simp only [Act.put, List.getElem_toArray, List.getElem_cons_zero, List.getElem_cons_succ, List.setIfInBounds_toArray, List.set_cons_zero, List.set_cons_succ]
          refine wpAnyH_take (i := 23) (v := ?_) rfl (by kernel_rfl) (by kernel_rfl) (by kernel_rfl) (fun _ _ _ h => h) (Or.inl ⟨by rfl, ?_⟩) (by assumption) ?_
          rotate_left
          · intro w hSw
            (try dsimp only at hSw)
            go_simp
            all_goals with_reducible rfl
          try simp only [Act.put, List.getElem_toArray, List.getElem_cons_zero, List.getElem_cons_succ, List.setIfInBounds_toArray, List.set_cons_zero, List.set_cons_succ]
          refine wpAnyH_take (i := 24) (v := ?_) rfl (by kernel_rfl) (by kernel_rfl) (by kernel_rfl) (fun _ _ _ h => h) (Or.inl ⟨by rfl, ?_⟩) (by assumption) ?_
          rotate_left
          · intro w hSw
            (try dsimp only at hSw)
            go_simp
            all_goals with_reducible rfl
          try simp only [Act.put, List.getElem_toArray, List.getElem_cons_zero, List.getElem_cons_succ, List.setIfInBounds_toArray, List.set_cons_zero, List.set_cons_succ]
          refine wpAnyH_take (i := 25) (v := ?_) rfl (by kernel_rfl) (by kernel_rfl) (by kernel_rfl) (fun _ _ _ h => h) (Or.inl ⟨by rfl, ?_⟩) (by assumption) ?_
          rotate_left
          · intro w hSw
            (try dsimp only at hSw)
            go_simp
            all_goals with_reducible rfl
          try simp only [Act.put, List.getElem_toArray, List.getElem_cons_zero, List.getElem_cons_succ, List.setIfInBounds_toArray, List.set_cons_zero, List.set_cons_succ]
          refine wpAnyH_take (i := 26) (v := ?_) rfl (by kernel_rfl) (by kernel_rfl) (by kernel_rfl) (fun _ _ _ h => h) (Or.inl ⟨by rfl, ?_⟩) (by assumption) ?_
          rotate_left
          · intro w hSw
            (try dsimp only at hSw)
            go_simp
            all_goals with_reducible rfl
          try simp only [Act.put, List.getElem_toArray, List.getElem_cons_zero, List.getElem_cons_succ, List.setIfInBounds_toArray, List.set_cons_zero, List.set_cons_succ]
          refine wpAnyH_take (i := 28) (v := ?_) rfl (by kernel_rfl) (by kernel_rfl) (by kernel_rfl) (fun _ _ _ h => h) (Or.inl ⟨by rfl, ?_⟩) (by assumption) ?_
          rotate_left
          · intro w hSw
            (try dsimp only at hSw)
            go_simp
            all_goals with_reducible rfl
          try simp only [Act.put, List.getElem_toArray, List.getElem_cons_zero, List.getElem_cons_succ, List.setIfInBounds_toArray, List.set_cons_zero, List.set_cons_succ]
          refine wpAnyH_ready (rs := [27]) (by kernel_rfl) (by simp) ?_
          refine AllReadyH.cons rfl (fun K hK => ?_) AllReadyH.nil
          go_simp
          go_at_call 25
          with_reducible refine ((CLm _ B5).out).mono ?_
          rintro e y3 ⟨dn, gn, rfl, vn, sn, e3⟩
          have B6 := U3.out _ _ B5 e3
          have CSc := CSb _ dn gn B6 (val_here vn) sn
          clear vn sn
          go_wp2_with fail
          refine hK.out _ _ ?_ (fun hH2 => ?_)
          · (try dsimp only)
            exact K3 _ (B6)
          clear hK K hHeld
          have hHeld := hH2
          clear hH2
          try simp only [Act.put, List.getElem_toArray, List.getElem_cons_zero, List.getElem_cons_succ, List.setIfInBounds_toArray, List.set_cons_zero, List.set_cons_succ]
          refine wpAnyH_ready (rs := [29]) (by kernel_rfl) (by simp) ?_
          refine AllReadyH.cons rfl (fun K hK => ?_) AllReadyH.nil
          go_simp
          go_at_call 19
          with_reducible refine (CSc.out).mono ?_
          rintro e y4 ⟨rfl, e4⟩
          have B7 := U3.out _ _ B6 e4
          go_wp2_with fail
          refine hK.out _ _ ?_ (fun hH2 => ?_)
          · (try dsimp only)
            exact K3 _ (B7)
          clear hK K hHeld
          have hHeld := hH2
          clear hH2
          try simp only [Act.put, List.getElem_toArray, List.getElem_cons_zero, List.getElem_cons_succ, List.setIfInBounds_toArray, List.set_cons_zero, List.set_cons_succ]
          refine wpAnyH_take (i := 30) (v := ?_) rfl (by kernel_rfl) (by kernel_rfl) (by kernel_rfl) (fun _ _ _ h => h) (Or.inl ⟨by rfl, ?_⟩) (by assumption) ?_
          rotate_left
          · intro w hSw
            (try dsimp only at hSw)
            go_simp
            all_goals with_reducible rfl
          try simp only [Act.put, List.getElem_toArray, List.getElem_cons_zero, List.getElem_cons_succ, List.setIfInBounds_toArray, List.set_cons_zero, List.set_cons_succ]
          refine wpAnyH_take (i := 31) (v := ?_) rfl (by kernel_rfl) (by kernel_rfl) (by kernel_rfl) (fun _ _ _ h => h) (Or.inl ⟨by rfl, ?_⟩) (by assumption) ?_
          rotate_left
          · intro w hSw
            (try dsimp only at hSw)
            go_simp
            all_goals with_reducible rfl
          try simp only [Act.put, List.getElem_toArray, List.getElem_cons_zero, List.getElem_cons_succ, List.setIfInBounds_toArray, List.set_cons_zero, List.set_cons_succ]
          refine wpAnyH_done (by kernel_rfl) ?_ _
          have B8 : Below W.heap.size W y4 := B3.trans (B7.mono B3.size)
          clear r1 r2 r3 r4 r5 r6 t1 t2 t3 t4 t5 t6 q1 q2 q3 q4 q5 q6
          have pp := KT _ B8
          obtain ⟨_, r1, r2, r3, r4, r5, r6, t1, t2, t3, t4, t5, t6⟩ := pp
          go_wp2_with (go_at_call 27; refine (cons_any d1 f1 d2 f2 _ (HV1.out _ B8) (HV2.out _ B8) (by omega) (by omega)).mono ?_; rintro e y5 ⟨dz, fz, rfl, vz, sz, e5⟩; refine Hid.out ?_)
          refine Lib.hid ?_
          have B9 := UP.out _ _ B8 e5
          have hcz : fz.cnt ≤ 180000 := by
            have h := sz
            simp only [sameD, Bool.and_eq_true] at h
            have h2 := sameF_cnt _ _ h.2
            simp only [two, F.cnt] at h2
            omega
          have HZ2 := Lib.hid ((items_any dz fz y5 (val_here vz) hcz).mono fun e w' h => items_ok (L := L) (by rw [endK_pair sz]; exact HL.out) h)
          clear sz vz hcz
          go_wp2_with (go_at_call 28; refine (HZ2.out).mono ?_; rintro e y6 ⟨A6, n6, c6, rfl, e6⟩; refine Hid.out ?_)
          refine Lib.hid ?_
          have B10 := UP.out _ _ B9 e6
          clear r1 r2 r3 r4 r5 r6 t1 t2 t3 t4 t5 t6
          have pp := KT _ B10
          obtain ⟨_, r1, r2, r3, r4, r5, r6, t1, t2, t3, t4, t5, t6⟩ := pp
          have HE2 := Lib.hid ((items_any d2 f2 y6 (HV2.out _ B10) (by omega)).mono fun e w' h => items_ok HL.out h)
          have hLL : (L == L) = true := by simp
          go_wp2_with (first
            | (go_at_call 28; refine (HE2.out).mono ?_; rintro e y7 ⟨A7, n7, c7, rfl, e7⟩)
            | (go_at_call 10; refine (awake_any _ (HT.out _ (UP.out _ _ B10 e7))).mono ?_; rintro e y8 ⟨rfl, e8⟩))
          go_ret
          exact ⟨rfl, HBW.out.trans ((UP.out _ _ (UP.out _ _ B10 e7) e8).mono HBW.out.size)⟩
        · have CR2 : ∀ V', Below w3.heap.size w3 V' → Hid (Calls Tryd.prog 30 #[.slice (some ⟨bm, om + 6, none⟩) (n - 1) (cm - 1), .slice A fl.len c] V' fun e w' => e = .returned (.bool true) ∧ Below V'.heap.size V' w') := fun V' hb => CRl V' _ _ _ HN1 hb (Lib.hid (fun h => rfl))
          clear CRl
          go_wp2_with fail
          refine wp_region_held_drew (S := fun V' => Below w3.heap.size w3 V' ∧ V'.cell? ⟨w.heap.size, 0, none⟩ = some (.int .i64 d1.k) ∧ V'.cell? ⟨w.heap.size, 1, none⟩ = some (.int .i32 d1.c) ∧ V'.cell? ⟨w.heap.size, 2, none⟩ = some (.bool d1.neg) ∧ V'.cell? ⟨w.heap.size, 3, none⟩ = some (.slice d1.mA d1.mag.length d1.mcap) ∧ V'.cell? ⟨w.heap.size, 4, none⟩ = some (.string d1.t) ∧ V'.cell? ⟨w.heap.size, 5, none⟩ = some (.slice d1.lA f1.len d1.lcap) ∧ V'.cell? ⟨bx, 0, none⟩ = some (.int .i64 dx.k) ∧ V'.cell? ⟨bx, 1, none⟩ = some (.int .i32 dx.c) ∧ V'.cell? ⟨bx, 2, none⟩ = some (.bool dx.neg) ∧ V'.cell? ⟨bx, 3, none⟩ = some (.slice dx.mA dx.mag.length dx.mcap) ∧ V'.cell? ⟨bx, 4, none⟩ = some (.string dx.t) ∧ V'.cell? ⟨bx, 5, none⟩ = some (.slice dx.lA fx.len dx.lcap) ∧ V'.cell? ⟨bm, om, none⟩ = some (.int .i64 dm.k) ∧ V'.cell? ⟨bm, om + 1, none⟩ = some (.int .i32 dm.c) ∧ V'.cell? ⟨bm, om + 2, none⟩ = some (.bool dm.neg) ∧ V'.cell? ⟨bm, om + 3, none⟩ = some (.slice dm.mA dm.mag.length dm.mcap) ∧ V'.cell? ⟨bm, om + 4, none⟩ = some (.string dm.t) ∧ V'.cell? ⟨bm, om + 5, none⟩ = some (.slice dm.lA km.len dm.lcap)) (by kernel_rfl) ?_ (fun hHeld => ?_)
          · (try dsimp only)
            exact K3 _ BR3
          refine wpAnyH_take (i := 0) (v := ?_) rfl (by kernel_rfl) (by kernel_rfl) (by kernel_rfl) (fun _ _ _ h => h) (Or.inl ⟨by rfl, ?_⟩) (by assumption) ?_
          rotate_left
          · intro w hSw
            (try dsimp only at hSw)
            go_simp
            all_goals with_reducible rfl
          try simp only [Act.put, List.getElem_toArray, List.getElem_cons_zero, List.getElem_cons_succ, List.setIfInBounds_toArray, List.set_cons_zero, List.set_cons_succ]
          refine wpAnyH_take (i := 1) (v := ?_) rfl (by kernel_rfl) (by kernel_rfl) (by kernel_rfl) (fun _ _ _ h => h) (Or.inl ⟨by rfl, ?_⟩) (by assumption) ?_
          rotate_left
          · intro w hSw
            (try dsimp only at hSw)
            go_simp
            all_goals with_reducible rfl
          try simp only [Act.put, List.getElem_toArray, List.getElem_cons_zero, List.getElem_cons_succ, List.setIfInBounds_toArray, List.set_cons_zero, List.set_cons_succ]
          refine wpAnyH_take (i := 2) (v := ?_) rfl (by kernel_rfl) (by kernel_rfl) (by kernel_rfl) (fun _ _ _ h => h) (Or.inl ⟨by rfl, ?_⟩) (by assumption) ?_
          rotate_left
          · intro w hSw
            (try dsimp only at hSw)
            go_simp
            all_goals with_reducible rfl
          try simp only [Act.put, List.getElem_toArray, List.getElem_cons_zero, List.getElem_cons_succ, List.setIfInBounds_toArray, List.set_cons_zero, List.set_cons_succ]
          refine wpAnyH_take (i := 3) (v := ?_) rfl (by kernel_rfl) (by kernel_rfl) (by kernel_rfl) (fun _ _ _ h => h) (Or.inl ⟨by rfl, ?_⟩) (by assumption) ?_
          rotate_left
          · intro w hSw
            (try dsimp only at hSw)
            go_simp
            all_goals with_reducible rfl
          try simp only [Act.put, List.getElem_toArray, List.getElem_cons_zero, List.getElem_cons_succ, List.setIfInBounds_toArray, List.set_cons_zero, List.set_cons_succ]
          refine wpAnyH_take (i := 4) (v := ?_) rfl (by kernel_rfl) (by kernel_rfl) (by kernel_rfl) (fun _ _ _ h => h) (Or.inl ⟨by rfl, ?_⟩) (by assumption) ?_
          rotate_left
          · intro w hSw
            (try dsimp only at hSw)
            go_simp
            all_goals with_reducible rfl
          try simp only [Act.put, List.getElem_toArray, List.getElem_cons_zero, List.getElem_cons_succ, List.setIfInBounds_toArray, List.set_cons_zero, List.set_cons_succ]
          refine wpAnyH_take (i := 5) (v := ?_) rfl (by kernel_rfl) (by kernel_rfl) (by kernel_rfl) (fun _ _ _ h => h) (Or.inl ⟨by rfl, ?_⟩) (by assumption) ?_
          rotate_left
          · intro w hSw
            (try dsimp only at hSw)
            go_simp
            all_goals with_reducible rfl
          try simp only [Act.put, List.getElem_toArray, List.getElem_cons_zero, List.getElem_cons_succ, List.setIfInBounds_toArray, List.set_cons_zero, List.set_cons_succ]
          refine wpAnyH_take (i := 6) (v := ?_) rfl (by kernel_rfl) (by kernel_rfl) (by kernel_rfl) (fun _ _ _ h => h) (Or.inl ⟨by rfl, ?_⟩) (by assumption) ?_
          rotate_left
          · intro w hSw
            (try dsimp only at hSw)
            go_simp
            all_goals with_reducible rfl
          try simp only [Act.put, List.getElem_toArray, List.getElem_cons_zero, List.getElem_cons_succ, List.setIfInBounds_toArray, List.set_cons_zero, List.set_cons_succ]
          refine wpAnyH_take (i := 7) (v := ?_) rfl (by kernel_rfl) (by kernel_rfl) (by kernel_rfl) (fun _ _ _ h => h) (Or.inl ⟨by rfl, ?_⟩) (by assumption) ?_
          rotate_left
          · intro w hSw
            (try dsimp only at hSw)
            go_simp
            all_goals with_reducible rfl
          try simp only [Act.put, List.getElem_toArray, List.getElem_cons_zero, List.getElem_cons_succ, List.setIfInBounds_toArray, List.set_cons_zero, List.set_cons_succ]
          refine wpAnyH_take (i := 8) (v := ?_) rfl (by kernel_rfl) (by kernel_rfl) (by kernel_rfl) (fun _ _ _ h => h) (Or.inl ⟨by rfl, ?_⟩) (by assumption) ?_
          rotate_left
          · intro w hSw
            (try dsimp only at hSw)
            go_simp
            all_goals with_reducible rfl
          try simp only [Act.put, List.getElem_toArray, List.getElem_cons_zero, List.getElem_cons_succ, List.setIfInBounds_toArray, List.set_cons_zero, List.set_cons_succ]
          refine wpAnyH_take (i := 9) (v := ?_) rfl (by kernel_rfl) (by kernel_rfl) (by kernel_rfl) (fun _ _ _ h => h) (Or.inl ⟨by rfl, ?_⟩) (by assumption) ?_
          rotate_left
          · intro w hSw
            (try dsimp only at hSw)
            go_simp
            all_goals with_reducible rfl
          try simp only [Act.put, List.getElem_toArray, List.getElem_cons_zero, List.getElem_cons_succ, List.setIfInBounds_toArray, List.set_cons_zero, List.set_cons_succ]
          refine wpAnyH_take (i := 10) (v := ?_) rfl (by kernel_rfl) (by kernel_rfl) (by kernel_rfl) (fun _ _ _ h => h) (Or.inl ⟨by rfl, ?_⟩) (by assumption) ?_
          rotate_left
          · intro w hSw
            (try dsimp only at hSw)
            go_simp
            all_goals with_reducible rfl
          try simp only [Act.put, List.getElem_toArray, List.getElem_cons_zero, List.getElem_cons_succ, List.setIfInBounds_toArray, List.set_cons_zero, List.set_cons_succ]
          refine wpAnyH_take (i := 11) (v := ?_) rfl (by kernel_rfl) (by kernel_rfl) (by kernel_rfl) (fun _ _ _ h => h) (Or.inl ⟨by rfl, ?_⟩) (by assumption) ?_
          rotate_left
          · intro w hSw
            (try dsimp only at hSw)
            go_simp
            all_goals with_reducible rfl
          try simp only [Act.put, List.getElem_toArray, List.getElem_cons_zero, List.getElem_cons_succ, List.setIfInBounds_toArray, List.set_cons_zero, List.set_cons_succ]
          refine wpAnyH_take (i := 12) (v := ?_) rfl (by kernel_rfl) (by kernel_rfl) (by kernel_rfl) (fun _ _ _ h => h) (Or.inl ⟨by rfl, ?_⟩) (by assumption) ?_
          rotate_left
          · intro w hSw
            (try dsimp only at hSw)
            go_simp
            all_goals with_reducible rfl
          try simp only [Act.put, List.getElem_toArray, List.getElem_cons_zero, List.getElem_cons_succ, List.setIfInBounds_toArray, List.set_cons_zero, List.set_cons_succ]
          refine wpAnyH_take (i := 13) (v := ?_) rfl (by kernel_rfl) (by kernel_rfl) (by kernel_rfl) (fun _ _ _ h => h) (Or.inl ⟨by rfl, ?_⟩) (by assumption) ?_
          rotate_left
          · intro w hSw
            (try dsimp only at hSw)
            go_simp
            all_goals with_reducible rfl
          try simp only [Act.put, List.getElem_toArray, List.getElem_cons_zero, List.getElem_cons_succ, List.setIfInBounds_toArray, List.set_cons_zero, List.set_cons_succ]
          refine wpAnyH_take (i := 14) (v := ?_) rfl (by kernel_rfl) (by kernel_rfl) (by kernel_rfl) (fun _ _ _ h => h) (Or.inl ⟨by rfl, ?_⟩) (by assumption) ?_
          rotate_left
          · intro w hSw
            (try dsimp only at hSw)
            go_simp
            all_goals with_reducible rfl
          try simp only [Act.put, List.getElem_toArray, List.getElem_cons_zero, List.getElem_cons_succ, List.setIfInBounds_toArray, List.set_cons_zero, List.set_cons_succ]
          refine wpAnyH_ready (rs := [15]) (by kernel_rfl) (by simp) ?_
          refine AllReadyH.cons rfl (fun K hK => ?_) AllReadyH.nil
          go_simp
          go_at_call 19
          with_reducible refine ((CSa _ BR3).out).mono ?_
          rintro e y1 ⟨rfl, e1⟩
          have B4 := U3.out _ _ BR3 e1
          go_wp2_with fail
          refine hK.out _ _ ?_ (fun hH2 => ?_)
          · (try dsimp only)
            exact K3 _ (B4)
          clear hK K hHeld
          have hHeld := hH2
          clear hH2
          try simp only [Act.put, List.getElem_toArray, List.getElem_cons_zero, List.getElem_cons_succ, List.setIfInBounds_toArray, List.set_cons_zero, List.set_cons_succ]
          refine wpAnyH_take (i := 16) (v := ?_) rfl (by kernel_rfl) (by kernel_rfl) (by kernel_rfl) (fun _ _ _ h => h) (Or.inl ⟨by rfl, ?_⟩) (by assumption) ?_
          rotate_left
          · intro w hSw
            (try dsimp only at hSw)
            go_simp
            all_goals with_reducible rfl
          try simp only [Act.put, List.getElem_toArray, List.getElem_cons_zero, List.getElem_cons_succ, List.setIfInBounds_toArray, List.set_cons_zero, List.set_cons_succ]
          refine wpAnyH_take (i := 17) (v := ?_) rfl (by kernel_rfl) (by kernel_rfl) (by kernel_rfl) (fun _ _ _ h => h) (Or.inl ⟨by rfl, ?_⟩) (by assumption) ?_
          rotate_left
          · intro w hSw
            (try dsimp only at hSw)
            go_simp
            all_goals with_reducible rfl
          try simp only [Act.put, List.getElem_toArray, List.getElem_cons_zero, List.getElem_cons_succ, List.setIfInBounds_toArray, List.set_cons_zero, List.set_cons_succ]
          refine wpAnyH_take (i := 18) (v := ?_) rfl (by kernel_rfl) (by kernel_rfl) (by kernel_rfl) (fun _ _ _ h => h) (Or.inl ⟨by rfl, ?_⟩) (by assumption) ?_
          rotate_left
          · intro w hSw
            (try dsimp only at hSw)
            go_simp
            all_goals with_reducible rfl
          try simp only [Act.put, List.getElem_toArray, List.getElem_cons_zero, List.getElem_cons_succ, List.setIfInBounds_toArray, List.set_cons_zero, List.set_cons_succ]
          refine wpAnyH_take (i := 19) (v := ?_) rfl (by kernel_rfl) (by kernel_rfl) (by kernel_rfl) (fun _ _ _ h => h) (Or.inl ⟨by rfl, ?_⟩) (by assumption) ?_
          rotate_left
          · intro w hSw
            (try dsimp only at hSw)
            go_simp
            all_goals with_reducible rfl
          try simp only [Act.put, List.getElem_toArray, List.getElem_cons_zero, List.getElem_cons_succ, List.setIfInBounds_toArray, List.set_cons_zero, List.set_cons_succ]
          refine wpAnyH_take (i := 20) (v := ?_) rfl (by kernel_rfl) (by kernel_rfl) (by kernel_rfl) (fun _ _ _ h => h) (Or.inl ⟨by rfl, ?_⟩) (by assumption) ?_
          rotate_left
          · intro w hSw
            (try dsimp only at hSw)
            go_simp
            all_goals with_reducible rfl
          try simp only [Act.put, List.getElem_toArray, List.getElem_cons_zero, List.getElem_cons_succ, List.setIfInBounds_toArray, List.set_cons_zero, List.set_cons_succ]
          refine wpAnyH_take (i := 21) (v := ?_) rfl (by kernel_rfl) (by kernel_rfl) (by kernel_rfl) (fun _ _ _ h => h) (Or.inl ⟨by rfl, ?_⟩) (by assumption) ?_
          rotate_left
          · intro w hSw
            (try dsimp only at hSw)
            go_simp
            all_goals with_reducible rfl
          try simp only [Act.put, List.getElem_toArray, List.getElem_cons_zero, List.getElem_cons_succ, List.setIfInBounds_toArray, List.set_cons_zero, List.set_cons_succ]
          refine wpAnyH_ready (rs := [22]) (by kernel_rfl) (by simp) ?_
          refine AllReadyH.cons rfl (fun K hK => ?_) AllReadyH.nil
          go_simp
          go_at_call 30
          with_reducible refine ((CR2 _ B4).out).mono ?_
          rintro e y2 ⟨rfl, e2⟩
          have B5 := U3.out _ _ B4 e2
          go_wp2_with fail
          refine hK.out _ _ ?_ (fun hH2 => ?_)
          · (try dsimp only)
            exact K3 _ (B5)
          clear hK K hHeld
          have hHeld := hH2
          clear hH2
          try simp only [Act.put, List.getElem_toArray, List.getElem_cons_zero, List.getElem_cons_succ, List.setIfInBounds_toArray, List.set_cons_zero, List.set_cons_succ]
          refine wpAnyH_take (i := 23) (v := ?_) rfl (by kernel_rfl) (by kernel_rfl) (by kernel_rfl) (fun _ _ _ h => h) (Or.inl ⟨by rfl, ?_⟩) (by assumption) ?_
          rotate_left
          · intro w hSw
            (try dsimp only at hSw)
            go_simp
            all_goals with_reducible rfl
          try simp only [Act.put, List.getElem_toArray, List.getElem_cons_zero, List.getElem_cons_succ, List.setIfInBounds_toArray, List.set_cons_zero, List.set_cons_succ]
          refine wpAnyH_take (i := 24) (v := ?_) rfl (by kernel_rfl) (by kernel_rfl) (by kernel_rfl) (fun _ _ _ h => h) (Or.inl ⟨by rfl, ?_⟩) (by assumption) ?_
          rotate_left
          · intro w hSw
            (try dsimp only at hSw)
            go_simp
            all_goals with_reducible rfl
          try simp only [Act.put, List.getElem_toArray, List.getElem_cons_zero, List.getElem_cons_succ, List.setIfInBounds_toArray, List.set_cons_zero, List.set_cons_succ]
          refine wpAnyH_take (i := 25) (v := ?_) rfl (by kernel_rfl) (by kernel_rfl) (by kernel_rfl) (fun _ _ _ h => h) (Or.inl ⟨by rfl, ?_⟩) (by assumption) ?_
          rotate_left
          · intro w hSw
            (try dsimp only at hSw)
            go_simp
            all_goals with_reducible rfl
          try simp only [Act.put, List.getElem_toArray, List.getElem_cons_zero, List.getElem_cons_succ, List.setIfInBounds_toArray, List.set_cons_zero, List.set_cons_succ]
          refine wpAnyH_take (i := 26) (v := ?_) rfl (by kernel_rfl) (by kernel_rfl) (by kernel_rfl) (fun _ _ _ h => h) (Or.inl ⟨by rfl, ?_⟩) (by assumption) ?_
          rotate_left
          · intro w hSw
            (try dsimp only at hSw)
            go_simp
            all_goals with_reducible rfl
          try simp only [Act.put, List.getElem_toArray, List.getElem_cons_zero, List.getElem_cons_succ, List.setIfInBounds_toArray, List.set_cons_zero, List.set_cons_succ]
          refine wpAnyH_take (i := 28) (v := ?_) rfl (by kernel_rfl) (by kernel_rfl) (by kernel_rfl) (fun _ _ _ h => h) (Or.inl ⟨by rfl, ?_⟩) (by assumption) ?_
          rotate_left
          · intro w hSw
            (try dsimp only at hSw)
            go_simp
            all_goals with_reducible rfl
          try simp only [Act.put, List.getElem_toArray, List.getElem_cons_zero, List.getElem_cons_succ, List.setIfInBounds_toArray, List.set_cons_zero, List.set_cons_succ]
          refine wpAnyH_ready (rs := [27]) (by kernel_rfl) (by simp) ?_
          refine AllReadyH.cons rfl (fun K hK => ?_) AllReadyH.nil
          go_simp
          go_at_call 25
          with_reducible refine ((CLm _ B5).out).mono ?_
          rintro e y3 ⟨dn, gn, rfl, vn, sn, e3⟩
          have B6 := U3.out _ _ B5 e3
          have CSc := CSb _ dn gn B6 (val_here vn) sn
          clear vn sn
          go_wp2_with fail
          refine hK.out _ _ ?_ (fun hH2 => ?_)
          · (try dsimp only)
            exact K3 _ (B6)
          clear hK K hHeld
          have hHeld := hH2
          clear hH2
          try simp only [Act.put, List.getElem_toArray, List.getElem_cons_zero, List.getElem_cons_succ, List.setIfInBounds_toArray, List.set_cons_zero, List.set_cons_succ]
          refine wpAnyH_ready (rs := [29]) (by kernel_rfl) (by simp) ?_
          refine AllReadyH.cons rfl (fun K hK => ?_) AllReadyH.nil
          go_simp
          go_at_call 19
          with_reducible refine (CSc.out).mono ?_
          rintro e y4 ⟨rfl, e4⟩
          have B7 := U3.out _ _ B6 e4
          go_wp2_with fail
          refine hK.out _ _ ?_ (fun hH2 => ?_)
          · (try dsimp only)
            exact K3 _ (B7)
          clear hK K hHeld
          have hHeld := hH2
          clear hH2
          try simp only [Act.put, List.getElem_toArray, List.getElem_cons_zero, List.getElem_cons_succ, List.setIfInBounds_toArray, List.set_cons_zero, List.set_cons_succ]
          refine wpAnyH_take (i := 30) (v := ?_) rfl (by kernel_rfl) (by kernel_rfl) (by kernel_rfl) (fun _ _ _ h => h) (Or.inl ⟨by rfl, ?_⟩) (by assumption) ?_
          rotate_left
          · intro w hSw
            (try dsimp only at hSw)
            go_simp
            all_goals with_reducible rfl
          try simp only [Act.put, List.getElem_toArray, List.getElem_cons_zero, List.getElem_cons_succ, List.setIfInBounds_toArray, List.set_cons_zero, List.set_cons_succ]
          refine wpAnyH_take (i := 31) (v := ?_) rfl (by kernel_rfl) (by kernel_rfl) (by kernel_rfl) (fun _ _ _ h => h) (Or.inl ⟨by rfl, ?_⟩) (by assumption) ?_
          rotate_left
          · intro w hSw
            (try dsimp only at hSw)
            go_simp
            all_goals with_reducible rfl
          try simp only [Act.put, List.getElem_toArray, List.getElem_cons_zero, List.getElem_cons_succ, List.setIfInBounds_toArray, List.set_cons_zero, List.set_cons_succ]
          refine wpAnyH_done (by kernel_rfl) ?_ _
          have B8 : Below W.heap.size W y4 := B3.trans (B7.mono B3.size)
          clear r1 r2 r3 r4 r5 r6 t1 t2 t3 t4 t5 t6 q1 q2 q3 q4 q5 q6
          have pp := KT _ B8
          obtain ⟨_, r1, r2, r3, r4, r5, r6, t1, t2, t3, t4, t5, t6⟩ := pp
          go_wp2_with (go_at_call 27; refine (cons_any d1 f1 d2 f2 _ (HV1.out _ B8) (HV2.out _ B8) (by omega) (by omega)).mono ?_; rintro e y5 ⟨dz, fz, rfl, vz, sz, e5⟩; refine Hid.out ?_)
          refine Lib.hid ?_
          have B9 := UP.out _ _ B8 e5
          have hcz : fz.cnt ≤ 180000 := by
            have h := sz
            simp only [sameD, Bool.and_eq_true] at h
            have h2 := sameF_cnt _ _ h.2
            simp only [two, F.cnt] at h2
            omega
          have HZ2 := Lib.hid ((items_any dz fz y5 (val_here vz) hcz).mono fun e w' h => items_ok (L := L) (by rw [endK_pair sz]; exact HL.out) h)
          clear sz vz hcz
          go_wp2_with (go_at_call 28; refine (HZ2.out).mono ?_; rintro e y6 ⟨A6, n6, c6, rfl, e6⟩; refine Hid.out ?_)
          refine Lib.hid ?_
          have B10 := UP.out _ _ B9 e6
          clear r1 r2 r3 r4 r5 r6 t1 t2 t3 t4 t5 t6
          have pp := KT _ B10
          obtain ⟨_, r1, r2, r3, r4, r5, r6, t1, t2, t3, t4, t5, t6⟩ := pp
          have HE2 := Lib.hid ((items_any d2 f2 y6 (HV2.out _ B10) (by omega)).mono fun e w' h => items_ok HL.out h)
          have hLL : (L == L) = true := by simp
          go_wp2_with (first
            | (go_at_call 28; refine (HE2.out).mono ?_; rintro e y7 ⟨A7, n7, c7, rfl, e7⟩)
            | (go_at_call 10; refine (awake_any _ (HT.out _ (UP.out _ _ B10 e7))).mono ?_; rintro e y8 ⟨rfl, e8⟩))
          go_ret
          exact ⟨rfl, HBW.out.trans ((UP.out _ _ (UP.out _ _ B10 e7) e8).mono HBW.out.size)⟩
end Go.Proofs.YtkffojipgphneaaDoor
