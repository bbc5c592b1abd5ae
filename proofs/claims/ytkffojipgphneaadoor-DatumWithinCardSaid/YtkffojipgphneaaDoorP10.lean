/- DatumWithin: where the datum is light. -/
import Derived.Test.YtkffojipgphneaaDoorP9
import Derived.Deep.RegionHeld3
set_option linter.unusedVariables false
set_option linter.unusedSimpArgs false
namespace Go.Proofs.YtkffojipgphneaaDoor
open Go Go.RowKit
set_option maxRecDepth 100000 in
set_option maxHeartbeats 4000000 in
theorem within_dark (d : D) (f : F) (w : World) (hv : Val (fun k => k < w.heap.size) w d f) (hT : Lib.Utf8Tabs 0 1 w) (hh : heavyB d f = false) (hm : mayD d f = false) :
    Calls Tryd.prog 8 #[.agg #[.int .i64 d.k, .int .i32 d.c, .bool d.neg, .slice d.mA d.mag.length d.mcap, .string d.t, .slice d.lA f.len d.lcap]] w fun e w' => e = .returned (.bool true) ∧ Below w.heap.size w w' := by
  obtain ⟨W, hW⟩ : ∃ W, W = w.alloc (six d f.len) := ⟨_, rfl⟩
  have hbW : Below w.heap.size w W := by rw [hW]; exact (Below.refl _ _).alloc (Nat.le_refl _) _
  have hx0 : W.heap[w.heap.size]? = some (six d f.len) := by rw [hW]; exact heap_alloc_new _ _
  have hltW : w.heap.size < W.heap.size := by rw [hW]; simp
  have hcn := (light_cnt hh).1
  have HC := Lib.hid (heavy_any d f W (hv.below hbW))
  rw [hh] at HC
  have HT := Utf8Tabs_below hT hbW
  have HW := Lib.hid hW
  have hvW := hv.below hbW
  have hlen : f.len ≤ 2999 := by have := F.len_le_cnt f; omega
  have hkd : 0 < f.len → d.lA = some ⟨d.kb, d.ko, none⟩ := hv.ok.kids
  have HK := Lib.hid hkd
  clear hW hv hT hkd
  go_enter Tryd.func8, Tryd.ntmps8
  go_wp2_with (first
    | (go_at_call 9; rw [show w.alloc (.cells #[.int .i64 d.k, .int .i32 d.c, .bool d.neg, .slice d.mA d.mag.length d.mcap, .string d.t, .slice d.lA f.len d.lcap] 27) = W from HW.out.symm]; refine (HC.out).mono ?_; rintro e w1 ⟨rfl, b1⟩))
  go_loopw [3, 4] (fun n i wr => ∃ j : Nat, j ≤ f.len ∧ i = .int .i64 (j : Nat) ∧ n = .int .i64 ((1 + cntTo f j : Nat)) ∧ Hid (Below W.heap.size W wr)) (fun _ i _ => f.len - (intOf i).toNat)
  case atStart => exact ⟨0, Nat.zero_le _, rfl, by rw [cntTo_zero]; rfl, Lib.hid b1⟩
  case round =>
    obtain ⟨j, hj, rfl, rfl, hB⟩ := hrel
    obtain ⟨V, hV⟩ : ∃ V, V = wr := ⟨_, rfl⟩
    rw [← hV] at hB ⊢
    clear hV
    have hxV : V.heap[w.heap.size]? = some (six d f.len) := (hB.out.block _ hltW).trans hx0
    have nd := Node.of_six hxV
    have lc := nd.l
    simp only [Nat.zero_add] at lc
    have vV := hvW.below hB.out
    have hcl : cntTo f j ≤ 2999 := by unfold cntTo; omega
    by_cases hlt : j < f.len
    · have hA := HK.out (by omega)
      rw [hA] at lc
      have HA := Lib.hid hA
      clear hA
      have it := AtF.nth vV.kids 0 j hlt
      have ⟨i1, i2, i3, i4, i5, i6⟩ := it.node
      simp only [] at i1 i2 i3 i4 i5 i6
      have vi := it.val
      have hnx := cntTo_succ f j hlt
      have hle := F.cnt_drop_le f (j + 1)
      have hn1 : cntTo f (j + 1) ≤ 2999 := by unfold cntTo; omega
      have hcx := F.nth_cnt f j hlt
      have hdp := dpD_nth (d := d) hlt
      have hns := not_same_nth (d := d) hlt
      have ⟨n1, n2, n3, n4, n5, n6⟩ := nd
      simp only [Nat.zero_add] at n1 n2 n3 n4 n5 n6
      simp only [] at vi
      have hb0 : ((f.nthK j).cnt : Int) ≤ 2999 := by omega
      have hb1 : (cntTo f j : Int) ≤ 2999 := by omega
      obtain ⟨X, hX⟩ : ∃ X, X = V.alloc (six (f.nthD j) (f.nthK j).len) := ⟨_, rfl⟩
      have xX : X.heap[V.heap.size]? = some (six (f.nthD j) (f.nthK j).len) := by rw [hX]; exact heap_alloc_new _ _
      have bX : Below V.heap.size V X := by rw [hX]; exact (Below.refl _ _).alloc (Nat.le_refl _) _
      have zX : V.heap.size < X.heap.size := by rw [hX]; simp
      have vdX := vV.below bX
      have vxX := vi.below bX
      have xdX : X.heap[w.heap.size]? = some (six d f.len) := (bX.block _ (Array.getElem?_eq_some_iff.1 hxV).1).trans hxV
      have HX := Lib.hid hX
      clear hX it nd vV vi xX
      have xX : X.heap[V.heap.size]? = some (six (f.nthD j) (f.nthK j).len) := by rw [HX.out]; exact heap_alloc_new _ _
      generalize f.nthD j = x at *
      generalize f.nthK j = kx at *
      go_wp2_with (go_at_call 16; rw [show V.alloc (.cells #[.int .i64 x.k, .int .i32 x.c, .bool x.neg, .slice x.mA x.mag.length x.mcap, .string x.t, .slice x.lA kx.len x.lcap] 27) = X from HX.out.symm]; refine (count_any x kx X vxX (by omega)).mono ?_; rintro e w2 ⟨rfl, b2⟩; refine Hid.out ?_)
      refine Lib.hid ?_
      have KT : ∀ V', Below X.heap.size X V' → (Below X.heap.size X V' ∧ V'.cell? ⟨w.heap.size, 0, none⟩ = some (.int .i64 d.k) ∧ V'.cell? ⟨w.heap.size, 1, none⟩ = some (.int .i32 d.c) ∧ V'.cell? ⟨w.heap.size, 2, none⟩ = some (.bool d.neg) ∧ V'.cell? ⟨w.heap.size, 3, none⟩ = some (.slice d.mA d.mag.length d.mcap) ∧ V'.cell? ⟨w.heap.size, 4, none⟩ = some (.string d.t) ∧ V'.cell? ⟨w.heap.size, 5, none⟩ = some (.slice (some ⟨d.kb, d.ko, none⟩) f.len d.lcap) ∧ V'.cell? ⟨V.heap.size, 0, none⟩ = some (.int .i64 x.k) ∧ V'.cell? ⟨V.heap.size, 1, none⟩ = some (.int .i32 x.c) ∧ V'.cell? ⟨V.heap.size, 2, none⟩ = some (.bool x.neg) ∧ V'.cell? ⟨V.heap.size, 3, none⟩ = some (.slice x.mA x.mag.length x.mcap) ∧ V'.cell? ⟨V.heap.size, 4, none⟩ = some (.string x.t) ∧ V'.cell? ⟨V.heap.size, 5, none⟩ = some (.slice x.lA kx.len x.lcap)) := fun V' hb => by
        have e1 := Node.of_six ((hb.block _ (Array.getElem?_eq_some_iff.1 xdX).1).trans xdX)
        have e2 := Node.of_six ((hb.block _ zX).trans xX)
        exact ⟨hb, e1.k, e1.c, e1.neg, e1.mag, e1.t, by have e5 := e1.l; rw [HA.out] at e5; exact e5, e2.k, e2.c, e2.neg, e2.mag, e2.t, e2.l⟩
      have HTX := Lib.hid (fun V' (hb : Below X.heap.size X V') => Utf8Tabs_below (Utf8Tabs_below (Utf8Tabs_below HT hB.out) bX) hb)
      have UP := Lib.hid (fun (V1 V2 : World) (h : Below X.heap.size X V1) (k : Below V1.heap.size V1 V2) => (h.trans (k.mono h.size) : Below X.heap.size X V2))
      have CMd : ∀ V', Below X.heap.size X V' → Hid (Calls Tryd.prog 12 #[.agg #[.int .i64 d.k, .int .i32 d.c, .bool d.neg, .slice d.mA d.mag.length d.mcap, .string d.t, .slice d.lA f.len d.lcap]] V' fun e w' => e = .returned (.bool false) ∧ Below V'.heap.size V' w') := fun V' hb => Lib.hid (by
        have := may_d d f V' (vdX.below hb) (HTX.out _ hb) (by omega)
        rw [hm] at this
        exact this)
      obtain ⟨p, hp⟩ : ∃ p, p = dpD x kx := ⟨_, rfl⟩
      obtain ⟨q, hq⟩ : ∃ q, q = dpD d f := ⟨_, rfl⟩
      have CDd : ∀ V', Below X.heap.size X V' → Hid (Calls Tryd.prog 14 #[.agg #[.int .i64 d.k, .int .i32 d.c, .bool d.neg, .slice d.mA d.mag.length d.mcap, .string d.t, .slice d.lA f.len d.lcap]] V' fun e w' => e = .returned (.int .i64 q) ∧ Below V'.heap.size V' w') := fun V' hb => Lib.hid (by
        rw [hq]
        exact depth_d d f V' (vdX.below hb) (by omega))
      have CDx : ∀ V', Below X.heap.size X V' → Hid (Calls Tryd.prog 14 #[.agg #[.int .i64 x.k, .int .i32 x.c, .bool x.neg, .slice x.mA x.mag.length x.mcap, .string x.t, .slice x.lA kx.len x.lcap]] V' fun e w' => e = .returned (.int .i64 p) ∧ Below V'.heap.size V' w') := fun V' hb => Lib.hid (by
        rw [hp]
        exact depth_d x kx V' (vxX.below hb) (by omega))
      have CS : ∀ V', Below X.heap.size X V' → Hid (Calls Tryd.prog 19 #[.agg #[.int .i64 x.k, .int .i32 x.c, .bool x.neg, .slice x.mA x.mag.length x.mcap, .string x.t, .slice x.lA kx.len x.lcap], .agg #[.int .i64 d.k, .int .i32 d.c, .bool d.neg, .slice d.mA d.mag.length d.mcap, .string d.t, .slice d.lA f.len d.lcap]] V' fun e w' => e = .returned (.bool false) ∧ Below V'.heap.size V' w') := fun V' hb => Lib.hid (same_any x kx d f V' (vxX.below hb) (vdX.below hb) (by omega) false (Lib.hid hns))
      rw [HA.out] at CMd CDd CS
      have hpq : p ≤ q := by rw [hp, hq]; exact hdp
      have hgt : decide (q < p) = false := decide_eq_false (by omega)
      have hgt2 : (q < p) = False := eq_false (by omega)
      have HHN := Lib.hid hnx
      have HHT := Lib.hid hn1
      have pp := KT w2 b2
      obtain ⟨_, r1, r2, r3, r4, r5, r6, t1, t2, t3, t4, t5, t6⟩ := pp
      have BRd : Below X.heap.size X w2.drew := b2.drew
      have HBX := Lib.hid bX
      clear hdp hns hp hq vdX vxX xdX xX hcn hnx hle hcx bX
      go_wp2_with fail
      refine wp_region_held_drew (S := fun V' => Below X.heap.size X V' ∧ V'.cell? ⟨w.heap.size, 0, none⟩ = some (.int .i64 d.k) ∧ V'.cell? ⟨w.heap.size, 1, none⟩ = some (.int .i32 d.c) ∧ V'.cell? ⟨w.heap.size, 2, none⟩ = some (.bool d.neg) ∧ V'.cell? ⟨w.heap.size, 3, none⟩ = some (.slice d.mA d.mag.length d.mcap) ∧ V'.cell? ⟨w.heap.size, 4, none⟩ = some (.string d.t) ∧ V'.cell? ⟨w.heap.size, 5, none⟩ = some (.slice (some ⟨d.kb, d.ko, none⟩) f.len d.lcap) ∧ V'.cell? ⟨V.heap.size, 0, none⟩ = some (.int .i64 x.k) ∧ V'.cell? ⟨V.heap.size, 1, none⟩ = some (.int .i32 x.c) ∧ V'.cell? ⟨V.heap.size, 2, none⟩ = some (.bool x.neg) ∧ V'.cell? ⟨V.heap.size, 3, none⟩ = some (.slice x.mA x.mag.length x.mcap) ∧ V'.cell? ⟨V.heap.size, 4, none⟩ = some (.string x.t) ∧ V'.cell? ⟨V.heap.size, 5, none⟩ = some (.slice x.lA kx.len x.lcap)) (by kernel_rfl) ?_ (fun hHeld => ?_)
      · (try dsimp only)
        exact KT _ BRd
      refine wpAnyH_take (i := 0) (v := ?_) rfl (by kernel_rfl) (by kernel_rfl) (by kernel_rfl) (fun _ _ _ h => h) (Or.inl ⟨by rfl, ?_⟩) (by assumption) ?_
      rotate_left
      · intro w hSw
        (try dsimp only at hSw)
        go_simp
        all_goals with_reducible rfl
      try simp only [Act.put, List.setIfInBounds_toArray, List.set_cons_zero, List.set_cons_succ]
      refine wpAnyH_ready (rs := [1]) (by kernel_rfl) (by simp) ?_
      refine AllReadyH.cons rfl (fun K hK => ?_) AllReadyH.nil
      go_simp
      go_at_call 12
      with_reducible refine ((CMd _ BRd).out).mono ?_
      rintro e y1 ⟨rfl, c1⟩
      have B1 := UP.out _ _ BRd c1
      go_wp2_with fail
      refine hK.out _ _ ?_ (fun hH2 => ?_)
      · (try dsimp only)
        exact KT _ B1
      clear hK K hHeld
      have hHeld := hH2
      clear hH2
      try simp only [Act.put, List.setIfInBounds_toArray, List.set_cons_zero, List.set_cons_succ]
      refine wpAnyH_take (i := 2) (v := ?_) rfl (by kernel_rfl) (by kernel_rfl) (by kernel_rfl) (fun _ _ _ h => h) (Or.inl ⟨by rfl, ?_⟩) (by assumption) ?_
      rotate_left
      · intro w hSw
        (try dsimp only at hSw)
        go_simp
        all_goals with_reducible rfl
      try simp only [Act.put, List.setIfInBounds_toArray, List.set_cons_zero, List.set_cons_succ]
      refine wpAnyH_take (i := 3) (v := undef) rfl (by kernel_rfl) (by kernel_rfl) (by kernel_rfl) (fun _ _ _ h => h) (Or.inr ⟨by rfl, rfl⟩) (by assumption) ?_
      try simp only [Act.put, List.setIfInBounds_toArray, List.set_cons_zero, List.set_cons_succ]
      refine wpAnyH_ready (rs := [4]) (by kernel_rfl) (by simp) ?_
      refine AllReadyH.cons rfl (fun K hK => ?_) AllReadyH.nil
      go_simp
      refine hK.out _ _ ?_ (fun hH2 => ?_)
      · (try dsimp only)
        first | exact hHeld | exact hH | assumption
      clear hK K hHeld
      have hHeld := hH2
      clear hH2
      try simp only [Act.put, List.setIfInBounds_toArray, List.set_cons_zero, List.set_cons_succ]
      refine wpAnyH_take (i := 5) (v := undef) rfl (by kernel_rfl) (by kernel_rfl) (by kernel_rfl) (fun _ _ _ h => h) (Or.inr ⟨by rfl, rfl⟩) (by assumption) ?_
      try simp only [Act.put, List.setIfInBounds_toArray, List.set_cons_zero, List.set_cons_succ]
      refine wpAnyH_take (i := 6) (v := ?_) rfl (by kernel_rfl) (by kernel_rfl) (by kernel_rfl) (fun _ _ _ h => h) (Or.inl ⟨by rfl, ?_⟩) (by assumption) ?_
      rotate_left
      · intro w hSw
        (try dsimp only at hSw)
        go_simp
        all_goals with_reducible rfl
      try simp only [Act.put, List.setIfInBounds_toArray, List.set_cons_zero, List.set_cons_succ]
      refine wpAnyH_take (i := 7) (v := ?_) rfl (by kernel_rfl) (by kernel_rfl) (by kernel_rfl) (fun _ _ _ h => h) (Or.inl ⟨by rfl, ?_⟩) (by assumption) ?_
      rotate_left
      · intro w hSw
        (try dsimp only at hSw)
        go_simp
        all_goals with_reducible rfl
      try simp only [Act.put, List.setIfInBounds_toArray, List.set_cons_zero, List.set_cons_succ]
      refine wpAnyH_take (i := 8) (v := ?_) rfl (by kernel_rfl) (by kernel_rfl) (by kernel_rfl) (fun _ _ _ h => h) (Or.inl ⟨by rfl, ?_⟩) (by assumption) ?_
      rotate_left
      · intro w hSw
        (try dsimp only at hSw)
        go_simp
        all_goals with_reducible rfl
      try simp only [Act.put, List.setIfInBounds_toArray, List.set_cons_zero, List.set_cons_succ]
      refine wpAnyH_take (i := 10) (v := ?_) rfl (by kernel_rfl) (by kernel_rfl) (by kernel_rfl) (fun _ _ _ h => h) (Or.inl ⟨by rfl, ?_⟩) (by assumption) ?_
      rotate_left
      · intro w hSw
        (try dsimp only at hSw)
        go_simp
        all_goals with_reducible rfl
      try simp only [Act.put, List.setIfInBounds_toArray, List.set_cons_zero, List.set_cons_succ]
      refine wpAnyH_ready (rs := [9]) (by kernel_rfl) (by simp) ?_
      refine AllReadyH.cons rfl (fun K hK => ?_) AllReadyH.nil
      go_simp
      go_at_call 14
      with_reducible refine ((CDx _ B1).out).mono ?_
      rintro e y3 ⟨rfl, c3⟩
      have B3 := UP.out _ _ B1 c3
      go_wp2_with fail
      refine hK.out _ _ ?_ (fun hH2 => ?_)
      · (try dsimp only)
        exact KT _ B3
      clear hK K hHeld
      have hHeld := hH2
      clear hH2
      try simp only [Act.put, List.setIfInBounds_toArray, List.set_cons_zero, List.set_cons_succ]
      refine wpAnyH_ready (rs := [11]) (by kernel_rfl) (by simp) ?_
      refine AllReadyH.cons rfl (fun K hK => ?_) AllReadyH.nil
      go_simp
      go_at_call 14
      with_reducible refine ((CDd _ B3).out).mono ?_
      rintro e y4 ⟨rfl, c4⟩
      have B4 := UP.out _ _ B3 c4
      go_wp2_with fail
      refine hK.out _ _ ?_ (fun hH2 => ?_)
      · (try dsimp only)
        exact KT _ B4
      clear hK K hHeld
      have hHeld := hH2
      clear hH2
      try simp only [Act.put, List.setIfInBounds_toArray, List.set_cons_zero, List.set_cons_succ]
      refine wpAnyH_take (i := 12) (v := ?_) rfl (by kernel_rfl) (by kernel_rfl) (by kernel_rfl) (fun _ _ _ h => h) (Or.inl ⟨by rfl, ?_⟩) (by assumption) ?_
      rotate_left
      · intro w hSw
        (try dsimp only at hSw)
        go_simp
        all_goals with_reducible rfl
      try simp only [Act.put, List.setIfInBounds_toArray, List.set_cons_zero, List.set_cons_succ]
      refine wpAnyH_take (i := 13) (v := ?_) rfl (by kernel_rfl) (by kernel_rfl) (by kernel_rfl) (fun _ _ _ h => h) (Or.inl ⟨by rfl, ?_⟩) (by assumption) ?_
      rotate_left
      · intro w hSw
        (try dsimp only at hSw)
        go_simp
        all_goals with_reducible rfl
      try simp only [Act.put, List.setIfInBounds_toArray, List.set_cons_zero, List.set_cons_succ]
      refine wpAnyH_take (i := 14) (v := ?_) rfl (by kernel_rfl) (by kernel_rfl) (by kernel_rfl) (fun _ _ _ h => h) (Or.inl ⟨by rfl, ?_⟩) (by assumption) ?_
      rotate_left
      · intro w hSw
        (try dsimp only at hSw)
        go_simp
        all_goals with_reducible rfl
      try simp only [Act.put, List.setIfInBounds_toArray, List.set_cons_zero, List.set_cons_succ]
      refine wpAnyH_take (i := 15) (v := ?_) rfl (by kernel_rfl) (by kernel_rfl) (by kernel_rfl) (fun _ _ _ h => h) (Or.inl ⟨by rfl, ?_⟩) (by assumption) ?_
      rotate_left
      · intro w hSw
        (try dsimp only at hSw)
        go_simp
        all_goals with_reducible rfl
      try simp only [Act.put, List.setIfInBounds_toArray, List.set_cons_zero, List.set_cons_succ]
      refine wpAnyH_take (i := 16) (v := ?_) rfl (by kernel_rfl) (by kernel_rfl) (by kernel_rfl) (fun _ _ _ h => h) (Or.inl ⟨by rfl, ?_⟩) (by assumption) ?_
      rotate_left
      · intro w hSw
        (try dsimp only at hSw)
        go_simp
        all_goals with_reducible rfl
      try simp only [Act.put, List.setIfInBounds_toArray, List.set_cons_zero, List.set_cons_succ]
      refine wpAnyH_ready (rs := [17]) (by kernel_rfl) (by simp) ?_
      refine AllReadyH.cons rfl (fun K hK => ?_) AllReadyH.nil
      go_simp
      go_at_call 19
      with_reducible refine ((CS _ B4).out).mono ?_
      rintro e y5 ⟨rfl, c5⟩
      have B5 := UP.out _ _ B4 c5
      go_wp2_with fail
      refine hK.out _ _ ?_ (fun hH2 => ?_)
      · (try dsimp only)
        exact KT _ B5
      clear hK K hHeld
      have hHeld := hH2
      clear hH2
      try simp only [Act.put, List.setIfInBounds_toArray, List.set_cons_zero, List.set_cons_succ]
      refine wpAnyH_take (i := 18) (v := ?_) rfl (by kernel_rfl) (by kernel_rfl) (by kernel_rfl) (fun _ _ _ h => h) (Or.inl ⟨by rfl, ?_⟩) (by assumption) ?_
      rotate_left
      · intro w hSw
        (try dsimp only at hSw)
        go_simp
        all_goals with_reducible rfl
      try simp only [Act.put, List.setIfInBounds_toArray, List.set_cons_zero, List.set_cons_succ]
      refine wpAnyH_done (by kernel_rfl) ?_ _
      go_wp2
      go_roundw
      case rel =>
        have hnj : ((1 : Int) + (cntTo f j : Int) + ((kx.cnt : Int) + 1)) = ((1 + cntTo f (j + 1) : Nat) : Int) := by rw [HHN.out]; omega
        rw [hnj, show (j : Int) + 1 = ((j + 1 : Nat) : Int) by omega]
        exact ⟨j + 1, by omega, rfl, rfl, Lib.hid (hB.out.trans ((HBX.out.trans (B5.mono HBX.out.size)).mono hB.out.size))⟩
      case measure => simp [intOf]; omega
    · have ej : j = f.len := by omega
      have HN := Lib.hid (show cntTo f j = f.cnt by rw [ej, cntTo_len])
      have HCC := Lib.hid (count_any d f V vV (by omega))
      have HTV := Utf8Tabs_below HT hB.out
      have HBV := Lib.hid (hbW.trans (hB.out.mono hbW.size))
      have ⟨n1, n2, n3, n4, n5, n6⟩ := nd
      simp only [Nat.zero_add] at n1 n2 n3 n4 n5 n6
      rw [show 1 + cntTo f j = f.cnt + 1 by have := HN.out; omega]
      clear hj nd vV hcl
      subst ej
      go_wp2_with (first
        | (go_at_call 16; refine (HCC.out).mono ?_; rintro e y1 ⟨rfl, c1⟩)
        | (go_at_call 10; refine (awake_any _ (Utf8Tabs_below HTV c1)).mono ?_; rintro e y2 ⟨rfl, c2⟩))
      go_ret
      exact ⟨rfl, HBV.out.trans ((c1.trans (c2.mono c1.size)).mono HBV.out.size)⟩
end Go.Proofs.YtkffojipgphneaaDoor
