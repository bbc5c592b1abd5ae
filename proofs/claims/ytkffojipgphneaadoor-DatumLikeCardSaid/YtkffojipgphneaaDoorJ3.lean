/- DatumLike: the walk. -/
import Derived.Test.YtkffojipgphneaaDoorJ1
import Derived.Deep.RegionHeld3
set_option linter.unusedVariables false
set_option linter.unusedSimpArgs false
namespace Go.Proofs.YtkffojipgphneaaDoor
open Go Go.RowKit
set_option maxRecDepth 100000 in
set_option maxHeartbeats 8000000 in
theorem like_other (d1 : D) (f1 : F) (d2 : D) (f2 : F) (fl : F) (A : Option Addr) (b o c : Nat) (w : World) (v1 : Val (fun k => k < w.heap.size) w d1 f1) (v2 : Val (fun k => k < w.heap.size) w d2 f2) (hA : Hid (0 < fl.len → A = some ⟨b, o, none⟩)) (hF : AtF (fun k => k < w.heap.size) w fl b o) (hT : Lib.Utf8Tabs 0 1 w)
    (g1 : heavyB d1 f1 = false) (g2 : heavyB d2 f2 = false) (hn : fl.len ≤ 50) (hS : sameD d1 f1 d2 f2 = false) :
    Calls Tryd.prog 6 #[.agg #[.int .i64 d1.k, .int .i32 d1.c, .bool d1.neg, .slice d1.mA d1.mag.length d1.mcap, .string d1.t, .slice d1.lA f1.len d1.lcap], .agg #[.int .i64 d2.k, .int .i32 d2.c, .bool d2.neg, .slice d2.mA d2.mag.length d2.mcap, .string d2.t, .slice d2.lA f2.len d2.lcap], .slice A fl.len c] w fun e w' => e = .returned (.bool true) ∧ Below w.heap.size w w' := by
  obtain ⟨W, hW⟩ : ∃ W, W = (w.alloc (six d1 f1.len)).alloc (six d2 f2.len) := ⟨_, rfl⟩
  have hbW : Below w.heap.size w W := by rw [hW]; exact ((Below.refl _ _).alloc (Nat.le_refl _) _).alloc (by simp) _
  have hx1 : W.heap[w.heap.size]? = some (six d1 f1.len) := by rw [hW]; exact (Below.heap_alloc _ _ _ (by simp)).trans (heap_alloc_new _ _)
  have hx2 : W.heap[w.heap.size + 1]? = some (six d2 f2.len) := by
    rw [hW]
    have := heap_alloc_new (w.alloc (six d1 f1.len)) (six d2 f2.len)
    rwa [World.size_alloc] at this
  have hT1 := Utf8Tabs_below hT hbW
  have w1 := v1.below hbW
  have w2 := v2.below hbW
  have wF := AtF.mono (fun k hk => Nat.lt_of_lt_of_le hk hbW.size) _ _ _ (AtF.keep (Keep.of_below hbW) _ _ _ hF)
  have k1 := (light_cnt g1).1
  have k2 := (light_cnt g2).1
  have C1 := Lib.hid (heavy_any d1 f1 W w1)
  have C2 := Lib.hid (fun V (hb : Below W.heap.size W V) => heavy_any d2 f2 V (w2.below hb))
  rw [g1] at C1
  rw [g2] at C2
  have KT : ∀ V, Below W.heap.size W V → (Below W.heap.size W V ∧ V.cell? ⟨w.heap.size, 0, none⟩ = some (.int .i64 d1.k) ∧ V.cell? ⟨w.heap.size, 1, none⟩ = some (.int .i32 d1.c) ∧ V.cell? ⟨w.heap.size, 2, none⟩ = some (.bool d1.neg) ∧ V.cell? ⟨w.heap.size, 3, none⟩ = some (.slice d1.mA d1.mag.length d1.mcap) ∧ V.cell? ⟨w.heap.size, 4, none⟩ = some (.string d1.t) ∧ V.cell? ⟨w.heap.size, 5, none⟩ = some (.slice d1.lA f1.len d1.lcap) ∧ V.cell? ⟨w.heap.size + 1, 0, none⟩ = some (.int .i64 d2.k) ∧ V.cell? ⟨w.heap.size + 1, 1, none⟩ = some (.int .i32 d2.c) ∧ V.cell? ⟨w.heap.size + 1, 2, none⟩ = some (.bool d2.neg) ∧ V.cell? ⟨w.heap.size + 1, 3, none⟩ = some (.slice d2.mA d2.mag.length d2.mcap) ∧ V.cell? ⟨w.heap.size + 1, 4, none⟩ = some (.string d2.t) ∧ V.cell? ⟨w.heap.size + 1, 5, none⟩ = some (.slice d2.lA f2.len d2.lcap)) := fun V hb => by
    have e1 := Node.of_six ((hb.block _ (Array.getElem?_eq_some_iff.1 hx1).1).trans hx1)
    have e2 := Node.of_six ((hb.block _ (Array.getElem?_eq_some_iff.1 hx2).1).trans hx2)
    exact ⟨hb, e1.k, e1.c, e1.neg, e1.mag, e1.t, e1.l, e2.k, e2.c, e2.neg, e2.mag, e2.t, e2.l⟩
  have UP := Lib.hid (fun (V1 V2 : World) (h : Below W.heap.size W V1) (k : Below V1.heap.size V1 V2) => (h.trans (k.mono h.size) : Below W.heap.size W V2))
  have KK := Lib.hid KT
  clear KT
  have HT := Lib.hid (fun V (hb : Below W.heap.size W V) => Utf8Tabs_below hT1 hb)
  have HS := Lib.hid hS
  have HW := Lib.hid hW
  have HG := Lib.hid g1
  have HBW := Lib.hid hbW
  have pp := KK.out W (Below.refl _ _)
  obtain ⟨_, r1, r2, r3, r4, r5, r6, t1, t2, t3, t4, t5, t6⟩ := pp
  clear hW hx1 hx2 hT v1 v2 g1 g2 hS hF hT1 hbW
  go_enter Tryd.func6, Tryd.ntmps6
  go_wp2_with (go_at_call 9; rw [show (w.alloc (.cells #[.int .i64 d1.k, .int .i32 d1.c, .bool d1.neg, .slice d1.mA d1.mag.length d1.mcap, .string d1.t, .slice d1.lA f1.len d1.lcap] 27)).alloc (.cells #[.int .i64 d2.k, .int .i32 d2.c, .bool d2.neg, .slice d2.mA d2.mag.length d2.mcap, .string d2.t, .slice d2.lA f2.len d2.lcap] 27) = W from HW.out.symm]; refine (C1.out).mono ?_; rintro e x1 ⟨rfl, b1⟩; refine Hid.out ?_)
  refine Lib.hid ?_
  clear r1 r2 r3 r4 r5 r6 t1 t2 t3 t4 t5 t6
  have pp := KK.out _ b1
  obtain ⟨_, r1, r2, r3, r4, r5, r6, t1, t2, t3, t4, t5, t6⟩ := pp
  go_wp2_with (go_at_call 9; refine (C2.out _ b1).mono ?_; rintro e x2 ⟨rfl, b2⟩)
  have a2 := UP.out _ _ b1 b2
  clear r1 r2 r3 r4 r5 r6 t1 t2 t3 t4 t5 t6
  go_loopw [7, 8, 9] (fun dp al i wr => ∃ (j : Nat) (M : Int), j ≤ fl.len ∧ i = .int .i64 (j : Nat) ∧ dp = .int .i64 M ∧ al = .int .i64 ((1 + cntTo fl j + j : Nat)) ∧ 0 ≤ M ∧ M ≤ 200000 ∧ cntTo fl j ≤ 3000 * j ∧ Hid (Deep fl j M) ∧ Hid (Below W.heap.size W wr)) (fun _ _ i _ => fl.len - (intOf i).toNat)
  case atStart => exact ⟨0, 0, Nat.zero_le _, rfl, rfl, by rw [cntTo_zero]; rfl, by omega, by omega, by rw [cntTo_zero]; omega, Lib.hid (Deep.start fl), Lib.hid a2⟩
  case round =>
    obtain ⟨j, M, hj, rfl, rfl, rfl, m0, m1, hcl, hD, hB⟩ := hrel
    obtain ⟨V, hV⟩ : ∃ V, V = wr := ⟨_, rfl⟩
    rw [← hV] at hB ⊢
    clear hV b1 b2 a2
    by_cases hlt : j < fl.len
    · obtain rfl := hA.out (by omega)
      have vF := AtF.mono (fun k hk => Nat.lt_of_lt_of_le hk hB.out.size) _ _ _ (AtF.keep (Keep.of_below hB.out) _ _ _ wF)
      have it := AtF.nth vF 0 j hlt
      have vi := it.val
      simp only [] at vi
      have hnx := cntTo_succ fl j hlt
      have KI : ∀ V', Below V.heap.size V V' → (V'.cell? ⟨b, o + j * 6, none⟩ = some (.int .i64 (fl.nthD j).k) ∧ V'.cell? ⟨b, o + j * 6 + 1, none⟩ = some (.int .i32 (fl.nthD j).c) ∧ V'.cell? ⟨b, o + j * 6 + 2, none⟩ = some (.bool (fl.nthD j).neg) ∧ V'.cell? ⟨b, o + j * 6 + 3, none⟩ = some (.slice (fl.nthD j).mA (fl.nthD j).mag.length (fl.nthD j).mcap) ∧ V'.cell? ⟨b, o + j * 6 + 4, none⟩ = some (.string (fl.nthD j).t) ∧ V'.cell? ⟨b, o + j * 6 + 5, none⟩ = some (.slice (fl.nthD j).lA (fl.nthK j).len (fl.nthD j).lcap)) := fun V' hb => by
        have q := it.node.keep it.g (Keep.of_below hb)
        exact ⟨q.k, q.c, q.neg, q.mag, q.t, q.l⟩
      have hdn := Lib.hid (fun hb => Deep.next (fl := fl) (j := j) (M := M) hD.out hlt hb)
      clear it vF
      have CI := Lib.hid (heavy_any (fl.nthD j) (fl.nthK j) V vi)
      by_cases hg : heavyB (fl.nthD j) (fl.nthK j) = true
      · rw [hg] at CI
        clear hg hdn hnx vi
        have q := KI V (Below.refl _ _)
        obtain ⟨q1, q2, q3, q4, q5, q6⟩ := q
        clear KI
        generalize fl.nthD j = x at *
        generalize fl.nthK j = kx at *
        go_wp2_with (first
          | (go_at_call 9; refine (CI.out).mono ?_; rintro e y1 ⟨rfl, c1⟩)
          | (go_at_call 10; refine (awake_any _ (HT.out _ (UP.out _ _ hB.out c1))).mono ?_; rintro e y2 ⟨rfl, c2⟩))
        go_ret
        exact ⟨rfl, HBW.out.trans ((UP.out _ _ (UP.out _ _ hB.out c1) c2).mono HBW.out.size)⟩
      · have hgf : heavyB (fl.nthD j) (fl.nthK j) = false := by simpa using hg
        rw [hgf] at CI
        have hcx := (light_cnt hgf).1
        have hpn := dpD_nn (fl.nthD j) (fl.nthK j)
        clear hg hgf
        have q := KI V (Below.refl _ _)
        obtain ⟨q1, q2, q3, q4, q5, q6⟩ := q
        have HKI := Lib.hid KI
        clear KI
        have hpb : dpD (fl.nthD j) (fl.nthK j) ≤ 199000 := by
          have := dpD_bd (fl.nthD j) (fl.nthK j)
          omega
        have hdn2 := Lib.hid (hdn.out hpb)
        clear hdn
        have CDx := Lib.hid (fun V' (hb : Below V.heap.size V V') => depth_d (fl.nthD j) (fl.nthK j) V' (vi.below hb) (by omega))
        have CCx := Lib.hid (fun V' (hb : Below V.heap.size V V') => count_any (fl.nthD j) (fl.nthK j) V' (vi.below hb) (by omega))
        clear vi
        generalize dpD (fl.nthD j) (fl.nthK j) = p at *
        generalize fl.nthD j = x at *
        generalize fl.nthK j = kx at *
        have HNX := Lib.hid hnx
        clear hnx
        go_wp2_with (go_at_call 9; refine (CI.out).mono ?_; rintro e y1 ⟨rfl, c1⟩; refine Hid.out ?_)
        refine Lib.hid ?_
        clear q1 q2 q3 q4 q5 q6
        have q := HKI.out _ c1
        obtain ⟨q1, q2, q3, q4, q5, q6⟩ := q
        go_wp2_with (go_at_call 14; refine (CDx.out _ c1).mono ?_; rintro e y2 ⟨rfl, c2⟩; refine Hid.out ?_)
        refine Lib.hid ?_
        have a2 : Below V.heap.size V y2 := c1.trans (c2.mono c1.size)
        clear q1 q2 q3 q4 q5 q6
        have q := HKI.out _ a2
        obtain ⟨q1, q2, q3, q4, q5, q6⟩ := q
        go_wp2_with (go_at_call 16; refine (CCx.out _ a2).mono ?_; rintro e y3 ⟨rfl, c3⟩)
        have a3 : Below V.heap.size V y3 := a2.trans (c3.mono a2.size)
        go_roundw
        case rel =>
          have hj1 : (j : Int) + 1 = ((j + 1 : Nat) : Int) := by omega
          have hal : (1 : Int) + (cntTo fl j : Int) + (j : Int) + 1 + ((kx.cnt : Int) + 1) = ((1 + cntTo fl (j + 1) + (j + 1) : Nat) : Int) := by rw [HNX.out]; omega
          rw [hal, hj1]
          exact ⟨j + 1, max M (p + 1), by omega, rfl, rfl, rfl, by omega, by omega, by rw [HNX.out]; omega, hdn2, Lib.hid (UP.out _ _ hB.out a3)⟩
        case measure => simp [intOf]; omega
    · have ej : j = fl.len := by omega
      clear hlt hj
      subst ej
      have hcn := cntTo_len fl
      rw [hcn] at hcl
      have HM := Lib.hid (hD.out.done)
      have HQ : ∃ Q : Int, Hid (((1 + cntTo fl fl.len + fl.len : Nat) : Int) = Q) := ⟨_, Lib.hid rfl⟩
      obtain ⟨Q, HQ⟩ := HQ
      rw [show Value.int .i64 ((1 + cntTo fl fl.len + fl.len : Nat) : Int) = Value.int .i64 Q by rw [HQ.out]]
      have HCN := Lib.hid hcn
      clear hcn
      have wF2 := Lib.hid wF
      have CL := Lib.hid (fun (V' : World) (d' : D) (f' : F) (v : Val (fun k => k < V'.heap.size) V' d' f') (s : sameD (lstD fl) (lstF fl) d' f' = true) => (show Calls Tryd.prog 14 #[.agg #[.int .i64 d'.k, .int .i32 d'.c, .bool d'.neg, .slice d'.mA d'.mag.length d'.mcap, .string d'.t, .slice d'.lA f'.len d'.lcap]] V' (fun e w' => e = .returned (.int .i64 M) ∧ Below V'.heap.size V' w') by
        have hc := lst_cnt fl
        have hc2 := s
        simp only [sameD, Bool.and_eq_true] at hc2
        have hc3 := sameF_cnt _ _ hc2.2
        have := depth_d d' f' V' v (by omega)
        rw [← dpD_same s, dpD_lst, ← HM.out] at this
        exact this))
      have CQ := Lib.hid (fun (V' : World) (d' : D) (f' : F) (v : Val (fun k => k < V'.heap.size) V' d' f') (s : sameD (lstD fl) (lstF fl) d' f' = true) => (show Calls Tryd.prog 16 #[.agg #[.int .i64 d'.k, .int .i32 d'.c, .bool d'.neg, .slice d'.mA d'.mag.length d'.mcap, .string d'.t, .slice d'.lA f'.len d'.lcap]] V' (fun e w' => e = .returned (.int .i64 Q) ∧ Below V'.heap.size V' w') by
        have hc := lst_cnt fl
        have hc2 := s
        simp only [sameD, Bool.and_eq_true] at hc2
        have hc3 := sameF_cnt _ _ hc2.2
        have := count_any d' f' V' v (by omega)
        have e : ((f'.cnt + 1 : Nat) : Int) = Q := by rw [← HQ.out, HCN.out]; omega
        rw [e] at this
        exact this))
      have CS : ∀ V', Below W.heap.size W V' → Hid (Calls Tryd.prog 19 #[.agg #[.int .i64 d1.k, .int .i32 d1.c, .bool d1.neg, .slice d1.mA d1.mag.length d1.mcap, .string d1.t, .slice d1.lA f1.len d1.lcap], .agg #[.int .i64 d2.k, .int .i32 d2.c, .bool d2.neg, .slice d2.mA d2.mag.length d2.mcap, .string d2.t, .slice d2.lA f2.len d2.lcap]] V' fun e w' => e = .returned (.bool false) ∧ Below V'.heap.size V' w') := fun V' hb => Lib.hid (same_any d1 f1 d2 f2 V' (w1.below hb) (w2.below hb) (by omega) false (Lib.hid HS.out))
      have pp := KK.out _ hB.out
      obtain ⟨_, r1, r2, r3, r4, r5, r6, t1, t2, t3, t4, t5, t6⟩ := pp
      have B0 := hB.out
      have BRd : Below W.heap.size W V.drew := hB.out.drew
      have KT := KK.out
      clear w1 w2 k1 k2 m0 m1 wF
      go_wp2_with fail
      refine wp_region_held_drew (S := fun V' => Below W.heap.size W V' ∧ V'.cell? ⟨w.heap.size, 0, none⟩ = some (.int .i64 d1.k) ∧ V'.cell? ⟨w.heap.size, 1, none⟩ = some (.int .i32 d1.c) ∧ V'.cell? ⟨w.heap.size, 2, none⟩ = some (.bool d1.neg) ∧ V'.cell? ⟨w.heap.size, 3, none⟩ = some (.slice d1.mA d1.mag.length d1.mcap) ∧ V'.cell? ⟨w.heap.size, 4, none⟩ = some (.string d1.t) ∧ V'.cell? ⟨w.heap.size, 5, none⟩ = some (.slice d1.lA f1.len d1.lcap) ∧ V'.cell? ⟨w.heap.size + 1, 0, none⟩ = some (.int .i64 d2.k) ∧ V'.cell? ⟨w.heap.size + 1, 1, none⟩ = some (.int .i32 d2.c) ∧ V'.cell? ⟨w.heap.size + 1, 2, none⟩ = some (.bool d2.neg) ∧ V'.cell? ⟨w.heap.size + 1, 3, none⟩ = some (.slice d2.mA d2.mag.length d2.mcap) ∧ V'.cell? ⟨w.heap.size + 1, 4, none⟩ = some (.string d2.t) ∧ V'.cell? ⟨w.heap.size + 1, 5, none⟩ = some (.slice d2.lA f2.len d2.lcap)) (by kernel_rfl) ?_ (fun hHeld => ?_)
      · (try dsimp only)
        exact KT _ BRd
      refine wpAnyH_take (i := 0) (v := ?_) rfl (by kernel_rfl) (by kernel_rfl) (by kernel_rfl) (fun _ _ _ h => h) (Or.inl ⟨by rfl, ?_⟩) (by assumption) ?_
      rotate_left
      · intro w hSw
        (try dsimp only at hSw)
        go_simp
        all_goals with_reducible rfl
      try simp only [Act.put, List.setIfInBounds_toArray, List.set_cons_zero, List.set_cons_succ]
      refine wpAnyH_take (i := 1) (v := ?_) rfl (by kernel_rfl) (by kernel_rfl) (by kernel_rfl) (fun _ _ _ h => h) (Or.inl ⟨by rfl, ?_⟩) (by assumption) ?_
      rotate_left
      · intro w hSw
        (try dsimp only at hSw)
        go_simp
        all_goals with_reducible rfl
      try simp only [Act.put, List.setIfInBounds_toArray, List.set_cons_zero, List.set_cons_succ]
      refine wpAnyH_ready (rs := [2]) (by kernel_rfl) (by simp) ?_
      refine AllReadyH.cons rfl (fun K hK => ?_) AllReadyH.nil
      go_simp
      go_at_call 19
      with_reducible refine ((CS _ BRd).out).mono ?_
      rintro e y1 ⟨rfl, c1⟩
      have B1 := UP.out _ _ BRd c1
      go_wp2_with fail
      refine hK.out _ _ ?_ (fun hH2 => ?_)
      · (try dsimp only)
        exact KT _ B1
      clear hK K hHeld
      have hHeld := hH2
      clear hH2
      try simp only [Act.put, List.setIfInBounds_toArray, List.set_cons_zero, List.set_cons_succ]
      refine wpAnyH_take (i := 3) (v := ?_) rfl (by kernel_rfl) (by kernel_rfl) (by kernel_rfl) (fun _ _ _ h => h) (Or.inl ⟨by rfl, ?_⟩) (by assumption) ?_
      rotate_left
      · intro w hSw
        (try dsimp only at hSw)
        go_simp
        all_goals with_reducible rfl
      try simp only [Act.put, List.setIfInBounds_toArray, List.set_cons_zero, List.set_cons_succ]
      refine wpAnyH_take (i := 4) (v := undef) rfl (by kernel_rfl) (by kernel_rfl) (by kernel_rfl) (fun _ _ _ h => h) (Or.inr ⟨by rfl, rfl⟩) (by assumption) ?_
      try simp only [Act.put, List.setIfInBounds_toArray, List.set_cons_zero, List.set_cons_succ]
      refine wpAnyH_take (i := 6) (v := undef) rfl (by kernel_rfl) (by kernel_rfl) (by kernel_rfl) (fun _ _ _ h => h) (Or.inr ⟨by rfl, rfl⟩) (by assumption) ?_
      try simp only [Act.put, List.setIfInBounds_toArray, List.set_cons_zero, List.set_cons_succ]
      refine wpAnyH_ready (rs := [5]) (by kernel_rfl) (by simp) ?_
      refine AllReadyH.cons rfl (fun K hK => ?_) AllReadyH.nil
      go_simp
      refine hK.out _ _ ?_ (fun hH2 => ?_)
      · (try dsimp only)
        first | exact hHeld | exact hH | assumption
      clear hK K hHeld
      have hHeld := hH2
      clear hH2
      try simp only [Act.put, List.setIfInBounds_toArray, List.set_cons_zero, List.set_cons_succ]
      refine wpAnyH_ready (rs := [7]) (by kernel_rfl) (by simp) ?_
      refine AllReadyH.cons rfl (fun K hK => ?_) AllReadyH.nil
      go_simp
      refine hK.out _ _ ?_ (fun hH2 => ?_)
      · (try dsimp only)
        first | exact hHeld | exact hH | assumption
      clear hK K hHeld
      have hHeld := hH2
      clear hH2
      try simp only [Act.put, List.setIfInBounds_toArray, List.set_cons_zero, List.set_cons_succ]
      refine wpAnyH_take (i := 8) (v := undef) rfl (by kernel_rfl) (by kernel_rfl) (by kernel_rfl) (fun _ _ _ h => h) (Or.inr ⟨by rfl, rfl⟩) (by assumption) ?_
      try simp only [Act.put, List.setIfInBounds_toArray, List.set_cons_zero, List.set_cons_succ]
      refine wpAnyH_take (i := 9) (v := undef) rfl (by kernel_rfl) (by kernel_rfl) (by kernel_rfl) (fun _ _ _ h => h) (Or.inr ⟨by rfl, rfl⟩) (by assumption) ?_
      try simp only [Act.put, List.setIfInBounds_toArray, List.set_cons_zero, List.set_cons_succ]
      refine wpAnyH_take (i := 10) (v := undef) rfl (by kernel_rfl) (by kernel_rfl) (by kernel_rfl) (fun _ _ _ h => h) (Or.inr ⟨by rfl, rfl⟩) (by assumption) ?_
      try simp only [Act.put, List.setIfInBounds_toArray, List.set_cons_zero, List.set_cons_succ]
      refine wpAnyH_take (i := 12) (v := undef) rfl (by kernel_rfl) (by kernel_rfl) (by kernel_rfl) (fun _ _ _ h => h) (Or.inr ⟨by rfl, rfl⟩) (by assumption) ?_
      try simp only [Act.put, List.setIfInBounds_toArray, List.set_cons_zero, List.set_cons_succ]
      refine wpAnyH_ready (rs := [11]) (by kernel_rfl) (by simp) ?_
      refine AllReadyH.cons rfl (fun K hK => ?_) AllReadyH.nil
      go_simp
      refine hK.out _ _ ?_ (fun hH2 => ?_)
      · (try dsimp only)
        first | exact hHeld | exact hH | assumption
      clear hK K hHeld
      have hHeld := hH2
      clear hH2
      try simp only [Act.put, List.setIfInBounds_toArray, List.set_cons_zero, List.set_cons_succ]
      refine wpAnyH_ready (rs := [13]) (by kernel_rfl) (by simp) ?_
      refine AllReadyH.cons rfl (fun K hK => ?_) AllReadyH.nil
      go_simp
      refine hK.out _ _ ?_ (fun hH2 => ?_)
      · (try dsimp only)
        first | exact hHeld | exact hH | assumption
      clear hK K hHeld
      have hHeld := hH2
      clear hH2
      try simp only [Act.put, List.setIfInBounds_toArray, List.set_cons_zero, List.set_cons_succ]
      refine wpAnyH_take (i := 14) (v := undef) rfl (by kernel_rfl) (by kernel_rfl) (by kernel_rfl) (fun _ _ _ h => h) (Or.inr ⟨by rfl, rfl⟩) (by assumption) ?_
      try simp only [Act.put, List.setIfInBounds_toArray, List.set_cons_zero, List.set_cons_succ]
      refine wpAnyH_take (i := 15) (v := undef) rfl (by kernel_rfl) (by kernel_rfl) (by kernel_rfl) (fun _ _ _ h => h) (Or.inr ⟨by rfl, rfl⟩) (by assumption) ?_
      try simp only [Act.put, List.setIfInBounds_toArray, List.set_cons_zero, List.set_cons_succ]
      refine wpAnyH_take (i := 16) (v := undef) rfl (by kernel_rfl) (by kernel_rfl) (by kernel_rfl) (fun _ _ _ h => h) (Or.inr ⟨by rfl, rfl⟩) (by assumption) ?_
      try simp only [Act.put, List.setIfInBounds_toArray, List.set_cons_zero, List.set_cons_succ]
      refine wpAnyH_take (i := 17) (v := undef) rfl (by kernel_rfl) (by kernel_rfl) (by kernel_rfl) (fun _ _ _ h => h) (Or.inr ⟨by rfl, rfl⟩) (by assumption) ?_
      try simp only [Act.put, List.setIfInBounds_toArray, List.set_cons_zero, List.set_cons_succ]
      refine wpAnyH_take (i := 19) (v := undef) rfl (by kernel_rfl) (by kernel_rfl) (by kernel_rfl) (fun _ _ _ h => h) (Or.inr ⟨by rfl, rfl⟩) (by assumption) ?_
      try simp only [Act.put, List.setIfInBounds_toArray, List.set_cons_zero, List.set_cons_succ]
      refine wpAnyH_ready (rs := [18]) (by kernel_rfl) (by simp) ?_
      refine AllReadyH.cons rfl (fun K hK => ?_) AllReadyH.nil
      go_simp
      refine hK.out _ _ ?_ (fun hH2 => ?_)
      · (try dsimp only)
        first | exact hHeld | exact hH | assumption
      clear hK K hHeld
      have hHeld := hH2
      clear hH2
      try simp only [Act.put, List.setIfInBounds_toArray, List.set_cons_zero, List.set_cons_succ]
      refine wpAnyH_ready (rs := [20]) (by kernel_rfl) (by simp) ?_
      refine AllReadyH.cons rfl (fun K hK => ?_) AllReadyH.nil
      go_simp
      refine hK.out _ _ ?_ (fun hH2 => ?_)
      · (try dsimp only)
        first | exact hHeld | exact hH | assumption
      clear hK K hHeld
      have hHeld := hH2
      clear hH2
      try simp only [Act.put, List.setIfInBounds_toArray, List.set_cons_zero, List.set_cons_succ]
      refine wpAnyH_take (i := 21) (v := undef) rfl (by kernel_rfl) (by kernel_rfl) (by kernel_rfl) (fun _ _ _ h => h) (Or.inr ⟨by rfl, rfl⟩) (by assumption) ?_
      try simp only [Act.put, List.setIfInBounds_toArray, List.set_cons_zero, List.set_cons_succ]
      refine wpAnyH_take (i := 22) (v := undef) rfl (by kernel_rfl) (by kernel_rfl) (by kernel_rfl) (fun _ _ _ h => h) (Or.inr ⟨by rfl, rfl⟩) (by assumption) ?_
      try simp only [Act.put, List.setIfInBounds_toArray, List.set_cons_zero, List.set_cons_succ]
      refine wpAnyH_take (i := 23) (v := ?_) rfl (by kernel_rfl) (by kernel_rfl) (by kernel_rfl) (fun _ _ _ h => h) (Or.inl ⟨by rfl, ?_⟩) (by assumption) ?_
      rotate_left
      · intro w hSw
        (try dsimp only at hSw)
        go_simp
        all_goals with_reducible rfl
      try simp only [Act.put, List.setIfInBounds_toArray, List.set_cons_zero, List.set_cons_succ]
      refine wpAnyH_done (by kernel_rfl) ?_ _
      have zB := B1.size
      have yF : AtF (fun k => k < y1.heap.size) y1 fl b o := AtF.mono (fun k hk => Nat.lt_of_lt_of_le hk zB) _ _ _ (AtF.keep (Keep.of_below B1) _ _ _ wF2.out)
      go_wp2_with (go_at_call 25; refine (list_any fl A b o c _ hA yF (by omega)).mono ?_; rintro e z1 ⟨d', f', rfl, v3, s3, b3⟩; refine Hid.out ?_)
      refine Lib.hid ?_
      have B8 := UP.out _ _ B1 b3
      have hX0 : (z1.alloc (six d' f'.len)).heap[z1.heap.size]? = some (six d' f'.len) := heap_alloc_new _ _
      obtain ⟨X, hX⟩ : ∃ X, X = z1.alloc (six d' f'.len) := ⟨_, rfl⟩
      have zX : z1.heap.size < X.heap.size := by rw [hX]; simp
      rw [← hX] at hX0
      have vX : Val (fun k => k < X.heap.size) X d' f' := by rw [hX]; exact val_alloc (val_here v3) _
      have B9 : Below W.heap.size W X := by rw [hX]; exact B8.alloc B8.size _
      have HX := Lib.hid hX
      clear hX v3
      go_wp2_with (go_at_call 14; rw [show z1.alloc (.cells #[.int .i64 d'.k, .int .i32 d'.c, .bool d'.neg, .slice d'.mA d'.mag.length d'.mcap, .string d'.t, .slice d'.lA f'.len d'.lcap] 27) = X from HX.out.symm]; refine (CL.out X d' f' vX s3).mono ?_; rintro e z2 ⟨rfl, b4⟩; refine Hid.out ?_)
      refine Lib.hid ?_
      have xx := (b4.block _ zX).trans hX0
      have ⟨q1, q2, q3, q4, q5, q6⟩ := Node.of_six xx
      simp only [Nat.zero_add] at q1 q2 q3 q4 q5 q6
      have B10 := UP.out _ _ B9 b4
      have v2 := vX.below b4
      go_wp2_with (first
        | (go_at_call 16; refine (CQ.out _ d' f' v2 s3).mono ?_; rintro e z3 ⟨rfl, b5⟩)
        | (go_at_call 10; refine (awake_any _ (HT.out _ (UP.out _ _ B10 b5))).mono ?_; rintro e z4 ⟨rfl, b6⟩))
      go_ret
      exact ⟨rfl, HBW.out.trans ((UP.out _ _ (UP.out _ _ B10 b5) b6).mono HBW.out.size)⟩
end Go.Proofs.YtkffojipgphneaaDoor
