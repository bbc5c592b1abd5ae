/- datum.Cons. -/
import Derived.Test.YtkffojipgphneaaDoorL1
set_option linter.unusedVariables false
set_option linter.unusedSimpArgs false
namespace Go.Proofs.YtkffojipgphneaaDoor
open Go Go.RowKit Go.Shelf
set_option maxRecDepth 100000 in
set_option maxHeartbeats 4000000 in
theorem cons_any (d : D) (f : F) (e : D) (g : F) (w : World) (h1 : Val (fun k => k < w.heap.size) w d f) (h2 : Val (fun k => k < w.heap.size) w e g) (hc1 : f.cnt ≤ 190000) (hc2 : g.cnt ≤ 190000) :
    Calls Tryd.prog 27 #[.agg #[.int .i64 d.k, .int .i32 d.c, .bool d.neg, .slice d.mA d.mag.length d.mcap, .string d.t, .slice d.lA f.len d.lcap], .agg #[.int .i64 e.k, .int .i32 e.c, .bool e.neg, .slice e.mA e.mag.length e.mcap, .string e.t, .slice e.lA g.len e.lcap]] w fun x w' => ∃ (d' : D) (f' : F), x = .returned (.agg #[.int .i64 d'.k, .int .i32 d'.c, .bool d'.neg, .slice d'.mA d'.mag.length d'.mcap, .string d'.t, .slice d'.lA f'.len d'.lcap]) ∧ Val (fun k => w.heap.size ≤ k) w' d' f' ∧ sameD (pairD none) (two d f e g) d' f' = true ∧ Below w.heap.size w w' := by
  obtain ⟨W, hW⟩ : ∃ W, W = ((w.alloc (.cells #[.int .i64 d.k, .int .i32 d.c, .bool d.neg, .slice d.mA d.mag.length d.mcap, .string d.t, .slice d.lA f.len d.lcap] 27)).alloc (.cells #[.int .i64 e.k, .int .i32 e.c, .bool e.neg, .slice e.mA e.mag.length e.mcap, .string e.t, .slice e.lA g.len e.lcap] 27)).alloc (.cells #[.int .i64 0, .int .i32 0, .bool false, .slice none 0 0, .string ⟨#[]⟩, .slice none 0 0] 27) := ⟨_, rfl⟩
  have hbW : Below w.heap.size w W := by rw [hW]; exact (((Below.refl _ _).alloc (Nat.le_refl _) _).alloc (by simp) _).alloc (by simp <;> omega) _
  have hsW : W.heap.size = w.heap.size + 3 := by rw [hW]; simp
  have ha : W.heap[w.heap.size]? = some (six d f.len) := by
    rw [hW]
    exact (Below.heap_alloc _ _ _ (by simp <;> omega)).trans ((Below.heap_alloc _ _ _ (by simp)).trans (heap_alloc_new _ _))
  have hb : W.heap[w.heap.size + 1]? = some (six e g.len) := by
    rw [hW]
    have := heap_alloc_new (w.alloc (.cells #[.int .i64 d.k, .int .i32 d.c, .bool d.neg, .slice d.mA d.mag.length d.mcap, .string d.t, .slice d.lA f.len d.lcap] 27)) (six e g.len)
    rw [World.size_alloc] at this
    exact (Below.heap_alloc _ _ _ (by simp)).trans this
  have hr : W.heap[w.heap.size + 1 + 1]? = some (.cells #[.int .i64 0, .int .i32 0, .bool false, .slice none 0 0, .string ⟨#[]⟩, .slice none 0 0] 27 (0, 0)) := by
    rw [hW]
    have := heap_alloc_new ((w.alloc (.cells #[.int .i64 d.k, .int .i32 d.c, .bool d.neg, .slice d.mA d.mag.length d.mcap, .string d.t, .slice d.lA f.len d.lcap] 27)).alloc (.cells #[.int .i64 e.k, .int .i32 e.c, .bool e.neg, .slice e.mA e.mag.length e.mcap, .string e.t, .slice e.lA g.len e.lcap] 27)) (.cells #[.int .i64 0, .int .i32 0, .bool false, .slice none 0 0, .string ⟨#[]⟩, .slice none 0 0] 27)
    rw [World.size_alloc, World.size_alloc] at this
    exact this
  have KS : ∀ V, Keep (fun k => k < w.heap.size + 2) W V → Hid (V.cell? ⟨w.heap.size, 0, none⟩ = some (.int .i64 d.k) ∧ V.cell? ⟨w.heap.size, 1, none⟩ = some (.int .i32 d.c) ∧ V.cell? ⟨w.heap.size, 2, none⟩ = some (.bool d.neg) ∧ V.cell? ⟨w.heap.size, 3, none⟩ = some (.slice d.mA d.mag.length d.mcap) ∧ V.cell? ⟨w.heap.size, 4, none⟩ = some (.string d.t) ∧ V.cell? ⟨w.heap.size, 5, none⟩ = some (.slice d.lA f.len d.lcap) ∧ V.cell? ⟨w.heap.size + 1, 0, none⟩ = some (.int .i64 e.k) ∧ V.cell? ⟨w.heap.size + 1, 1, none⟩ = some (.int .i32 e.c) ∧ V.cell? ⟨w.heap.size + 1, 2, none⟩ = some (.bool e.neg) ∧ V.cell? ⟨w.heap.size + 1, 3, none⟩ = some (.slice e.mA e.mag.length e.mcap) ∧ V.cell? ⟨w.heap.size + 1, 4, none⟩ = some (.string e.t) ∧ V.cell? ⟨w.heap.size + 1, 5, none⟩ = some (.slice e.lA g.len e.lcap)) := fun V hk => Lib.hid (by
    have n1 := Node.of_six (hk.heap (by omega) ha)
    have n2 := Node.of_six (hk.heap (by omega) hb)
    simpa using (⟨n1.k, n1.c, n1.neg, n1.mag, n1.t, n1.l, n2.k, n2.c, n2.neg, n2.mag, n2.t, n2.l⟩ : V.cell? ⟨w.heap.size, 0, none⟩ = some (.int .i64 d.k) ∧ V.cell? ⟨w.heap.size, 1, none⟩ = some (.int .i32 d.c) ∧ V.cell? ⟨w.heap.size, 2, none⟩ = some (.bool d.neg) ∧ V.cell? ⟨w.heap.size, 3, none⟩ = some (.slice d.mA d.mag.length d.mcap) ∧ V.cell? ⟨w.heap.size, 4, none⟩ = some (.string d.t) ∧ V.cell? ⟨w.heap.size, 5, none⟩ = some (.slice d.lA f.len d.lcap) ∧ V.cell? ⟨w.heap.size + 1, 0, none⟩ = some (.int .i64 e.k) ∧ V.cell? ⟨w.heap.size + 1, 1, none⟩ = some (.int .i32 e.c) ∧ V.cell? ⟨w.heap.size + 1, 2, none⟩ = some (.bool e.neg) ∧ V.cell? ⟨w.heap.size + 1, 3, none⟩ = some (.slice e.mA e.mag.length e.mcap) ∧ V.cell? ⟨w.heap.size + 1, 4, none⟩ = some (.string e.t) ∧ V.cell? ⟨w.heap.size + 1, 5, none⟩ = some (.slice e.lA g.len e.lcap)))
  have v1 := h1.keep (Keep.of_below hbW)
  have v2 := h2.keep (Keep.of_below hbW)
  have hsl : w.heap.size ≤ W.heap.size := hbW.size
  have hsa : W.heap.size ≤ w.heap.size + 3 := by omega
  have hsb : w.heap.size + 3 ≤ W.heap.size := by omega
  have FA := Lib.hid (fun (V : World) (hk : Keep (fun k => k < w.heap.size) W V) => fresh_any d f V ((v1.keep hk).mono (fun k hk2 => Nat.lt_of_lt_of_le hk2 (Nat.le_trans hsl hk.size))) hc1)
  have FB := Lib.hid (fun (V : World) (hk : Keep (fun k => k < w.heap.size) W V) => fresh_any e g V ((v2.keep hk).mono (fun k hk2 => Nat.lt_of_lt_of_le hk2 (Nat.le_trans hsl hk.size))) hc2)
  clear v1 v2 h1 h2 ha hb hsW
  go_enter Tryd.func27, Tryd.ntmps27
  go_wp2_with fail
  rw [← show W = _ from hW]
  have HW := Lib.hid hW
  clear hW
  have hs0 := (KS _ (Keep.drew (Keep.refl _ W))).out
  refine wp_region_held_drew (S := fun X => X.cell? ⟨w.heap.size, 0, none⟩ = some (.int .i64 d.k) ∧ X.cell? ⟨w.heap.size, 1, none⟩ = some (.int .i32 d.c) ∧ X.cell? ⟨w.heap.size, 2, none⟩ = some (.bool d.neg) ∧ X.cell? ⟨w.heap.size, 3, none⟩ = some (.slice d.mA d.mag.length d.mcap) ∧ X.cell? ⟨w.heap.size, 4, none⟩ = some (.string d.t) ∧ X.cell? ⟨w.heap.size, 5, none⟩ = some (.slice d.lA f.len d.lcap) ∧ X.cell? ⟨w.heap.size + 1, 0, none⟩ = some (.int .i64 e.k) ∧ X.cell? ⟨w.heap.size + 1, 1, none⟩ = some (.int .i32 e.c) ∧ X.cell? ⟨w.heap.size + 1, 2, none⟩ = some (.bool e.neg) ∧ X.cell? ⟨w.heap.size + 1, 3, none⟩ = some (.slice e.mA e.mag.length e.mcap) ∧ X.cell? ⟨w.heap.size + 1, 4, none⟩ = some (.string e.t) ∧ X.cell? ⟨w.heap.size + 1, 5, none⟩ = some (.slice e.lA g.len e.lcap)) (by kernel_rfl) hs0 (fun hHeld => ?_)
  clear hs0
  refine wpAnyH_take (i := 0) (v := ?_) rfl (by kernel_rfl) (by kernel_rfl) (by kernel_rfl) (fun _ _ _ h => h) (Or.inl ⟨by rfl, ?_⟩) (by assumption) ?_
  rotate_left
  · intro w hSw
    (try dsimp only at hSw)
    go_simp
    all_goals with_reducible rfl
  try simp only [Act.put, List.setIfInBounds_toArray, List.set_cons_zero, List.set_cons_succ]
  refine wpAnyH_take (i := 2) (v := ?_) rfl (by kernel_rfl) (by kernel_rfl) (by kernel_rfl) (fun _ _ _ h => h) (Or.inl ⟨by rfl, ?_⟩) (by assumption) ?_
  rotate_left
  · intro w hSw
    (try dsimp only at hSw)
    go_simp
    all_goals with_reducible rfl
  try simp only [Act.put, List.setIfInBounds_toArray, List.set_cons_zero, List.set_cons_succ]
  refine wpAnyH_ready (rs := [1]) (by kernel_rfl) (by simp) ?_
  refine AllReadyH.cons rfl (fun K hK => ?_) AllReadyH.nil
  go_simp
  go_at_call 45
  have kk1 : Keep (fun k => k < w.heap.size) W W.drew := Keep.drew (Keep.refl _ W)
  with_reducible refine ((FA.out) _ kk1).mono ?_
  rintro z X1 ⟨da, fa, rfl, hl1, hva, hsma, hbl1⟩
  clear hl1
  have kX1 : Keep (fun _ => True) W.drew X1 := Keep.any hbl1
  have kWX1 : Keep (fun _ => True) W X1 := ((Keep.refl _ W).drew).trans kX1
  go_wp2_with fail
  refine hK.out _ _ ((KS _ (kWX1.mono (fun _ _ _ => trivial))).out) (fun hH2 => ?_)
  clear hK K hHeld
  have hHeld := hH2
  clear hH2
  try simp only [Act.put, List.setIfInBounds_toArray, List.set_cons_zero, List.set_cons_succ]
  refine wpAnyH_ready (rs := [3]) (by kernel_rfl) (by simp) ?_
  refine AllReadyH.cons rfl (fun K hK => ?_) AllReadyH.nil
  go_simp
  go_at_call 45
  have kk2 : Keep (fun k => k < w.heap.size) W X1 := kWX1.mono (fun _ _ _ => trivial)
  with_reducible refine ((FB.out) _ kk2).mono ?_
  rintro z X2 ⟨db, fb, rfl, hl2, hvb, hsmb, hbl2⟩
  clear hl2
  have kX2 : Keep (fun _ => True) X1 X2 := Keep.any hbl2
  have kWX2 : Keep (fun _ => True) W X2 := kWX1.trans kX2
  go_wp2_with fail
  refine hK.out _ _ ((KS _ (kWX2.mono (fun _ _ _ => trivial))).out) (fun hH2 => ?_)
  clear hK K hHeld
  have hHeld := hH2
  clear hH2
  try simp only [Act.put, List.setIfInBounds_toArray, List.set_cons_zero, List.set_cons_succ]
  refine wpAnyH_ready (rs := [4]) (by kernel_rfl) (by simp) ?_
  refine AllReadyH.cons rfl (fun K hK => ?_) AllReadyH.nil
  go_simp
  go_at_call 44
  have kWX : Keep (fun _ => True) W X2 := (((Keep.refl _ W).drew).trans kX1).trans kX2
  have hsz1 := kX1.size
  have hsz2 := kX2.size
  have hdr : W.drew.heap.size = W.heap.size := rfl
  have hva : Val (fun k => W.heap.size ≤ k) X2 da fa := ((hva.keep (kX2.mono (fun _ _ _ => trivial))).mono (fun k hk => hk))
  have hvb : Val (fun k => W.heap.size ≤ k) X2 db fb := (hvb.mono (fun k hk => by have hk2 : X1.heap.size ≤ k := hk; have : W.drew.heap.size = W.heap.size := rfl; omega))
  with_reducible refine (pair_any da fa db fb (fun k => W.heap.size ≤ k) X2 hva hvb).mono ?_
  rintro z X3 ⟨rfl, hv3, hbl3⟩
  have kX3 : Keep (fun _ => True) W X3 := kWX.trans (Keep.any hbl3)
  have hr3 := kX3.heap trivial hr
  have z1 : X3.cell? ⟨w.heap.size + 1 + 1, 0, none⟩ = some (.int .i64 0) := by simp [World.cell?, hr3]
  have y1 : X3.frozen? ⟨w.heap.size + 1 + 1, 0, none⟩ = false := by simp [World.frozen?, hr3]
  have z2 : X3.cell? ⟨w.heap.size + 1 + 1, 1, none⟩ = some (.int .i32 0) := by simp [World.cell?, hr3]
  have y2 : X3.frozen? ⟨w.heap.size + 1 + 1, 1, none⟩ = false := by simp [World.frozen?, hr3]
  have z3 : X3.cell? ⟨w.heap.size + 1 + 1, 2, none⟩ = some (.bool false) := by simp [World.cell?, hr3]
  have y3 : X3.frozen? ⟨w.heap.size + 1 + 1, 2, none⟩ = false := by simp [World.frozen?, hr3]
  have z4 : X3.cell? ⟨w.heap.size + 1 + 1, 3, none⟩ = some (.slice none 0 0) := by simp [World.cell?, hr3]
  have y4 : X3.frozen? ⟨w.heap.size + 1 + 1, 3, none⟩ = false := by simp [World.frozen?, hr3]
  have z5 : X3.cell? ⟨w.heap.size + 1 + 1, 4, none⟩ = some (.string ⟨#[]⟩) := by simp [World.cell?, hr3]
  have y5 : X3.frozen? ⟨w.heap.size + 1 + 1, 4, none⟩ = false := by simp [World.frozen?, hr3]
  have z6 : X3.cell? ⟨w.heap.size + 1 + 1, 5, none⟩ = some (.slice none 0 0) := by simp [World.cell?, hr3]
  have y6 : X3.frozen? ⟨w.heap.size + 1 + 1, 5, none⟩ = false := by simp [World.frozen?, hr3]
  go_wp2_with fail
  refine hK.out _ _ ((KS _ (kX3.mono (fun _ _ _ => trivial))).out) (fun hH2 => ?_)
  clear hK K hHeld
  have hHeld := hH2
  clear hH2
  try simp only [Act.put, List.setIfInBounds_toArray, List.set_cons_zero, List.set_cons_succ]
  refine wpAnyH_ready (rs := [5]) (by kernel_rfl) (by simp) ?_
  refine AllReadyH.cons rfl (fun K hK => ?_) AllReadyH.nil
  go_simp
  have hkp3 : Keep (fun k => k ≠ w.heap.size + 1 + 1) X3 (((((((X3.setCell ⟨w.heap.size + 1 + 1, 0, none⟩ (.int .i64 7)).setCell ⟨w.heap.size + 1 + 1, 1, none⟩ (.int .i32 0)).setCell ⟨w.heap.size + 1 + 1, 2, none⟩ (.bool false)).setCell ⟨w.heap.size + 1 + 1, 3, none⟩ (.slice none 0 0)).setCell ⟨w.heap.size + 1 + 1, 4, none⟩ (.string ⟨#[]⟩)).setCell ⟨w.heap.size + 1 + 1, 5, none⟩ (.slice (some ⟨X2.heap.size + 1 + 1 + 1, 0, none⟩) 2 2))) := ((((((Keep.refl _ _).setCell (p := ⟨w.heap.size + 1 + 1, 0, none⟩) _ (.inl (by simp))).setCell (p := ⟨w.heap.size + 1 + 1, 1, none⟩) _ (.inl (by simp))).setCell (p := ⟨w.heap.size + 1 + 1, 2, none⟩) _ (.inl (by simp))).setCell (p := ⟨w.heap.size + 1 + 1, 3, none⟩) _ (.inl (by simp))).setCell (p := ⟨w.heap.size + 1 + 1, 4, none⟩) _ (.inl (by simp))).setCell (p := ⟨w.heap.size + 1 + 1, 5, none⟩) _ (.inl (by simp))
  have hsix3 := set_six hr3 (.int .i64 7) (.int .i32 0) (.bool false) (.slice none 0 0) (.string ⟨#[]⟩) (.slice (some ⟨X2.heap.size + 1 + 1 + 1, 0, none⟩) 2 2)
  generalize (((((((X3.setCell ⟨w.heap.size + 1 + 1, 0, none⟩ (.int .i64 7)).setCell ⟨w.heap.size + 1 + 1, 1, none⟩ (.int .i32 0)).setCell ⟨w.heap.size + 1 + 1, 2, none⟩ (.bool false)).setCell ⟨w.heap.size + 1 + 1, 3, none⟩ (.slice none 0 0)).setCell ⟨w.heap.size + 1 + 1, 4, none⟩ (.string ⟨#[]⟩)).setCell ⟨w.heap.size + 1 + 1, 5, none⟩ (.slice (some ⟨X2.heap.size + 1 + 1 + 1, 0, none⟩) 2 2))) = X6 at *
  have kW6 : Keep (fun k => k ≠ w.heap.size + 1 + 1) W X6 := (kX3.mono (fun _ _ _ => trivial)).trans hkp3
  refine hK.out _ _ ((KS _ (kW6.mono (fun k _ (hk : k < w.heap.size + 2) => by omega))).out) (fun hH2 => ?_)
  clear hK K hHeld
  have hHeld := hH2
  clear hH2
  try simp only [Act.put, List.setIfInBounds_toArray, List.set_cons_zero, List.set_cons_succ]
  refine wpAnyH_done (by kernel_rfl) ?_ _
  go_wp2_with fail
  refine bodyPost_ret (results_cell_row rfl _ _ (w.heap.size + 1 + 1) 27 _ (0, 0) _ rfl hsix3 Tryd.underlying27 (by kernel_rfl) (by kernel_rfl)) rfl ?_
  refine ⟨pairD (some ⟨X2.heap.size + 1 + 1 + 1, 0, none⟩), two da fa db fb, rfl, ?_, same_two hsma hsmb, ?_⟩
  · exact ((hv3.mono (G' := fun k => W.heap.size ≤ k) (fun k hk => by rcases hk with hk | hk <;> omega)).keep (hkp3.mono (fun k _ (hk : W.heap.size ≤ k) => by omega))).mono (fun k (hk : W.heap.size ≤ k) => by omega)
  · exact hbW.trans ((kW6.mono (G' := fun k => k < w.heap.size) (fun k _ (hk : k < w.heap.size) => by omega)).below (B := w.heap.size) hsl (fun k hk => hk))
end Go.Proofs.YtkffojipgphneaaDoor
