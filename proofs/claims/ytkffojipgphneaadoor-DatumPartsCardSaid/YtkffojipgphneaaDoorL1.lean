/- datum.List. -/
import Derived.Test.YtkffojipgphneaaDoorL0
import Derived.Test.YtkffojipgphneaaDoorR2
set_option linter.unusedVariables false
set_option linter.unusedSimpArgs false
namespace Go.Proofs.YtkffojipgphneaaDoor
open Go Go.RowKit Go.Shelf
attribute [local go_sem] Oper.semAt_some
def lstD : F → D
  | .nil => nilD
  | .cons _ _ _ => pairD none
def lstF : F → F
  | .nil => .nil
  | .cons d k r => two d k (lstD r) (lstF r)
/-- The list so far. -/
structure LInv (w W1 : World) (fl : F) (j : Nat) (d' : D) (f' : F) (V : World) : Prop where
  var : V.heap[w.heap.size + 1 + 1]? = some (six d' f'.len)
  val : Val (fun k => W1.heap.size + 2 ≤ k) V d' f'
  same : sameD (lstD (fl.drop j)) (lstF (fl.drop j)) d' f' = true
  keep : Keep (fun k => k < W1.heap.size ∧ k ≠ w.heap.size + 1 + 1) W1 V
theorem cells_of_six {V : World} {b m : Nat} {d : D} (h : V.heap[b]? = some (six d m)) : Node V b 0 d m ∧ ∀ j, V.frozen? ⟨b, j, none⟩ = false := ⟨Node.of_six h, fun j => by unfold six at h; simp [World.frozen?, h]⟩
set_option maxRecDepth 100000 in
set_option maxHeartbeats 4000000 in
theorem list_any (fl : F) (A : Option Addr) (b o c : Nat) (w : World) (hA : Hid (0 < fl.len → A = some ⟨b, o, none⟩)) (h : AtF (fun k => k < w.heap.size) w fl b o) (hc : fl.cnt ≤ 180000) :
    Calls Tryd.prog 25 #[.slice A fl.len c] w fun x w' => ∃ (d' : D) (f' : F), x = .returned (.agg #[.int .i64 d'.k, .int .i32 d'.c, .bool d'.neg, .slice d'.mA d'.mag.length d'.mcap, .string d'.t, .slice d'.lA f'.len d'.lcap]) ∧ Val (fun k => w.heap.size ≤ k) w' d' f' ∧ sameD (lstD fl) (lstF fl) d' f' = true ∧ Below w.heap.size w w' := by
  refine (callsIn_wide (n := 0)).1 ?_
  refine callsIn_of_wp_marks Tryd.func25 rfl trivial ?_ rfl
  simp only [Tryd.ntmps25, List.size_toArray, List.length_cons, List.length_nil, Nat.reduceAdd, Nat.reduceSub, Array.replicate_succ, Array.replicate_zero, List.push_toArray, List.append_toArray, List.nil_append, List.cons_append]
  have hm0 : fl.len ≤ 180000 := by have := F.len_le_cnt fl; omega
  gi_wp2_with fail
  refine ⟨trivial, rfl, ?_⟩
  refine (callsIn_wide.2 (turned_any _ _ _ _)).mono ?_
  rintro e W1 ⟨rfl, hW1⟩
  have hb1 : Below w.heap.size w W1 := by rw [← hW1]; exact ((((Below.refl _ _).alloc (Nat.le_refl _) _).alloc (by simp) _).alloc (by simp <;> omega) _).alloc (by simp <;> omega) _
  have hs1 : W1.heap.size = w.heap.size + 4 := by rw [← hW1]; simp
  have bl1 : Boxed W1 w.heap.size 25 (.slice A fl.len c) := by
    rw [← hW1]
    exact (((Boxed.new w 25 _).alloc _).alloc _).alloc _
  have hr1 : W1.heap[w.heap.size + 1]? = some (.cells #[.int .i64 0, .int .i32 0, .bool false, .slice none 0 0, .string ⟨#[]⟩, .slice none 0 0] 27 (0, 0)) := by
    rw [← hW1]
    have := heap_alloc_new (w.alloc (.cells #[.slice A fl.len c] 25)) (.cells #[.int .i64 0, .int .i32 0, .bool false, .slice none 0 0, .string ⟨#[]⟩, .slice none 0 0] 27)
    rw [World.size_alloc] at this
    exact (Below.heap_alloc _ _ _ (by simp <;> omega)).trans ((Below.heap_alloc _ _ _ (by simp)).trans this)
  have hv1 : W1.heap[w.heap.size + 1 + 1]? = some (six nilD F.nil.len) := by
    rw [← hW1]
    have := heap_alloc_new ((w.alloc (.cells #[.slice A fl.len c] 25)).alloc (.cells #[.int .i64 0, .int .i32 0, .bool false, .slice none 0 0, .string ⟨#[]⟩, .slice none 0 0] 27)) (six nilD F.nil.len)
    rw [World.size_alloc, World.size_alloc] at this
    exact (Below.heap_alloc _ _ _ (by simp)).trans this
  have tb1 : Boxed W1 (w.heap.size + 1 + 1 + 1) 25 (.slice A fl.len c) := by
    rw [← hW1]
    have := Boxed.new (((w.alloc (.cells #[.slice A fl.len c] 25)).alloc (.cells #[.int .i64 0, .int .i32 0, .bool false, .slice none 0 0, .string ⟨#[]⟩, .slice none 0 0] 27)).alloc (six nilD F.nil.len)) 25 (.slice A fl.len c)
    rw [World.size_alloc, World.size_alloc, World.size_alloc] at this
    exact this
  have HS1 := Lib.hid hs1
  have hsa : W1.heap.size ≤ w.heap.size + 4 := by omega
  have hsb : w.heap.size + 4 ≤ W1.heap.size := by omega
  clear hs1 hW1
  have hL0 : ∀ r, LInv w W1 fl fl.len nilD .nil ((W1.alloc (.deferred (some []))).alloc (.loop r)) := fun r =>
    ⟨(((Keep.refl (fun _ => True) W1).alloc _).alloc _).heap trivial hv1, nilD_val _ _, by rw [F.drop_len]; exact sameD_refl _ _, ((Keep.refl _ _).alloc _).alloc _⟩
  gi_wp2_with fail
  refine wp_rf (gf := 59) (lb := #[.pointer (some ⟨w.heap.size + 1 + 1 + 1, 0, none⟩)]) rfl (enters_of Tryd.func59 (by kernel_rfl) rfl) (encs := fun i : Nat => #[.int .i64 i]) (L := down fl.len) (Kp := fun _ _ => True) (Rel := fun V V' => V' = V)
    (fun r => turned1_gives _ _ _ _ _ ((Boxed.alloc (Boxed.alloc tb1 _) _).cell) (by omega)) (fun _ => rfl) (fun V V' _ h => by subst h; exact Book.refl _ _) (fun _ _ _ _ _ => trivial) (fun _ _ _ => trivial)
    (fun pre' V => ∃ j d' f', j + pre'.length = fl.len ∧ LInv w W1 fl j d' f' V) (fun _ _ _ => False)
    (fun pre' V V' h e => by subst e; exact h) (fun _ _ _ _ h _ => h)
    (fun pre' V o r ⟨j, d', f', h1, h2⟩ hl => ⟨j, d', f', h1, ⟨((Keep.refl (fun k => k ≠ W1.heap.size + 1) V).putObj o (.inl (by simp))).heap (by omega) h2.var, h2.val.keep ((Keep.refl _ V).putObj o (.inl (by omega))), h2.same, h2.keep.putObj o (.inl (by omega))⟩⟩)
    (fun _ _ _ _ _ h _ => h)
    (fun r => ⟨fl.len, nilD, .nil, by simp, hL0 r⟩)
    (fun i => { tmps := #[.slice A fl.len c, .pointer (some ⟨w.heap.size, 0, none⟩), .pointer (some ⟨w.heap.size + 1, 0, none⟩), .pointer (some ⟨w.heap.size + 1 + 1, 0, none⟩), .int .i64 (i : Nat), .agg #[.int .i64 0, .int .i32 0, .bool false, .slice none 0 0, .string ⟨#[]⟩, .slice none 0 0], .slice A fl.len c, .func (.func 59) #[] #[.pointer (some ⟨w.heap.size + 1 + 1 + 1, 0, none⟩)], .int .i64 (i : Nat), undef, undef, undef, undef, undef, undef, undef, undef], defers := [] }) ?assign ?body ?done (fun _ _ _ _ _ _ h _ => h.elim)
  case assign =>
    intro l' i V K hK
    gi_wp2
    exact hK
  case done =>
    rintro V ⟨j, d', f', h1, h2⟩ hD
    rw [down_length] at h1
    obtain rfl : j = 0 := by omega
    obtain ⟨⟨n1, n2, n3, n4, n5, n6⟩, _⟩ := cells_of_six h2.var
    simp only [Nat.zero_add] at n1 n2 n3 n4 n5 n6
    have hres : V.heap[w.heap.size + 1]? = some (.cells #[.int .i64 0, .int .i32 0, .bool false, .slice none 0 0, .string ⟨#[]⟩, .slice none 0 0] 27 (0, 0)) := h2.keep.heap ⟨by omega, by omega⟩ hr1
    have z1 : V.cell? ⟨w.heap.size + 1, 0, none⟩ = some (.int .i64 0) := by simp [World.cell?, hres]
    have y1 : V.frozen? ⟨w.heap.size + 1, 0, none⟩ = false := by simp [World.frozen?, hres]
    have z2 : V.cell? ⟨w.heap.size + 1, 1, none⟩ = some (.int .i32 0) := by simp [World.cell?, hres]
    have y2 : V.frozen? ⟨w.heap.size + 1, 1, none⟩ = false := by simp [World.frozen?, hres]
    have z3 : V.cell? ⟨w.heap.size + 1, 2, none⟩ = some (.bool false) := by simp [World.cell?, hres]
    have y3 : V.frozen? ⟨w.heap.size + 1, 2, none⟩ = false := by simp [World.frozen?, hres]
    have z4 : V.cell? ⟨w.heap.size + 1, 3, none⟩ = some (.slice none 0 0) := by simp [World.cell?, hres]
    have y4 : V.frozen? ⟨w.heap.size + 1, 3, none⟩ = false := by simp [World.frozen?, hres]
    have z5 : V.cell? ⟨w.heap.size + 1, 4, none⟩ = some (.string ⟨#[]⟩) := by simp [World.cell?, hres]
    have y5 : V.frozen? ⟨w.heap.size + 1, 4, none⟩ = false := by simp [World.frozen?, hres]
    have z6 : V.cell? ⟨w.heap.size + 1, 5, none⟩ = some (.slice none 0 0) := by simp [World.cell?, hres]
    have y6 : V.frozen? ⟨w.heap.size + 1, 5, none⟩ = false := by simp [World.frozen?, hres]
    have HR := Lib.hid hres
    clear hres
    have H2 := Lib.hid h2
    clear h2
    gi_wp2_with fail
    have hsix := set_six HR.out (.int .i64 d'.k) (.int .i32 d'.c) (.bool d'.neg) (.slice d'.mA d'.mag.length d'.mcap) (.string d'.t) (.slice d'.lA f'.len d'.lcap)
    have hkp : Keep (fun k => k ≠ w.heap.size + 1) V (((((((V.setCell ⟨w.heap.size + 1, 0, none⟩ (.int .i64 d'.k)).setCell ⟨w.heap.size + 1, 1, none⟩ (.int .i32 d'.c)).setCell ⟨w.heap.size + 1, 2, none⟩ (.bool d'.neg)).setCell ⟨w.heap.size + 1, 3, none⟩ (.slice d'.mA d'.mag.length d'.mcap)).setCell ⟨w.heap.size + 1, 4, none⟩ (.string d'.t)).setCell ⟨w.heap.size + 1, 5, none⟩ (.slice d'.lA f'.len d'.lcap))) :=
      ((((((Keep.refl _ _).setCell (p := ⟨w.heap.size + 1, 0, none⟩) _ (.inl (by simp))).setCell (p := ⟨w.heap.size + 1, 1, none⟩) _ (.inl (by simp))).setCell (p := ⟨w.heap.size + 1, 2, none⟩) _ (.inl (by simp))).setCell (p := ⟨w.heap.size + 1, 3, none⟩) _ (.inl (by simp))).setCell (p := ⟨w.heap.size + 1, 4, none⟩) _ (.inl (by simp))).setCell (p := ⟨w.heap.size + 1, 5, none⟩) _ (.inl (by simp))
    clear n1 n2 n3 n4 n5 n6 z1 z2 z3 z4 z5 z6 y1 y2 y3 y4 y5 y6
    generalize (((((((V.setCell ⟨w.heap.size + 1, 0, none⟩ (.int .i64 d'.k)).setCell ⟨w.heap.size + 1, 1, none⟩ (.int .i32 d'.c)).setCell ⟨w.heap.size + 1, 2, none⟩ (.bool d'.neg)).setCell ⟨w.heap.size + 1, 3, none⟩ (.slice d'.mA d'.mag.length d'.mcap)).setCell ⟨w.heap.size + 1, 4, none⟩ (.string d'.t)).setCell ⟨w.heap.size + 1, 5, none⟩ (.slice d'.lA f'.len d'.lcap))) = W6 at *
    have hmk := hkp.heap (by omega : W1.heap.size ≠ w.heap.size + 1) hD
    refine leaves_marks [W1.heap.size] W6 (by simp) (by simpa using hmk) (fun w' hs hk => ⟨_, results_cell_row rfl _ _ (w.heap.size + 1) 27 _ (0, 0) _ rfl (hk.heap (by simp; omega) hsix) Tryd.underlying27 (by kernel_rfl) (by kernel_rfl), ?_⟩)
    have h2 := H2.out
    refine ⟨d', f', rfl, ?_, by have := h2.same; rwa [F.drop_zero] at this, ?_⟩
    · exact ((h2.val.keep (hkp.mono (fun k _ (hk2 : W1.heap.size + 2 ≤ k) => by omega))).keep (hk.mono (fun k _ (hk2 : W1.heap.size + 2 ≤ k) => by simp; omega))).mono (fun k (hk2 : W1.heap.size + 2 ≤ k) => by omega)
    · exact hb1.trans ((((h2.keep.mono (fun k _ (hk2 : k < w.heap.size) => ⟨by omega, by omega⟩)).trans (hkp.mono (fun k _ (hk2 : k < w.heap.size) => by omega))).trans (hk.mono (fun k _ (hk2 : k < w.heap.size) => by simp; omega))).below (B := w.heap.size) hb1.size (fun k hk => hk))
  case body =>
    rintro l' pre' i rest' V hLd ⟨j, d', f', h1, h2⟩ hBD ⟨r0, hBL⟩
    obtain ⟨hi1, hi2⟩ := down_at hLd
    obtain rfl : j = i + 1 := by omega
    have him : i < fl.len := by omega
    have hA1 := hA.out (by omega)
    have hVs : W1.heap.size + 1 < V.heap.size := (Array.getElem?_eq_some_iff.1 hBL).1
    have kold : Keep (fun k => k < w.heap.size) w V := (Keep.of_below hb1).trans (h2.keep.mono (fun k _ hk => ⟨by omega, by omega⟩))
    have hit := (AtF.nth h 0 i him).keep kold
    have bl : V.cell? ⟨w.heap.size, 0, none⟩ = some (.slice (some ⟨b, o, none⟩) fl.len c) := by rw [← hA1]; exact Boxed.cell (h2.keep.heap ⟨by omega, by omega⟩ bl1)
    have ⟨i1, i2, i3, i4, i5, i6⟩ := hit.node
    have hbl : b < w.heap.size := hit.g
    simp only [] at i1 i2 i3 i4 i5 i6
    have hcn : (fl.nthK i).cnt ≤ 190000 := by have := F.nth_cnt fl i him; omega
    have HFR := Lib.hid (fun (V' : World) (hk : Keep (fun k => k < w.heap.size) V V') => fresh_any (fl.nthD i) (fl.nthK i) V' ((hit.val.keep hk).mono (fun k hk2 => Nat.lt_of_lt_of_le hk2 (Nat.le_trans (by omega) hk.size))) hcn)
    have HDR := Lib.hid (F.drop_lt fl i him)
    have H2 := Lib.hid h2
    clear hA1 h2 hLd
    generalize fl.nthD i = di at *
    generalize fl.nthK i = ki at *
    refine wpIn_block ?_
    refine region_round (S := fun X => X.cell? ⟨w.heap.size, 0, none⟩ = some (.slice (some ⟨b, o, none⟩) fl.len c) ∧ X.cell? ⟨b, o + i * 6, none⟩ = some (.int .i64 di.k) ∧ X.cell? ⟨b, o + i * 6 + 1, none⟩ = some (.int .i32 di.c) ∧ X.cell? ⟨b, o + i * 6 + 2, none⟩ = some (.bool di.neg) ∧ X.cell? ⟨b, o + i * 6 + 3, none⟩ = some (.slice di.mA di.mag.length di.mcap) ∧ X.cell? ⟨b, o + i * 6 + 4, none⟩ = some (.string di.t) ∧ X.cell? ⟨b, o + i * 6 + 5, none⟩ = some (.slice di.lA ki.len di.lcap)) (by kernel_rfl) (by kernel_rfl) (fun ⟨_, _, h⟩ => h) ⟨bl, i1, i2, i3, i4, i5, i6⟩ (fun hHeld => ?_)
    refine wpAnyH_take (i := 0) (v := ?_) rfl (by kernel_rfl) (by kernel_rfl) (by kernel_rfl) (fun _ _ _ h => h) (Or.inl ⟨by rfl, ?_⟩) (by assumption) ?_
    rotate_left
    · intro w hSw
      (try dsimp only at hSw)
      go_simp
      all_goals with_reducible rfl
    try simp only [Act.put, List.setIfInBounds_toArray, List.set_cons_zero, List.set_cons_succ]
    refine wpAnyH_take (i := 1) (v := ?_) rfl (by kernel_rfl) (by kernel_rfl) (by kernel_rfl) (fun _ _ _ h => h) (Or.inl ⟨by rfl, ?_⟩) (by assumption) ?_
    rotate_left
    · intro w hSw
      (try dsimp only at hSw)
      go_simp
      all_goals with_reducible rfl
    try simp only [Act.put, List.setIfInBounds_toArray, List.set_cons_zero, List.set_cons_succ]
    refine wpAnyH_take (i := 2) (v := ?_) rfl (by kernel_rfl) (by kernel_rfl) (by kernel_rfl) (fun _ _ _ h => h) (Or.inl ⟨by rfl, ?_⟩) (by assumption) ?_
    rotate_left
    · intro w hSw
      (try dsimp only at hSw)
      go_simp
      all_goals with_reducible rfl
    try simp only [Act.put, List.setIfInBounds_toArray, List.set_cons_zero, List.set_cons_succ]
    refine wpAnyH_take (i := 3) (v := ?_) rfl (by kernel_rfl) (by kernel_rfl) (by kernel_rfl) (fun _ _ _ h => h) (Or.inl ⟨by rfl, ?_⟩) (by assumption) ?_
    rotate_left
    · intro w hSw
      (try dsimp only at hSw)
      go_simp
      all_goals with_reducible rfl
    try simp only [Act.put, List.setIfInBounds_toArray, List.set_cons_zero, List.set_cons_succ]
    refine wpAnyH_ready (rs := [4, 5]) (by kernel_rfl) (by simp) ?_
    refine AllReadyH.cons rfl (fun K hK => ?_) (AllReadyH.cons rfl (fun K hK => ?_) AllReadyH.nil)
    · skip
      go_simp
      go_at_call 45
      with_reducible refine (HFR.out _ (Keep.drew (Keep.refl _ V))).mono ?_
      rintro z V2 ⟨d1, f1, rfl, hl1, hv1', hsm1, hbl1⟩
      clear hl1
      have kV2 : Keep (fun _ => True) V V2 := ((Keep.refl _ V).drew).trans (Keep.any hbl1)
      have var2 : V2.heap[w.heap.size + 1 + 1]? = some (six d' f'.len) := kV2.heap trivial H2.out.var
      have hvd2 := (H2.out.val.keep (kV2.mono (fun _ _ _ => trivial)))
      obtain ⟨⟨n1, n2, n3, n4, n5, n6⟩, _⟩ := cells_of_six var2
      simp only [Nat.zero_add] at n1 n2 n3 n4 n5 n6
      go_wp2_with fail
      refine hK.out _ _ (⟨kV2.cell (p := ⟨w.heap.size, 0, none⟩) trivial hHeld.1, kV2.cell (p := ⟨b, o + i * 6, none⟩) trivial hHeld.2.1, kV2.cell (p := ⟨b, o + i * 6 + 1, none⟩) trivial hHeld.2.2.1, kV2.cell (p := ⟨b, o + i * 6 + 2, none⟩) trivial hHeld.2.2.2.1, kV2.cell (p := ⟨b, o + i * 6 + 3, none⟩) trivial hHeld.2.2.2.2.1, kV2.cell (p := ⟨b, o + i * 6 + 4, none⟩) trivial hHeld.2.2.2.2.2.1, kV2.cell (p := ⟨b, o + i * 6 + 5, none⟩) trivial hHeld.2.2.2.2.2.2⟩) (fun hH2 => ?_)
      clear hK K hHeld
      have hHeld := hH2
      clear hH2
      try simp only [Act.put, List.setIfInBounds_toArray, List.set_cons_zero, List.set_cons_succ]
      refine wpAnyH_ready (rs := [5]) (by kernel_rfl) (by simp) ?_
      refine AllReadyH.cons rfl (fun K hK => ?_) AllReadyH.nil
      go_simp
      refine hK.out _ _ (hHeld) (fun hH2 => ?_)
      clear hK K hHeld
      have hHeld := hH2
      clear hH2
      try simp only [Act.put, List.setIfInBounds_toArray, List.set_cons_zero, List.set_cons_succ]
      refine wpAnyH_ready (rs := [6]) (by kernel_rfl) (by simp) ?_
      refine AllReadyH.cons rfl (fun K hK => ?_) AllReadyH.nil
      go_simp
      go_at_call 44
      have hs12 := kV2.size
      have hv1m : Val (fun k => W1.heap.size + 2 ≤ k) V2 d1 f1 := hv1'.mono (fun k hk => by have hk2 : V.heap.size ≤ k := hk; omega)
      with_reducible refine (pair_any d1 f1 d' f' (fun k => W1.heap.size + 2 ≤ k) V2 hv1m hvd2).mono ?_
      rintro z V3 ⟨rfl, hv3, hbl3⟩
      have kV3 : Keep (fun _ => True) V2 V3 := Keep.any hbl3
      have var3 : V3.heap[w.heap.size + 1 + 1]? = some (six d' f'.len) := kV3.heap trivial var2
      obtain ⟨⟨m1, m2, m3, m4, m5, m6⟩, mf⟩ := cells_of_six var3
      simp only [Nat.zero_add] at m1 m2 m3 m4 m5 m6
      have mf0 := mf 0
      have mf1 := mf 1
      have mf2 := mf 2
      have mf3 := mf 3
      have mf4 := mf 4
      have mf5 := mf 5
      go_wp2_with fail
      refine hK.out _ _ (⟨kV3.cell (p := ⟨w.heap.size, 0, none⟩) trivial hHeld.1, kV3.cell (p := ⟨b, o + i * 6, none⟩) trivial hHeld.2.1, kV3.cell (p := ⟨b, o + i * 6 + 1, none⟩) trivial hHeld.2.2.1, kV3.cell (p := ⟨b, o + i * 6 + 2, none⟩) trivial hHeld.2.2.2.1, kV3.cell (p := ⟨b, o + i * 6 + 3, none⟩) trivial hHeld.2.2.2.2.1, kV3.cell (p := ⟨b, o + i * 6 + 4, none⟩) trivial hHeld.2.2.2.2.2.1, kV3.cell (p := ⟨b, o + i * 6 + 5, none⟩) trivial hHeld.2.2.2.2.2.2⟩) (fun hH2 => ?_)
      clear hK K hHeld
      have hHeld := hH2
      clear hH2
      try simp only [Act.put, List.setIfInBounds_toArray, List.set_cons_zero, List.set_cons_succ]
      refine wpAnyH_ready (rs := [7]) (by kernel_rfl) (by simp) ?_
      refine AllReadyH.cons rfl (fun K hK => ?_) AllReadyH.nil
      go_simp
      have hbb : b ≠ w.heap.size + 1 + 1 := by omega
      have hkp3 : Keep (fun k => k ≠ w.heap.size + 1 + 1) V3 (((((((V3.setCell ⟨w.heap.size + 1 + 1, 0, none⟩ (.int .i64 7)).setCell ⟨w.heap.size + 1 + 1, 1, none⟩ (.int .i32 0)).setCell ⟨w.heap.size + 1 + 1, 2, none⟩ (.bool false)).setCell ⟨w.heap.size + 1 + 1, 3, none⟩ (.slice none 0 0)).setCell ⟨w.heap.size + 1 + 1, 4, none⟩ (.string ⟨#[]⟩)).setCell ⟨w.heap.size + 1 + 1, 5, none⟩ (.slice (some ⟨V2.heap.size + 1 + 1 + 1, 0, none⟩) 2 2))) := ((((((Keep.refl _ _).setCell (p := ⟨w.heap.size + 1 + 1, 0, none⟩) _ (.inl (by simp))).setCell (p := ⟨w.heap.size + 1 + 1, 1, none⟩) _ (.inl (by simp))).setCell (p := ⟨w.heap.size + 1 + 1, 2, none⟩) _ (.inl (by simp))).setCell (p := ⟨w.heap.size + 1 + 1, 3, none⟩) _ (.inl (by simp))).setCell (p := ⟨w.heap.size + 1 + 1, 4, none⟩) _ (.inl (by simp))).setCell (p := ⟨w.heap.size + 1 + 1, 5, none⟩) _ (.inl (by simp))
      have hsix3 := set_six var3 (.int .i64 7) (.int .i32 0) (.bool false) (.slice none 0 0) (.string ⟨#[]⟩) (.slice (some ⟨V2.heap.size + 1 + 1 + 1, 0, none⟩) 2 2)
      generalize (((((((V3.setCell ⟨w.heap.size + 1 + 1, 0, none⟩ (.int .i64 7)).setCell ⟨w.heap.size + 1 + 1, 1, none⟩ (.int .i32 0)).setCell ⟨w.heap.size + 1 + 1, 2, none⟩ (.bool false)).setCell ⟨w.heap.size + 1 + 1, 3, none⟩ (.slice none 0 0)).setCell ⟨w.heap.size + 1 + 1, 4, none⟩ (.string ⟨#[]⟩)).setCell ⟨w.heap.size + 1 + 1, 5, none⟩ (.slice (some ⟨V2.heap.size + 1 + 1 + 1, 0, none⟩) 2 2))) = W6 at *
      refine hK.out _ _ (⟨hkp3.cell (p := ⟨w.heap.size, 0, none⟩) (by show w.heap.size ≠ _; omega) hHeld.1, hkp3.cell (p := ⟨b, o + i * 6, none⟩) hbb hHeld.2.1, hkp3.cell (p := ⟨b, o + i * 6 + 1, none⟩) hbb hHeld.2.2.1, hkp3.cell (p := ⟨b, o + i * 6 + 2, none⟩) hbb hHeld.2.2.2.1, hkp3.cell (p := ⟨b, o + i * 6 + 3, none⟩) hbb hHeld.2.2.2.2.1, hkp3.cell (p := ⟨b, o + i * 6 + 4, none⟩) hbb hHeld.2.2.2.2.2.1, hkp3.cell (p := ⟨b, o + i * 6 + 5, none⟩) hbb hHeld.2.2.2.2.2.2⟩) (fun hH2 => ?_)
      clear hK K hHeld
      have hHeld := hH2
      clear hH2
      try simp only [Act.put, List.setIfInBounds_toArray, List.set_cons_zero, List.set_cons_succ]
      refine wpAnyH_done (by kernel_rfl) ?_ _
      have kVW : Keep (fun k => k ≠ w.heap.size + 1 + 1) V W6 := ((kV2.mono (fun _ _ _ => trivial)).trans (kV3.mono (fun _ _ _ => trivial))).trans hkp3
      refine ⟨kVW.book (by omega) (by omega) hVs, trivial, i, pairD (some ⟨V2.heap.size + 1 + 1 + 1, 0, none⟩), two d1 f1 d' f', by simp; omega, ⟨hsix3, ?_, ?_, ?_⟩⟩
      · exact (hv3.mono (fun k hk => by rcases hk with hk | hk <;> omega)).keep (hkp3.mono (fun k _ (hk : W1.heap.size + 2 ≤ k) => by omega))
      · rw [HDR.out]
        exact same_two hsm1 H2.out.same
      · exact H2.out.keep.trans (kVW.mono (fun k _ hk => hk.2))
    · skip
      have var1 : V.drew.heap[w.heap.size + 1 + 1]? = some (six d' f'.len) := H2.out.var
      obtain ⟨⟨n1, n2, n3, n4, n5, n6⟩, _⟩ := cells_of_six var1
      simp only [Nat.zero_add] at n1 n2 n3 n4 n5 n6
      go_simp
      refine hK.out _ _ (hHeld) (fun hH2 => ?_)
      clear hK K hHeld
      have hHeld := hH2
      clear hH2
      try simp only [Act.put, List.setIfInBounds_toArray, List.set_cons_zero, List.set_cons_succ]
      clear n1 n2 n3 n4 n5 n6
      refine wpAnyH_ready (rs := [4]) (by kernel_rfl) (by simp) ?_
      refine AllReadyH.cons rfl (fun K hK => ?_) AllReadyH.nil
      go_simp
      go_at_call 45
      with_reducible refine (HFR.out _ (Keep.drew (Keep.refl _ V))).mono ?_
      rintro z V2 ⟨d1, f1, rfl, hl1, hv1', hsm1, hbl1⟩
      clear hl1
      have kV2 : Keep (fun _ => True) V V2 := ((Keep.refl _ V).drew).trans (Keep.any hbl1)
      have var2 : V2.heap[w.heap.size + 1 + 1]? = some (six d' f'.len) := kV2.heap trivial H2.out.var
      have hvd2 := (H2.out.val.keep (kV2.mono (fun _ _ _ => trivial)))
      go_wp2_with fail
      refine hK.out _ _ (⟨kV2.cell (p := ⟨w.heap.size, 0, none⟩) trivial hHeld.1, kV2.cell (p := ⟨b, o + i * 6, none⟩) trivial hHeld.2.1, kV2.cell (p := ⟨b, o + i * 6 + 1, none⟩) trivial hHeld.2.2.1, kV2.cell (p := ⟨b, o + i * 6 + 2, none⟩) trivial hHeld.2.2.2.1, kV2.cell (p := ⟨b, o + i * 6 + 3, none⟩) trivial hHeld.2.2.2.2.1, kV2.cell (p := ⟨b, o + i * 6 + 4, none⟩) trivial hHeld.2.2.2.2.2.1, kV2.cell (p := ⟨b, o + i * 6 + 5, none⟩) trivial hHeld.2.2.2.2.2.2⟩) (fun hH2 => ?_)
      clear hK K hHeld
      have hHeld := hH2
      clear hH2
      try simp only [Act.put, List.setIfInBounds_toArray, List.set_cons_zero, List.set_cons_succ]
      refine wpAnyH_ready (rs := [6]) (by kernel_rfl) (by simp) ?_
      refine AllReadyH.cons rfl (fun K hK => ?_) AllReadyH.nil
      go_simp
      go_at_call 44
      have hs12 := kV2.size
      have hv1m : Val (fun k => W1.heap.size + 2 ≤ k) V2 d1 f1 := hv1'.mono (fun k hk => by have hk2 : V.heap.size ≤ k := hk; omega)
      with_reducible refine (pair_any d1 f1 d' f' (fun k => W1.heap.size + 2 ≤ k) V2 hv1m hvd2).mono ?_
      rintro z V3 ⟨rfl, hv3, hbl3⟩
      have kV3 : Keep (fun _ => True) V2 V3 := Keep.any hbl3
      have var3 : V3.heap[w.heap.size + 1 + 1]? = some (six d' f'.len) := kV3.heap trivial var2
      obtain ⟨⟨m1, m2, m3, m4, m5, m6⟩, mf⟩ := cells_of_six var3
      simp only [Nat.zero_add] at m1 m2 m3 m4 m5 m6
      have mf0 := mf 0
      have mf1 := mf 1
      have mf2 := mf 2
      have mf3 := mf 3
      have mf4 := mf 4
      have mf5 := mf 5
      go_wp2_with fail
      refine hK.out _ _ (⟨kV3.cell (p := ⟨w.heap.size, 0, none⟩) trivial hHeld.1, kV3.cell (p := ⟨b, o + i * 6, none⟩) trivial hHeld.2.1, kV3.cell (p := ⟨b, o + i * 6 + 1, none⟩) trivial hHeld.2.2.1, kV3.cell (p := ⟨b, o + i * 6 + 2, none⟩) trivial hHeld.2.2.2.1, kV3.cell (p := ⟨b, o + i * 6 + 3, none⟩) trivial hHeld.2.2.2.2.1, kV3.cell (p := ⟨b, o + i * 6 + 4, none⟩) trivial hHeld.2.2.2.2.2.1, kV3.cell (p := ⟨b, o + i * 6 + 5, none⟩) trivial hHeld.2.2.2.2.2.2⟩) (fun hH2 => ?_)
      clear hK K hHeld
      have hHeld := hH2
      clear hH2
      try simp only [Act.put, List.setIfInBounds_toArray, List.set_cons_zero, List.set_cons_succ]
      refine wpAnyH_ready (rs := [7]) (by kernel_rfl) (by simp) ?_
      refine AllReadyH.cons rfl (fun K hK => ?_) AllReadyH.nil
      go_simp
      have hbb : b ≠ w.heap.size + 1 + 1 := by omega
      have hkp3 : Keep (fun k => k ≠ w.heap.size + 1 + 1) V3 (((((((V3.setCell ⟨w.heap.size + 1 + 1, 0, none⟩ (.int .i64 7)).setCell ⟨w.heap.size + 1 + 1, 1, none⟩ (.int .i32 0)).setCell ⟨w.heap.size + 1 + 1, 2, none⟩ (.bool false)).setCell ⟨w.heap.size + 1 + 1, 3, none⟩ (.slice none 0 0)).setCell ⟨w.heap.size + 1 + 1, 4, none⟩ (.string ⟨#[]⟩)).setCell ⟨w.heap.size + 1 + 1, 5, none⟩ (.slice (some ⟨V2.heap.size + 1 + 1 + 1, 0, none⟩) 2 2))) := ((((((Keep.refl _ _).setCell (p := ⟨w.heap.size + 1 + 1, 0, none⟩) _ (.inl (by simp))).setCell (p := ⟨w.heap.size + 1 + 1, 1, none⟩) _ (.inl (by simp))).setCell (p := ⟨w.heap.size + 1 + 1, 2, none⟩) _ (.inl (by simp))).setCell (p := ⟨w.heap.size + 1 + 1, 3, none⟩) _ (.inl (by simp))).setCell (p := ⟨w.heap.size + 1 + 1, 4, none⟩) _ (.inl (by simp))).setCell (p := ⟨w.heap.size + 1 + 1, 5, none⟩) _ (.inl (by simp))
      have hsix3 := set_six var3 (.int .i64 7) (.int .i32 0) (.bool false) (.slice none 0 0) (.string ⟨#[]⟩) (.slice (some ⟨V2.heap.size + 1 + 1 + 1, 0, none⟩) 2 2)
      generalize (((((((V3.setCell ⟨w.heap.size + 1 + 1, 0, none⟩ (.int .i64 7)).setCell ⟨w.heap.size + 1 + 1, 1, none⟩ (.int .i32 0)).setCell ⟨w.heap.size + 1 + 1, 2, none⟩ (.bool false)).setCell ⟨w.heap.size + 1 + 1, 3, none⟩ (.slice none 0 0)).setCell ⟨w.heap.size + 1 + 1, 4, none⟩ (.string ⟨#[]⟩)).setCell ⟨w.heap.size + 1 + 1, 5, none⟩ (.slice (some ⟨V2.heap.size + 1 + 1 + 1, 0, none⟩) 2 2))) = W6 at *
      refine hK.out _ _ (⟨hkp3.cell (p := ⟨w.heap.size, 0, none⟩) (by show w.heap.size ≠ _; omega) hHeld.1, hkp3.cell (p := ⟨b, o + i * 6, none⟩) hbb hHeld.2.1, hkp3.cell (p := ⟨b, o + i * 6 + 1, none⟩) hbb hHeld.2.2.1, hkp3.cell (p := ⟨b, o + i * 6 + 2, none⟩) hbb hHeld.2.2.2.1, hkp3.cell (p := ⟨b, o + i * 6 + 3, none⟩) hbb hHeld.2.2.2.2.1, hkp3.cell (p := ⟨b, o + i * 6 + 4, none⟩) hbb hHeld.2.2.2.2.2.1, hkp3.cell (p := ⟨b, o + i * 6 + 5, none⟩) hbb hHeld.2.2.2.2.2.2⟩) (fun hH2 => ?_)
      clear hK K hHeld
      have hHeld := hH2
      clear hH2
      try simp only [Act.put, List.setIfInBounds_toArray, List.set_cons_zero, List.set_cons_succ]
      refine wpAnyH_done (by kernel_rfl) ?_ _
      have kVW : Keep (fun k => k ≠ w.heap.size + 1 + 1) V W6 := ((kV2.mono (fun _ _ _ => trivial)).trans (kV3.mono (fun _ _ _ => trivial))).trans hkp3
      refine ⟨kVW.book (by omega) (by omega) hVs, trivial, i, pairD (some ⟨V2.heap.size + 1 + 1 + 1, 0, none⟩), two d1 f1 d' f', by simp; omega, ⟨hsix3, ?_, ?_, ?_⟩⟩
      · exact (hv3.mono (fun k hk => by rcases hk with hk | hk <;> omega)).keep (hkp3.mono (fun k _ (hk : W1.heap.size + 2 ≤ k) => by omega))
      · rw [HDR.out]
        exact same_two hsm1 H2.out.same
      · exact H2.out.keep.trans (kVW.mono (fun k _ hk => hk.2))
end Go.Proofs.YtkffojipgphneaaDoor
