/- datum.May. -/
import Derived.Test.YtkffojipgphneaaDoorF5
import Derived.Test.YtkffojipgphneaaDoorQ2
import Derived.Shelf.RegionOpen
set_option linter.unusedVariables false
set_option linter.unusedSimpArgs false
namespace Go.Proofs.YtkffojipgphneaaDoor
open Go Go.RowKit Go.Shelf
attribute [local go_sem] Oper.semAt_some
def okE (x : El) : Bool := decide (rch x.d.k x.lvl ≤ 64) && fitsB x.d x.k.len
def okL (l : List El) : Bool := l.all okE
theorem okL_snoc (l : List El) (x : El) : okL (l ++ [x]) = (okL l && okE x) := by simp [okL]
theorem okL_mid (l : List El) (x : El) (r : List El) (h : okE x = false) : okL (l ++ x :: r) = false := by simp [okL, h]
set_option maxRecDepth 100000 in
set_option maxHeartbeats 4000000 in
theorem may_all (d : D) (f : F) (w : World) (h : Val (fun k => k < w.heap.size) w d f) (hT : Lib.Utf8Tabs 0 1 w) (hc : f.cnt ≤ 199000) (z : Bool) (hz : Hid (∀ bx, okL (El.flat ⟨bx, 0, 0, d, f⟩) = z)) :
    Calls Tryd.prog 12 #[.agg #[.int .i64 d.k, .int .i32 d.c, .bool d.neg, .slice d.mA d.mag.length d.mcap, .string d.t, .slice d.lA f.len d.lcap]] w fun e w' => e = .returned (.bool z) ∧ Below w.heap.size w w' := by
  refine (callsIn_wide (n := 0)).1 ?_
  refine callsIn_of_wp_marks Tryd.func12 rfl trivial ?_ rfl
  simp only [Tryd.ntmps12, List.size_toArray, List.length_cons, List.length_nil, Nat.reduceAdd, Nat.reduceSub, Array.replicate_succ, Array.replicate_zero, List.push_toArray, List.append_toArray, List.nil_append, List.cons_append]
  gi_wp2_with fail
  refine ⟨trivial, rfl, ?_⟩
  refine (callsIn_wide.2 (parts_any d f _)).mono ?_
  rintro e W1 ⟨rfl, hW1⟩
  have hb1 : Below w.heap.size w W1 := by rw [← hW1]; exact (((Below.refl _ _).alloc (Nat.le_refl _) _).alloc (by simp) _).alloc (by simp; omega) _
  have hs1 : W1.heap.size = w.heap.size + 3 := by rw [← hW1]; simp
  have bn1 : Boxed W1 (w.heap.size + 1) 4 (.bool false) := by
    rw [← hW1]
    have := Boxed.new (w.alloc (six d f.len)) 4 (.bool false)
    rw [World.size_alloc] at this
    exact this.alloc _
  have hx1 : W1.heap[w.heap.size + 1 + 1]? = some (six d f.len) := by
    rw [← hW1]
    have := heap_alloc_new ((w.alloc (six d f.len)).alloc (.cells #[.bool false] 4)) (six d f.len)
    rw [World.size_alloc, World.size_alloc] at this
    exact this
  have hv1 : Val (fun k => k < w.heap.size) W1 d f := h.keep (Keep.of_below hb1)
  clear hW1
  have hG := parts_give w.heap.size (w.heap.size + 1 + 1) d f W1 hx1 hv1 (by omega) (by omega) (w.heap.size + 5) (by omega)
  have hAT := (hv1.at hx1 0).flat
  have hLV := El.flat_lvl (x := ⟨w.heap.size + 1 + 1, 0, 0, d, f⟩)
  have hZ := hz.out (w.heap.size + 1 + 1)
  have HZ := Lib.hid hZ
  clear hZ hz
  generalize El.flat ⟨w.heap.size + 1 + 1, 0, 0, d, f⟩ = L at *
  simp only [] at hLV
  gi_wp2_with fail
  refine wp_rf (gf := 46) (lb := #[.pointer (some ⟨w.heap.size + 1 + 1, 0, none⟩)]) rfl (enters_of Tryd.func46 (by kernel_rfl) rfl) hG (fun _ => rfl)
    (fun V V' hl h => h.book (by omega) (by omega) hl) (fun _ _ _ => Keep.trans) (fun V o hl => (Keep.refl _ _).putObj _ (.inl (by omega)))
    (fun pre V => Boxed V (w.heap.size + 1) 4 (.bool false) ∧ Keep (fun k => k < w.heap.size ∨ k = w.heap.size + 1 + 1) W1 V ∧ Hid (okL pre = true)) (fun c pre V => c = .ret ∧ Boxed V (w.heap.size + 1) 4 (.bool false) ∧ Keep (fun k => k < w.heap.size ∨ k = w.heap.size + 1 + 1) W1 V ∧ Hid (okL pre = false))
    (fun pre V V' h hr => ⟨hr.heap (by omega) h.1, h.2.1.trans (hr.mono (fun k _ hk => by omega)), h.2.2⟩) (fun c pre V V' h hr => ⟨h.1, hr.heap (by omega) h.2.1, h.2.2.1.trans (hr.mono (fun k _ hk => by omega)), h.2.2.2⟩)
    (fun pre V o r h hl => ⟨((Keep.refl (fun k => k ≠ W1.heap.size + 1) V).putObj o (.inl (by simp))).heap (by omega) h.1, h.2.1.putObj _ (.inl (by omega)), h.2.2⟩) (fun c pre V o r h hl => ⟨h.1, ((Keep.refl (fun k => k ≠ W1.heap.size + 1) V).putObj o (.inl (by simp))).heap (by omega) h.2.1, h.2.2.1.putObj _ (.inl (by omega)), h.2.2.2⟩)
    (fun r => ⟨(bn1.alloc _).alloc _, ((Keep.refl _ _).alloc _).alloc _, Lib.hid rfl⟩)
    (fun x => { tmps := #[.agg #[.int .i64 d.k, .int .i32 d.c, .bool d.neg, .slice d.mA d.mag.length d.mcap, .string d.t, .slice d.lA f.len d.lcap], .pointer (some ⟨w.heap.size, 0, none⟩), .pointer (some ⟨w.heap.size + 1, 0, none⟩), .pointer (some ⟨x.b, x.o, none⟩), .int .i64 x.lvl, .agg #[.int .i64 d.k, .int .i32 d.c, .bool d.neg, .slice d.mA d.mag.length d.mcap, .string d.t, .slice d.lA f.len d.lcap], .func (.func 46) #[] #[.pointer (some ⟨w.heap.size + 1 + 1, 0, none⟩)], .pointer (some ⟨x.b, x.o, none⟩), .int .i64 x.lvl, undef, undef, undef, undef, undef, undef, undef, undef, undef, undef, undef], defers := [] }) ?assign ?body ?done ?stop
  case assign =>
    intro l' x V K hK
    simp only [encX]
    gi_wp2
    first | exact hK | simpa using hK
  case done =>
    rintro V ⟨h1, h2, h3⟩ hD
    have hc1 := h1.cell
    have hf1 := h1.frozen
    have hz : z = true := by rw [← HZ.out, h3.out]
    subst hz
    gi_wp2
    have h1' := h1.set (.bool true)
    refine leaves_marks [W1.heap.size] _ (by simp) (by intro D hD'; simp at hD'; subst hD'; exact ((Keep.refl (fun k => k ≠ w.heap.size + 1) V).setCell (p := ⟨w.heap.size + 1, 0, none⟩) _ (.inl (by simp))).heap (by omega) hD) (fun w' hs hk => ?_)
    have h4 := hk.heap (k := w.heap.size + 1) (by simp; omega) h1'
    have h5 := Boxed.cell h4
    refine ⟨.bool true, by simp [results, Tryd.results12, go_sem, h5], rfl, ?_⟩
    exact hb1.trans ((((h2.setCell (p := ⟨w.heap.size + 1, 0, none⟩) _ (.inl (by simp <;> omega))).trans (hk.mono (fun k hk0 hk1 => by simp; omega))).below (B := w.heap.size) hb1.size (fun k hk => .inl hk)))
  case stop =>
    rintro c pre x rest V hLd ⟨rfl, h1, h2, h3⟩ hD
    have hz : z = false := by
      rw [← HZ.out, hLd, show pre ++ x :: rest = (pre ++ [x]) ++ rest by simp, okL, List.all_append, show (pre ++ [x]).all okE = false from h3.out]
      rfl
    subst hz
    gi_wp2
    refine leaves_marks [W1.heap.size] V (by simp) (by simpa using hD) (fun w' hs hk => ?_)
    have h4 := hk.heap (k := w.heap.size + 1) (by simp; omega) h1
    have h5 := Boxed.cell h4
    refine ⟨.bool false, by simp [results, Tryd.results12, go_sem, h5], rfl, ?_⟩
    exact hb1.trans (((h2.trans (hk.mono (fun k hk0 hk1 => by simp; omega))).below (B := w.heap.size) hb1.size (fun k hk => .inl hk)))
  case body =>
    rintro l' pre x rest V hLd ⟨h1, h2, h3⟩ hBD ⟨r0, hBL⟩
    have hsa : W1.heap.size ≤ w.heap.size + 3 := by omega
    have hsb : w.heap.size + 3 ≤ W1.heap.size := by omega
    clear hs1
    have hc1 := h1.cell
    have hf1 := h1.frozen
    have hxL : x ∈ L := by rw [hLd]; simp
    have hx := hLV x hxL
    have hr := rch_bd x.d.k x.lvl hx.1 (by omega)
    have hXV := (hAT x hxL).keep h2
    have hk1 := hXV.node.k
    have hk2 := hXV.node.c
    have hk3 := hXV.node.neg
    have hk4 := hXV.node.mag
    have hk5 := hXV.node.t
    have hk6 := hXV.node.l
    have HRC := Lib.hid (fun (V' : World) (e : V'.cell? ⟨x.b, x.o, none⟩ = some (.int .i64 x.d.k)) => reach_any x.b x.o x.d.k x.lvl V' e hx.1 (by omega))
    have HFT := Lib.hid (fits_any x.d x.k.len _ V hXV.ok hXV.mag (Utf8Tabs_below hT (hb1.trans (h2.below (B := w.heap.size) hb1.size (fun k hk => .inl hk)))))
    have HSN := Lib.hid (okL_snoc pre x)
    have HXV := Lib.hid hXV
    clear hXV
    have hB1 := (Array.getElem?_eq_some_iff.1 hBL).1
    have HOK := Lib.hid (show okE x = (decide (rch x.d.k x.lvl ≤ 64) && fitsB x.d x.k.len) from rfl)
    generalize rch x.d.k x.lvl = q at *
    generalize fitsB x.d x.k.len = ft at *
    clear hLd
    have hkV : Keep (fun _ => True) V V := Keep.refl _ _
    have HBK := Lib.hid (fun (V' : World) (hk : Keep (fun _ => True) V V') => (show Book W1.heap.size V (V'.setCell ⟨w.heap.size + 1, 0, none⟩ (.bool false)) from (((hk.mono (G' := fun k => k ≠ w.heap.size + 1) (fun _ _ _ => trivial)).setCell (p := ⟨w.heap.size + 1, 0, none⟩) _ (.inl (by simp))).book (by omega) (by omega) hB1)))
    have HBN := Lib.hid (fun (V' : World) (hk : Keep (fun _ => True) V V') => (show Book W1.heap.size V V' from (hk.book trivial trivial hB1)))
    have HKP := Lib.hid (fun (V' : World) (hk : Keep (fun _ => True) V V') => (show Keep (fun k => (k < w.heap.size ∨ k = w.heap.size + 1 + 1) ∨ w.heap.size + 5 ≤ k) V (V'.setCell ⟨w.heap.size + 1, 0, none⟩ (.bool false)) from (hk.mono (fun _ _ _ => trivial)).setCell (p := ⟨w.heap.size + 1, 0, none⟩) _ (.inl (by simp <;> omega))))
    have HK2 := Lib.hid (fun (V' : World) (hk : Keep (fun _ => True) V V') => (show Keep (fun k => k < w.heap.size ∨ k = w.heap.size + 1 + 1) W1 (V'.setCell ⟨w.heap.size + 1, 0, none⟩ (.bool false)) from (h2.trans (hk.mono (fun _ _ _ => trivial))).setCell (p := ⟨w.heap.size + 1, 0, none⟩) _ (.inl (by simp <;> omega))))
    have HB2 := Lib.hid (fun (V' : World) (hk : Keep (fun _ => True) V V') => (show Boxed (V'.setCell ⟨w.heap.size + 1, 0, none⟩ (.bool false)) (w.heap.size + 1) 4 (.bool false) from Boxed.set _ (hk.heap trivial h1)))
    have HFT2 := Lib.hid (fun (P : World → Prop) (h : ∀ w', Below V.heap.size V w' → w'.cell? ⟨w.heap.size + 1, 0, none⟩ = some (.bool false) → w'.frozen? ⟨w.heap.size + 1, 0, none⟩ = false → P w') (w' : World) (hb : Below V.heap.size V w') => h w' hb ((hb.cell h1.lt).trans hc1) ((hb.frozen h1.lt).trans hf1))
    by_cases hq : 64 < q
    · have hne : okE x = false := by rw [HOK.out, decide_eq_false (by omega)]; rfl
      have HNE := Lib.hid (show okL (pre ++ [x]) = false by rw [HSN.out, hne, Bool.and_false])
      clear hne hLV hAT hG
      gi_wp2_with (first
        | (refine ⟨trivial, rfl, ?_⟩; gi_at_call 33; refine (CallsIn.inRound l' (callsIn_wide.2 (HRC.out _ hk1))).mono ?_; rintro e w' ⟨rfl, rfl⟩)
        | (refine ⟨(show Fence.wide.fn 34 from trivial), ?_⟩))
      exact ⟨HBK.out _ hkV, HKP.out _ hkV, rfl, HB2.out _ hkV, HK2.out _ hkV, HNE⟩
    · have hq2 : q ≤ 64 := by omega
      have hok : okE x = ft := by rw [HOK.out, decide_eq_true hq2, Bool.true_and]
      cases ft
      · have HNE := Lib.hid (show okL (pre ++ [x]) = false by rw [HSN.out, hok, Bool.and_false])
        clear hok hLV hAT hG
        gi_wp2_with (first
          | (refine ⟨trivial, rfl, ?_⟩; gi_at_call 33; refine (CallsIn.inRound l' (callsIn_wide.2 (HRC.out _ hk1))).mono ?_; rintro e w' ⟨rfl, rfl⟩)
          | (refine ⟨trivial, rfl, ?_⟩; gi_at_call 34; refine (CallsIn.inRound l' (callsIn_wide.2 HFT.out)).mono ?_; rintro e w2 ⟨rfl, hb⟩; have hc2 := (hb.cell h1.lt).trans hc1; have hf2 := (hb.frozen h1.lt).trans hf1))
        exact ⟨HBK.out _ (Keep.any hb), HKP.out _ (Keep.any hb), rfl, HB2.out _ (Keep.any hb), HK2.out _ (Keep.any hb), HNE⟩
      · have HNE := Lib.hid (show okL (pre ++ [x]) = true by rw [HSN.out, hok, h3.out]; rfl)
        clear hok hLV hAT hG
        gi_wp2_with (first
          | (refine ⟨trivial, rfl, ?_⟩; gi_at_call 33; refine (CallsIn.inRound l' (callsIn_wide.2 (HRC.out _ hk1))).mono ?_; rintro e w' ⟨rfl, rfl⟩)
          | (refine ⟨trivial, rfl, ?_⟩; gi_at_call 34; refine (CallsIn.inRound l' (callsIn_wide.2 HFT.out)).mono ?_; rintro e w2 ⟨rfl, hb⟩; have hc2 := (hb.cell h1.lt).trans hc1; have hf2 := (hb.frozen h1.lt).trans hf1))
        exact ⟨HBN.out _ (Keep.any hb), Keep.any hb, (Keep.any (G := fun _ => True) hb).heap trivial h1, h2.trans (Keep.any hb), HNE⟩
end Go.Proofs.YtkffojipgphneaaDoor
