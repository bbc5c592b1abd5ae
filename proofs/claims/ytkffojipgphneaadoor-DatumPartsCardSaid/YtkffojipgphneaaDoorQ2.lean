/- datum.Depth. -/
import Derived.Test.YtkffojipgphneaaDoorQ1
import Derived.Shelf.RegionOpen
set_option linter.unusedVariables false
set_option linter.unusedSimpArgs false
namespace Go.Proofs.YtkffojipgphneaaDoor
open Go Go.RowKit Go.Shelf
attribute [local go_sem] Oper.semAt_some
def mxR (l : List El) : Int := l.foldl (fun m x => max m (rch x.d.k x.lvl)) 0
theorem mxR_nil : mxR [] = 0 := rfl
theorem mxR_snoc (l : List El) (x : El) : mxR (l ++ [x]) = max (mxR l) (rch x.d.k x.lvl) := by simp [mxR]
theorem rch_bd (k lvl : Int) (h0 : 0 ≤ lvl) (h1 : lvl ≤ 200000) : 0 ≤ rch k lvl ∧ rch k lvl ≤ 200001 := by unfold rch; split <;> omega
theorem mxR_bd (l : List El) : (∀ x ∈ l, 0 ≤ x.lvl ∧ x.lvl ≤ 200000) → 0 ≤ mxR l ∧ mxR l ≤ 200001 := by
  have : ∀ (l : List El) (m : Int), 0 ≤ m → m ≤ 200001 → (∀ x ∈ l, 0 ≤ x.lvl ∧ x.lvl ≤ 200000) → 0 ≤ l.foldl (fun m x => max m (rch x.d.k x.lvl)) m ∧ l.foldl (fun m x => max m (rch x.d.k x.lvl)) m ≤ 200001 := by
    intro l
    induction l with
    | nil => exact fun m h0 h1 _ => ⟨h0, h1⟩
    | cons x l ih =>
      intro m h0 h1 h
      have hx := h x (by simp)
      have := rch_bd x.d.k x.lvl hx.1 hx.2
      simp only [List.foldl_cons]
      exact ih _ (by omega) (by omega) (fun y hy => h y (by simp [hy]))
  exact this l 0 (by omega) (by omega)
set_option maxRecDepth 100000 in
set_option maxHeartbeats 4000000 in
theorem depth_any (d : D) (f : F) (w : World) (h : Val (fun k => k < w.heap.size) w d f) (hc : f.cnt ≤ 199000) (z : Int) (hz : Hid (∀ bx, mxR (El.flat ⟨bx, 0, 0, d, f⟩) = z)) :
    Calls Tryd.prog 14 #[.agg #[.int .i64 d.k, .int .i32 d.c, .bool d.neg, .slice d.mA d.mag.length d.mcap, .string d.t, .slice d.lA f.len d.lcap]] w fun e w' => e = .returned (.int .i64 z) ∧ Below w.heap.size w w' := by
  refine (callsIn_wide (n := 0)).1 ?_
  refine callsIn_of_wp_marks Tryd.func14 rfl trivial ?_ rfl
  simp only [Tryd.ntmps14, List.size_toArray, List.length_cons, List.length_nil, Nat.reduceAdd, Nat.reduceSub, Array.replicate_succ, Array.replicate_zero, List.push_toArray, List.append_toArray, List.nil_append, List.cons_append]
  gi_wp2_with fail
  refine ⟨trivial, rfl, ?_⟩
  refine (callsIn_wide.2 (parts_any d f _)).mono ?_
  rintro e W1 ⟨rfl, hW1⟩
  have hb1 : Below w.heap.size w W1 := by rw [← hW1]; exact (((Below.refl _ _).alloc (Nat.le_refl _) _).alloc (by simp) _).alloc (by simp; omega) _
  have hs1 : W1.heap.size = w.heap.size + 3 := by rw [← hW1]; simp
  have bn1 : Boxed W1 (w.heap.size + 1) 3 (.int .i64 0) := by
    rw [← hW1]
    have := Boxed.new (w.alloc (six d f.len)) 3 (.int .i64 0)
    rw [World.size_alloc] at this
    exact this.alloc _
  have hx1 : W1.heap[w.heap.size + 1 + 1]? = some (six d f.len) := by
    rw [← hW1]
    have := heap_alloc_new ((w.alloc (six d f.len)).alloc (.cells #[.int .i64 0] 3)) (six d f.len)
    rw [World.size_alloc, World.size_alloc] at this
    exact this
  have hv1 : Val (fun k => k < w.heap.size) W1 d f := h.keep (Keep.of_below hb1)
  clear hW1
  have hG := parts_give w.heap.size (w.heap.size + 1 + 1) d f W1 hx1 hv1 (by omega) (by omega) (w.heap.size + 5) (by omega)
  have hAT := (hv1.at hx1 0).flat
  have hLV := El.flat_lvl (x := ⟨w.heap.size + 1 + 1, 0, 0, d, f⟩)
  have hZ := hz.out (w.heap.size + 1 + 1)
  have HZ := Lib.hid hZ
  clear hZ hz
  generalize El.flat ⟨w.heap.size + 1 + 1, 0, 0, d, f⟩ = L at *
  simp only [] at hLV
  gi_wp2_with fail
  refine wp_rf (gf := 46) (lb := #[.pointer (some ⟨w.heap.size + 1 + 1, 0, none⟩)]) rfl (enters_of Tryd.func46 (by kernel_rfl) rfl) hG (fun _ => rfl)
    (fun V V' hl h => h.book (by omega) (by omega) hl) (fun _ _ _ => Keep.trans) (fun V o hl => (Keep.refl _ _).putObj _ (.inl (by omega)))
    (fun pre V => Boxed V (w.heap.size + 1) 3 (.int .i64 (mxR pre)) ∧ Keep (fun k => k < w.heap.size ∨ k = w.heap.size + 1 + 1) W1 V) (fun _ _ _ => False)
    (fun pre V V' h hr => ⟨hr.heap (by omega) h.1, h.2.trans (hr.mono (fun k _ hk => by omega))⟩) (fun _ _ _ _ h _ => h)
    (fun pre V o r h hl => ⟨((Keep.refl (fun k => k ≠ W1.heap.size + 1) V).putObj o (.inl (by simp))).heap (by omega) h.1, h.2.putObj _ (.inl (by omega))⟩) (fun _ _ _ _ _ h _ => h)
    (fun r => ⟨(bn1.alloc _).alloc _, ((Keep.refl _ _).alloc _).alloc _⟩)
    (fun x => { tmps := #[.agg #[.int .i64 d.k, .int .i32 d.c, .bool d.neg, .slice d.mA d.mag.length d.mcap, .string d.t, .slice d.lA f.len d.lcap], .pointer (some ⟨w.heap.size, 0, none⟩), .int .i64 0, .pointer (some ⟨w.heap.size + 1, 0, none⟩), .pointer (some ⟨x.b, x.o, none⟩), .int .i64 x.lvl, .agg #[.int .i64 d.k, .int .i32 d.c, .bool d.neg, .slice d.mA d.mag.length d.mcap, .string d.t, .slice d.lA f.len d.lcap], .func (.func 46) #[] #[.pointer (some ⟨w.heap.size + 1 + 1, 0, none⟩)], .pointer (some ⟨x.b, x.o, none⟩), .int .i64 x.lvl, undef, undef, undef, undef, undef, undef], defers := [] }) ?assign ?body ?done (fun _ _ _ _ _ _ h _ => h.elim)
  case assign =>
    intro l' x V K hK
    simp only [encX]
    gi_wp2
    first | exact hK | simpa using hK
  case done =>
    rintro V ⟨h1, h2⟩ hD
    have hc1 := h1.cell
    gi_wp2
    refine leaves_marks [W1.heap.size] V (by simp) (by simpa using hD) (fun w' hs hk => ⟨_, results_tmp rfl _ _ _, ?_, ?_⟩)
    · rw [HZ.out]
      rfl
    · exact hb1.trans (((h2.trans (hk.mono (fun k hk0 hk1 => by simp; omega))).below (B := w.heap.size) hb1.size (fun k hk => .inl hk)))
  case body =>
    rintro l' pre x rest V hLd ⟨h1, h2⟩ hBD ⟨r0, hBL⟩
    have hsa : W1.heap.size ≤ w.heap.size + 3 := by omega
    have hsb : w.heap.size + 3 ≤ W1.heap.size := by omega
    clear hs1
    have hc1 := h1.cell
    have hf1 := h1.frozen
    have hxL : x ∈ L := by rw [hLd]; simp
    have hx := hLV x hxL
    have hp := mxR_bd pre (fun y hy => by have := hLV y (by rw [hLd]; simp [hy]); omega)
    have hr := rch_bd x.d.k x.lvl hx.1 (by omega)
    have hk1 := ((hAT x hxL).keep h2).node.k
    have HRC := Lib.hid (fun (V' : World) (e : V'.cell? ⟨x.b, x.o, none⟩ = some (.int .i64 x.d.k)) => reach_any x.b x.o x.d.k x.lvl V' e hx.1 (by omega))
    have HSN := Lib.hid (mxR_snoc pre x)
    have hB1 := (Array.getElem?_eq_some_iff.1 hBL).1
    generalize rch x.d.k x.lvl = q at *
    generalize mxR pre = p at *
    clear hLd
    gi_wp2_with fail
    have hmo : Tryd.prog.follows .mixedOrders = true := by kernel_rfl
    gi_region_with_o (refine ⟨trivial, rfl, ?_⟩; gi_at_call 33; refine (CallsIn.inRound l' (callsIn_wide.2 (HRC.out V.drew hk1))).mono ?_; rintro e w' ⟨rfl, rfl⟩)
    all_goals gi_wp2
    all_goals
      refine ⟨(((Keep.refl (fun k => k ≠ w.heap.size + 1) V).setCell (p := ⟨w.heap.size + 1, 0, none⟩) _ (.inl (by simp))).drew).book (by omega) (by omega) hB1, ((Keep.refl _ _).setCell (p := ⟨w.heap.size + 1, 0, none⟩) _ (.inl (by simp <;> omega))).drew, ?_, (h2.setCell (p := ⟨w.heap.size + 1, 0, none⟩) _ (.inl (by simp <;> omega))).drew⟩
      rw [HSN.out]
      first
        | (rw [show max p q = q by omega]; exact h1.set _)
        | (rw [show max p q = p by omega]; exact h1.set _)
end Go.Proofs.YtkffojipgphneaaDoor
