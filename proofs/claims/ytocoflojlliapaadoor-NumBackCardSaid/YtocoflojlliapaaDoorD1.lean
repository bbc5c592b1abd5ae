import Derived.Test.YtocoflojlliapaaDoorC0
import Derived.Test.YtocoflojlliapaaDoorShelf
import Derived.Lib.Strings
import Derived.Lib.Builder
import Derived.Lib.AppendStr
import Derived.Lib.UnsafeStr
import Derived.Laws.Externs
set_option linter.unusedVariables false
namespace Go.Proofs.YtocoflojlliapaaDoor
open Go.RowKit
theorem builder_info : (Tryd.prog.info? 85).map (fun i => i.size) = some 2 := by kernel_rfl
theorem builder_lies : liesAt Tryd.prog Tryd.prog.depth 85 (2 / Tryd.prog.cellsOf 85) 0 85 1 = true := by kernel_rfl
set_option maxHeartbeats 1000000 in
set_option maxRecDepth 100000 in
theorem copyCheck_used (b : Nat) (w : World) (h0 : w.cell? ⟨b, 0, none⟩ = some (.pointer (some ⟨b, 0, none⟩))) :
    Calls Tryd.prog 84 #[.pointer (some ⟨b, 0, none⟩)] w fun e w' => e = .returned (.tuple #[]) ∧ w = w' := by
  obtain ⟨j, hj, _⟩ := Option.map_eq_some_iff.1 builder_info
  go_enter Tryd.func84, Tryd.ntmps84
  go_wp2
  rw [Lib.run_neq_ptr_same w _ Tryd.underlying83 hj]
  go_wp2
  go_end0
  exact ⟨rfl, rfl⟩
set_option maxHeartbeats 1000000 in
set_option maxRecDepth 100000 in
theorem copyCheck_fresh (b : Nat) (w : World) (h0 : w.cell? ⟨b, 0, none⟩ = some (.pointer none)) (hsh : w.shape? b = some (85, 2)) (hfz : w.frozen? ⟨b, 0, none⟩ = false) :
    Calls Tryd.prog 84 #[.pointer (some ⟨b, 0, none⟩)] w fun e w' => e = .returned (.tuple #[]) ∧ w.setCell ⟨b, 0, none⟩ (.pointer (some ⟨b, 0, none⟩)) = w' := by
  obtain ⟨j, hj, hjs⟩ := Option.map_eq_some_iff.1 builder_info
  have HJ := Lib.hid hj
  clear hj
  go_enter Tryd.func84, Tryd.ntmps84
  go_wp2
  rw [Lib.run_to_unsafe w ⟨b, 0, none⟩ Tryd.underlying83 Tryd.underlying112 HJ.out (by rw [hjs]; decide) hsh (Nat.zero_lt_succ 1)]
  simp only [Result.andThen]
  rw [Oper.upon_value]
  go_wp2
  rw [run_callFunc_extern Tryd.func96 (by kernel_rfl) (by kernel_rfl) (by kernel_rfl) (e := Extern.AbiNoEscape.same) (by kernel_rfl)]
  rw [Lib.run_noEscape]
  simp only [Result.andThen]
  rw [Oper.upon_value]
  go_wp2
  rw [Lib.run_from_unsafe w ⟨b, 0, none⟩ Tryd.underlying112 Tryd.underlying83 HJ.out hsh builder_lies]
  simp only [Result.andThen]
  rw [Oper.upon_value]
  go_wp2
  go_end0
  exact ⟨rfl, rfl⟩
/-- the builder at block b that this call has made holds the bytes l -/
def Bld (B b : Nat) (l : List UInt8) (w : World) : Prop := Lib.IsBuilder 85 5 B b (Lib.byteCells l) w
/-- all blocks but the builder's and rows of bytes stand -/
def Stand (b : Nat) (w w' : World) : Prop := ∀ k cs t fr, k ≠ b → t ≠ 5 → w.heap[k]? = some (.cells cs t fr) → w'.heap[k]? = some (.cells cs t fr)
theorem Stand.refl (b : Nat) (w : World) : Stand b w w := fun _ _ _ _ _ _ h => h
theorem Stand.trans {b : Nat} {w w1 w2 : World} (h : Stand b w w1) (k : Stand b w1 w2) : Stand b w w2 := fun i cs t fr h1 h2 h3 => k i cs t fr h1 h2 (h i cs t fr h1 h2 h3)
theorem Stand.below {b : Nat} {w w1 : World} (h : Below w.heap.size w w1) : Stand b w w1 := fun i cs t fr _ _ h3 => by
  have hl : i < w.heap.size := by
    rcases Nat.lt_or_ge i w.heap.size with h1 | h1
    · exact h1
    · rw [Array.getElem?_eq_none h1] at h3
      cases h3
  exact (h.block i hl).trans h3
theorem Stand.nums {b g : Nat} {k : IntKind} {t : TypeId} {w w1 : World} {xs : List Nat} (h : Stand b w w1) (hn : Nums k t w g xs) (hg : g ≠ b) (ht : t ≠ 5) : Nums k t w1 g xs := h g _ t _ hg ht hn
theorem bytes_cl (l : List UInt8) : Lib.byteCells l = cl .u8 (l.map UInt8.toNat) := by simp [Lib.byteCells, cl, nv]
theorem copyCheck_any (B b : Nat) (l : List UInt8) (w : World) (h : Bld B b l w) :
    Calls Tryd.prog 84 #[.pointer (some ⟨b, 0, none⟩)] w fun e w' => e = .returned (.tuple #[]) ∧ Lib.BuilderAt 85 5 B b (.pointer (some ⟨b, 0, none⟩)) (Lib.byteCells l) w' ∧ Below B w w' ∧ Stand b w w' ∧ w.heap.size = w'.heap.size := by
  rcases h with h | h
  · refine (copyCheck_fresh b w h.cell0 h.shape h.frozen0).mono ?_
    rintro e w' ⟨rfl, rfl⟩
    exact ⟨rfl, h.used _, (Below.refl B w).setCell (p := ⟨b, 0, none⟩) h.1 _, fun i cs t fr h1 _ h3 => (Below.heap_setCell w ⟨b, 0, none⟩ _ i h1).trans h3, by simp⟩
  · refine (copyCheck_used b w h.cell0).mono ?_
    rintro e w' ⟨rfl, rfl⟩
    exact ⟨rfl, h, Below.refl B _, Stand.refl _ _, rfl⟩
set_option maxHeartbeats 2000000 in
set_option maxRecDepth 100000 in
theorem writeByte_any (B b : Nat) (l : List UInt8) (c : UInt8) (w : World) (h : Bld B b l w) (hlen : l.length ≤ 1000000) (hBw : B ≤ w.heap.size) :
    Calls Tryd.prog 67 #[.pointer (some ⟨b, 0, none⟩), .int .u8 c.toNat] w fun e w' => e = .returned .nilIface ∧ Bld B b (l ++ [c]) w' ∧ Below B w w' ∧ Stand b w w' ∧ w.heap.size ≤ w'.heap.size := by
  go_enter Tryd.func67, Tryd.ntmps67
  go_wp2_with (go_at_call 84; refine (copyCheck_any B b l _ h).mono ?_; rintro e w1 ⟨rfl, h1, hb1, hs1, hz1⟩; refine Hid.out ?_)
  refine Lib.hid ?_
  obtain ⟨hB, v, hbk, hown, hne⟩ := h1
  have c0 : w1.cell? ⟨b, 0, none⟩ = some (.pointer (some ⟨b, 0, none⟩)) := by rw [Lib.cell_of_heap hbk]; rfl
  have c1 : w1.cell? ⟨b, 1, none⟩ = some v := by rw [Lib.cell_of_heap hbk]; rfl
  have hBw1 : B ≤ w1.heap.size := by omega
  have hlt : b < w1.heap.size := by
    rcases Nat.lt_or_ge b w1.heap.size with h' | h'
    · exact h'
    · simp [Array.getElem?_eq_none h'] at hbk
  have hbk2 := (Below.heap_alloc w1 (.cells #[.int .u8 c.toNat] 5) b hlt).trans hbk
  have HBK := Lib.hid hbk2
  have HOWN := Lib.hid hown
  clear hbk hbk2 hown
  have hcells : Lib.byteCells l = cl .u8 (l.map UInt8.toNat) := by simp [Lib.byteCells, cl, nv]
  have HC := Lib.hid hcells
  clear hcells
  have hown2 : w1.ownsRow B 5 1 v l.length (cl .u8 (l.map UInt8.toNat)) := by
    rw [← HC.out]
    have := HOWN.out
    simpa [Lib.byteCells] using this
  go_wp2_with (at_builtin; refine app_any (k := .u8) 28 5 1 Tryd.underlying28 u8_info (by decide) _ rfl _ _ rfl rfl B v l.length _ rfl (hown2.alloc _) _ (some ⟨w1.heap.size, 0, none⟩) 1 1 [c.toNat] rfl (one_lim .u8 w1 5 c.toNat) (Lib.hid rfl) (by omega) (by simp; omega) ?_; intro v' w2 hown' hgrow; refine Hid.out ?_)
  refine Lib.hid ?_
  have hb2 : w2.heap[b]? = some (.cells #[.pointer (some ⟨b, 0, none⟩), v] 85 (0, 0)) := by
    rw [hgrow.block b (by simp; omega) (fun e => hne e.symm)]
    exact HBK.out
  have d0 : w2.cell? ⟨b, 0, none⟩ = some (.pointer (some ⟨b, 0, none⟩)) := by rw [Lib.cell_of_heap hb2]; rfl
  have d1 : w2.cell? ⟨b, 1, none⟩ = some v := by rw [Lib.cell_of_heap hb2]; rfl
  have f1 : w2.frozen? ⟨b, 1, none⟩ = false := Lib.frozen_of_heap hb2 1
  have HB2 := Lib.hid hb2
  clear hb2
  obtain ⟨A', c', rfl⟩ := own_slice hown'
  have HOWN2 := Lib.hid hown'
  have HGR := Lib.hid hgrow
  clear hown' hgrow
  go_wp2
  go_ret
  have hsz := HGR.out.size
  simp at hsz
  refine ⟨rfl, .inr ?_, ?_, ?_, by simp; omega⟩
  · refine Lib.BuilderAt.put (T := 85) (e := 5) hB HB2.out (bs' := Lib.byteCells (l ++ [c])) ?_ (by decide)
    have hg : Lib.byteCells (l ++ [c]) = cl .u8 (l.map UInt8.toNat ++ [c.toNat]) := by rw [bytes_cl]; simp
    have hl : (cl .u8 (l.map UInt8.toNat ++ [c.toNat])).length = l.length + 1 := by rw [cl_len]; simp
    rw [hg, hl]
    exact HOWN2.out
  · exact ((hb1.alloc hBw1 _).grown HGR.out (by simp; omega) (own_ge hown2)).setCell (p := ⟨b, 1, none⟩) hB _
  · refine hs1.trans fun i cs t fr h1 h2 h3 => ?_
    have hi : i < w1.heap.size := by
      rcases Nat.lt_or_ge i w1.heap.size with h' | h'
      · exact h'
      · rw [Array.getElem?_eq_none h'] at h3
        cases h3
    have hni : some i ≠ v.ownBlock := by
      intro e
      rcases hown2.2 with ⟨rfl, _⟩ | ⟨g, cap, cur, rfl, _, hg, _⟩
      · simp [Value.ownBlock] at e
      · have : i = g := by simpa [Value.ownBlock] using e
        subst this
        rw [hg] at h3
        injection h3 with h3
        injection h3 with _ h4
        exact h2 h4.symm
    exact (Below.heap_setCell w2 ⟨b, 1, none⟩ _ i h1).trans ((HGR.out.block i (by simp; omega) hni).trans ((Below.heap_alloc w1 _ i hi).trans h3))
theorem app_str (w : World) {ops : Array Oper} {rest : List Oper} {o : Oper} {a : Act} {Q : Exit → Act → World → Prop} (hgd : o.guard = none) (sl x : Operand)
    (ho : o.op = .call { callee := .builtin .append, args := #[sl, x], argTypes := #[28, 9] }) (base : Nat) (v : Value) (n : Nat) (xs : List Value) (hs : a.eval sl = v) (hown : w.ownsRow base 5 1 v n xs) (m : List UInt8) (hx : a.eval x = .string ⟨m.toArray⟩)
    (hb : n + m.length ≤ 140737488355328) (hbase : base ≤ w.heap.size)
    (h : ∀ v' w', w'.ownsRow base 5 1 v' (n + m.length) (xs ++ Lib.byteCells m) → w.grownBy w' v.ownBlock → wpList Tryd.prog ops Q rest (a.put o.dst v') w') : wpList Tryd.prog ops Q (o :: rest) a w := by
  obtain ⟨i0, hi, hz0, hz1, hz2⟩ := info_parts u8_info
  have hsz : (⟨m.toArray⟩ : ByteArray).size = m.length := by simp [ByteArray.size]
  refine Lib.wpList_append_own_string w hgd sl x 28 9 ho base 5 i0 Tryd.underlying28 Tryd.underlying9 hi hz0 hz1 hz2 v n xs hs hown _ hx (by rw [hsz]; unfold maxLen; omega) (by rw [hsz]; exact hb) hbase ?_
  intro v' w' h1 h2 _
  rw [hsz] at h1
  exact h v' w' (by simpa [Lib.strCells, Lib.byteCells] using h1) h2
set_option maxHeartbeats 2000000 in
set_option maxRecDepth 100000 in
theorem writeString_any (B b : Nat) (l m : List UInt8) (w : World) (h : Bld B b l w) (hlen : l.length ≤ 1000000) (hm : m.length ≤ 1000000) (hBw : B ≤ w.heap.size) :
    Calls Tryd.prog 70 #[.pointer (some ⟨b, 0, none⟩), .string ⟨m.toArray⟩] w fun e w' => e = .returned (.tuple #[.int .i64 m.length, .nilIface]) ∧ Bld B b (l ++ m) w' ∧ Below B w w' ∧ Stand b w w' ∧ w.heap.size ≤ w'.heap.size := by
  go_enter Tryd.func70, Tryd.ntmps70
  go_wp2_with (go_at_call 84; refine (copyCheck_any B b l _ h).mono ?_; rintro e w1 ⟨rfl, h1, hb1, hs1, hz1⟩; refine Hid.out ?_)
  refine Lib.hid ?_
  obtain ⟨hB, v, hbk, hown, hne⟩ := h1
  have c0 : w1.cell? ⟨b, 0, none⟩ = some (.pointer (some ⟨b, 0, none⟩)) := by rw [Lib.cell_of_heap hbk]; rfl
  have c1 : w1.cell? ⟨b, 1, none⟩ = some v := by rw [Lib.cell_of_heap hbk]; rfl
  have hBw1 : B ≤ w1.heap.size := by omega
  have hlt : b < w1.heap.size := by
    rcases Nat.lt_or_ge b w1.heap.size with h' | h'
    · exact h'
    · simp [Array.getElem?_eq_none h'] at hbk
  have HBK := Lib.hid hbk
  have HOWN := Lib.hid hown
  clear hbk hown
  have hms : (⟨m.toArray⟩ : ByteArray).size = m.length := by simp [ByteArray.size]
  go_wp2_with (at_builtin; refine app_str _ rfl _ _ rfl B v (Lib.byteCells l).length _ rfl HOWN.out m rfl (by simp [Lib.byteCells]; omega) hBw1 ?_; intro v' w2 hown' hgrow; refine Hid.out ?_)
  refine Lib.hid ?_
  have hb2 : w2.heap[b]? = some (.cells #[.pointer (some ⟨b, 0, none⟩), v] 85 (0, 0)) := by
    rw [hgrow.block b hlt (fun e => hne e.symm)]
    exact HBK.out
  have d0 : w2.cell? ⟨b, 0, none⟩ = some (.pointer (some ⟨b, 0, none⟩)) := by rw [Lib.cell_of_heap hb2]; rfl
  have d1 : w2.cell? ⟨b, 1, none⟩ = some v := by rw [Lib.cell_of_heap hb2]; rfl
  have f1 : w2.frozen? ⟨b, 1, none⟩ = false := Lib.frozen_of_heap hb2 1
  have HB2 := Lib.hid hb2
  clear hb2
  obtain ⟨A', c', rfl⟩ := own_slice hown'
  have HOWN2 := Lib.hid hown'
  have HGR := Lib.hid hgrow
  clear hown' hgrow
  go_wp2
  go_ret2
  have hsz := HGR.out.size
  refine ⟨rfl, .inr ?_, ?_, ?_, by simp; omega⟩
  · refine Lib.BuilderAt.put (T := 85) (e := 5) hB HB2.out (bs' := Lib.byteCells (l ++ m)) ?_ (by decide)
    have hl : (Lib.byteCells (l ++ m)).length = (Lib.byteCells l).length + m.length := by simp [Lib.byteCells]
    rw [hl, Lib.byteCells_append]
    exact HOWN2.out
  · exact (hb1.grown HGR.out hBw1 (own_ge HOWN.out)).setCell (p := ⟨b, 1, none⟩) hB _
  · refine hs1.trans fun i cs t fr h1 h2 h3 => ?_
    have hi : i < w1.heap.size := by
      rcases Nat.lt_or_ge i w1.heap.size with h' | h'
      · exact h'
      · rw [Array.getElem?_eq_none h'] at h3
        cases h3
    have hni : some i ≠ v.ownBlock := by
      intro e
      rcases HOWN.out.2 with ⟨rfl, _⟩ | ⟨g, cap, cur, rfl, _, hg, _⟩
      · simp [Value.ownBlock] at e
      · have : i = g := by simpa [Value.ownBlock] using e
        subst this
        rw [hg] at h3
        injection h3 with h3
        injection h3 with _ h4
        exact h2 h4.symm
    exact (Below.heap_setCell w2 ⟨b, 1, none⟩ _ i h1).trans ((HGR.out.block i hi hni).trans h3)
end Go.Proofs.YtocoflojlliapaaDoor
