import Derived.Test.YtocoflojlliapaaDoorB2
set_option linter.unusedVariables false
namespace Go.Proofs.YtocoflojlliapaaDoor
open Go.RowKit
theorem own_ge {w : World} {base e n : Nat} {v : Value} {xs : List Value} (h : w.ownsRow base e 1 v n xs) : ∀ g, v.ownBlock = some g → base ≤ g := by
  intro g hg
  rcases h.2 with ⟨rfl, _⟩ | ⟨g', cap, cur, rfl, hb, _⟩
  · simp [Value.ownBlock] at hg
  · have : g' = g := by simpa [Value.ownBlock] using hg
    omega
/-- behind an append to a row of the call's own, all that was there stands -/
theorem below_own {w w1 w2 : World} {e n : Nat} {v : Value} {xs : List Value} (hb : Below w.heap.size w w1) (h : w1.ownsRow w.heap.size e 1 v n xs) (hg : w1.grownBy w2 v.ownBlock) : Below w.heap.size w w2 :=
  hb.grown hg hb.size (own_ge h)
theorem own_nil {w : World} {base e : Nat} : w.ownsRow base e 1 (.slice none 0 0) 0 [] := World.ownsRow_nil _ _ _ _
/-- a slice value's parts -/
theorem own_slice {w : World} {base e n : Nat} {v : Value} {xs : List Value} (h : w.ownsRow base e 1 v n xs) : ∃ A c, v = .slice A n c := by
  rcases h.2 with ⟨rfl, rfl⟩ | ⟨g', cap, cur, rfl, hb, _⟩
  · exact ⟨_, _, rfl⟩
  · exact ⟨_, _, rfl⟩
theorem own_cap {w : World} {base e n c : Nat} {A : Option Addr} {xs : List Value} (h : w.ownsRow base e 1 (.slice A n c) n xs) : n ≤ c := by
  rcases h.2 with ⟨h0, rfl⟩ | ⟨g', cap, cur, hv, hb, hh, hc, _⟩
  · exact Nat.zero_le _
  · injection hv with _ _ hcap
    omega
theorem run_append_zero (t e : TypeId) (ht : Tryd.prog.underlying t = some (.slice e)) {z : Value} {s b : Nat} (hinfo : (Tryd.prog.info? e).map (fun i => (i.zero, i.size, i.bytes)) = some (some z, s, b))
    (base : Nat) (v : Value) (n : Nat) (xs : List Value) (A : Option Addr) (c : Nat) (w : World) (hown : w.ownsRow base e 1 v n xs) : (Builtin.append_ #[t, t] t #[v, .slice A 0 c]).run Tryd.prog w = .ok v w := by
  obtain ⟨i0, hi, hz0, hz1, hz2⟩ := info_parts hinfo
  rcases hown.2 with ⟨rfl, rfl⟩ | ⟨g, cap, cur, rfl, _, _, hnc, _⟩
  · rcases A with _ | ad <;> simp [Builtin.append_, run_underlying ht, sizeOf, typeInfo, hi, Builtin.lenOf, Builtin.firstCells, loadCells, loadCellsFrom]
  · rcases A with _ | ad <;> simp [Builtin.append_, run_underlying ht, sizeOf, typeInfo, hi, Builtin.lenOf, Builtin.firstCells, loadCells, loadCellsFrom, hnc, storeCells]
theorem app_any {k : IntKind} (t e : TypeId) (bytes : Nat) (ht : Tryd.prog.underlying t = some (.slice e)) (hinfo : (Tryd.prog.info? e).map (fun i => (i.zero, i.size, i.bytes)) = some (some (.int k 0), 1, bytes)) (hby : bytes ≤ 4)
    (w : World) {ops : Array Oper} {rest : List Oper} {o : Oper} {a : Act} {Q : Exit → Act → World → Prop} (hgd : o.guard = none) (s x : Operand)
    (ho : o.op = .call { callee := .builtin .append, args := #[s, x], argTypes := #[t, t] }) (hty : o.type = t) (base : Nat) (v : Value) (n : Nat) (xs : List Nat) (hs : a.eval s = v) (hown : w.ownsRow base e 1 v n (cl k xs))
    (B : Nat) (A : Option Addr) (m c : Nat) (ys : List Nat) (hx : a.eval x = .slice A m c) (hlim : Lim k B w A ys) (hm : Hid (ys.length = m)) (hb : n + m ≤ 17592186044416) (hbase : base ≤ w.heap.size)
    (h : ∀ v' w', w'.ownsRow base e 1 v' (n + m) (cl k (xs ++ ys)) → w.grownBy w' v.ownBlock → wpList Tryd.prog ops Q rest (a.put o.dst v') w') : wpList Tryd.prog ops Q (o :: rest) a w := by
  by_cases hy : ys = []
  · subst hy
    have hm0 : m = 0 := by
      have := hm.out
      simpa using this.symm
    subst hm0
    refine wpList_plain hgd fun _ hK => ?_
    have hrun := run_append_zero t e ht hinfo base v n _ A c w hown
    unfold Oper.wp execOp
    simp only [ho, hty, resolve, invoke, builtin, Sem.run_bind, Sem.run_pure, Result.andThen_ok, List.map_toArray, List.map_cons, List.map_nil, hs, hx, hrun]
    exact hK _ _ (h v w (by simpa using hown) (World.grownBy.refl w _))
  · obtain ⟨ad, rfl, _, _⟩ := hlim hy
    obtain ⟨i0, hi, hz0, hz1, hz2⟩ := info_parts hinfo
    refine wpList_append_own w hgd s x t ho base e i0 _ 1 bytes ht hi hz0 hz1 hz2 rfl (by decide) v n (cl k xs) hs hown ad m c (cl k ys) hx (by rw [cl_len, Nat.mul_one]; exact hm.out) hlim.cells (cl_one _ _) (by unfold maxLen; omega) ?_ hbase ?_
    · have : (n + m) * bytes ≤ 17592186044416 * 4 := Nat.mul_le_mul hb hby
      omega
    · intro v' w' h1 h2 _
      refine h v' w' ?_ h2
      rw [cl_append]
      exact h1
/-- one cell that holds a number, as a slice of one -/
theorem one_lim (k : IntKind) (w : World) (t : TypeId) (x : Nat) : Lim k (w.alloc (.cells #[.int k x] t)).heap.size (w.alloc (.cells #[.int k x] t)) (some ⟨w.heap.size, 0, none⟩) [x] := by
  intro _
  refine ⟨_, rfl, by simp, fun i hi => ?_⟩
  have : i = 0 := by simpa using hi
  subst this
  rw [add_none, Nat.add_zero]
  have := Nums.made w t k [x]
  exact this.at (i := 0) (by simp)
theorem own_mono {w : World} {base base' e n : Nat} {v : Value} {xs : List Value} (h : w.ownsRow base e 1 v n xs) (hb : base' ≤ base) : w.ownsRow base' e 1 v n xs := by
  refine ⟨h.1, ?_⟩
  rcases h.2 with h0 | ⟨g, cap, cur, hv, hg, rest⟩
  · exact .inl h0
  · exact .inr ⟨g, cap, cur, hv, by omega, rest⟩
theorem own_two {w : World} {g e n : Nat} {v a b : Value} {xs : List Value} (h : w.ownsRow (g + 1) e 1 v n xs) : ((w.setCell ⟨g, 0, none⟩ a).setCell ⟨g, 1, none⟩ b).ownsRow g e 1 v n xs :=
  own_mono (ownsRow_setCell_below (ownsRow_setCell_below h (a := ⟨g, 0, none⟩) (Nat.lt_succ_self g) a) (a := ⟨g, 1, none⟩) (Nat.lt_succ_self g) b) (Nat.le_succ g)
/-- a struct of two cells in a block of its own -/
def Two (w : World) (g : Nat) (t : TypeId) (a b : Value) : Prop := w.heap[g]? = some (.cells #[a, b] t (0, 0))
section
variable {w w' : World} {g : Nat} {t : TypeId} {a b : Value}
theorem Two.fst (h : Two w g t a b) : w.cell? ⟨g, 0, none⟩ = some a := cell_of_row w g 0 _ t (0, 0) h
theorem Two.snd (h : Two w g t a b) : w.cell? ⟨g, 1, none⟩ = some b := cell_of_row w g 1 _ t (0, 0) h
theorem Two.free (h : Two w g t a b) (i : Nat) : w.frozen? ⟨g, i, none⟩ = false := by
  unfold Two at h
  simp [World.frozen?, h]
theorem Two.lt (h : Two w g t a b) : g < w.heap.size := by
  rcases Nat.lt_or_ge g w.heap.size with h1 | h1
  · exact h1
  · unfold Two at h
    rw [Array.getElem?_eq_none h1] at h
    cases h
theorem Two.made (w : World) (t : TypeId) (a b : Value) : Two (w.alloc (.cells #[a, b] t)) w.heap.size t a b := heap_alloc_new w _
theorem Two.below {B : Nat} (h : Two w g t a b) (hb : Below B w w') (hg : g < B) : Two w' g t a b := (hb.block g hg).trans h
theorem Two.below' (h : Two w g t a b) (hb : Below w.heap.size w w') : Two w' g t a b := (hb.block g h.lt).trans h
theorem Two.grown {row : Option Nat} (h : Two w g t a b) (hb : w.grownBy w' row) (hg : some g ≠ row) : Two w' g t a b := (hb.block g h.lt hg).trans h
theorem Two.alloc (h : Two w g t a b) (o : Obj) : Two (w.alloc o) g t a b := (Below.heap_alloc w o g h.lt).trans h
theorem Two.drewN (h : Two w g t a b) (n : Nat) : Two (w.drewN n) g t a b := h
end
end Go.Proofs.YtocoflojlliapaaDoor
