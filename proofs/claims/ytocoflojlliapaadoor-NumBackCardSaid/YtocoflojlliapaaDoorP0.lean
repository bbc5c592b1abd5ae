import Derived.Below
import Derived.Laws.OwnMore
import Derived.Deep.AppendLies
import Derived.Deep.Draws
import Derived.Laws.Rows
import Derived.Maps.AppendAt
import Derived.RegionTactic
import Derived.OwnWalk
import Derived.Deep.QuietTactic
import Derived.Test.YtocoflojlliapaaDoorM3
set_option linter.unusedVariables false
namespace Go.Proofs.YtocoflojlliapaaDoor
open Go.RowKit
theorem below_drewN {B : Nat} {a w : World} (h : Below B a w) (n : Nat) : Below B a (w.drewN n) := ⟨h.os, h.tape, h.output, h.size, h.block⟩
theorem below_then {w w1 w2 : World} (h : Below w.heap.size w w1) (k : Below w1.heap.size w1 w2) : Below w.heap.size w w2 := h.trans (k.mono h.size)
/-- a call that answers v and leaves the world alone is quiet -/
theorem calm {P : Program} {f : FuncId} {args : Array Value} {w : World} {n : Nat} {v : Value}
    (h : Calls P f args (w.drewN n) fun e w' => e = .returned v ∧ w.drewN n = w') : Calls P f args (w.drewN n) fun e w'' => e = .returned v ∧ ∃ m, w'' = w.drewN m :=
  h.mono fun _ _ ⟨he, hm⟩ => ⟨he, n, hm.symm⟩
theorem add_block (a : Addr) (n : Nat) : (a.add n).block = a.block := by unfold Addr.add; split <;> rfl
theorem add_add' (a : Addr) (i j : Nat) : (a.add i).add j = a.add (i + j) := by
  unfold Addr.add
  by_cases hi : i = 0 <;> by_cases hj : j = 0 <;> simp [hi, hj, Nat.add_assoc]
theorem add_none (g o j : Nat) : (⟨g, o, none⟩ : Addr).add j = ⟨g, o + j, none⟩ := by
  unfold Addr.add
  by_cases hj : j = 0 <;> simp [hj]
/-- a number's cell -/
def nv (k : IntKind) (x : Nat) : Value := .int k (x : Int)
/-- a list of numbers as cells of one kind -/
def cl (k : IntKind) (xs : List Nat) : List Value := xs.map (nv k)
theorem cl_len (k : IntKind) (xs : List Nat) : (cl k xs).length = xs.length := by simp [cl]
theorem cl_at (k : IntKind) (xs : List Nat) (i : Nat) : (cl k xs)[i]? = (xs[i]?).map (nv k) := by simp [cl]
theorem cl_hit (k : IntKind) (xs : List Nat) (i : Nat) (h : i < xs.length) : (cl k xs)[i]? = some (.int k (xs[i] : Nat)) := by
  rw [cl_at, List.getElem?_eq_getElem h]
  rfl
theorem cl_one (k : IntKind) (xs : List Nat) : ∀ u ∈ cl k xs, u.oneCell' = true := by
  intro u hu
  obtain ⟨x, _, rfl⟩ := List.mem_map.1 hu
  rfl
theorem cl_append (k : IntKind) (xs ys : List Nat) : cl k (xs ++ ys) = cl k xs ++ cl k ys := by simp [cl]
theorem cl_drop (k : IntKind) (xs : List Nat) (n : Nat) : cl k (xs.drop n) = (cl k xs).drop n := by simp [cl]
theorem cl_take (k : IntKind) (xs : List Nat) (n : Nat) : cl k (xs.take n) = (cl k xs).take n := by simp [cl]
/-- the slice at A of xs.length reads as xs, in w; it lies below block B -/
def Lim (k : IntKind) (B : Nat) (w : World) (A : Option Addr) (xs : List Nat) : Prop :=
  xs ≠ [] → ∃ ad, A = some ad ∧ ad.block < B ∧ ∀ i (h : i < xs.length), w.cell? (ad.add i) = some (.int k (xs[i] : Nat))
section
variable {k : IntKind} {B B' : Nat} {w w' : World} {A : Option Addr} {xs : List Nat}
theorem Lim.empty (A : Option Addr) : Lim k B w A [] := fun h => absurd rfl h
theorem Lim.at (h : Lim k B w A xs) {i : Nat} (hi : i < xs.length) : ∃ ad, A = some ad ∧ ad.block < B ∧ w.cell? (ad.add i) = some (.int k (xs[i] : Nat)) := by
  obtain ⟨ad, e, hb, hc⟩ := h (fun h0 => by subst h0; simp at hi)
  exact ⟨ad, e, hb, hc i hi⟩
theorem Lim.keep (h : Lim k B w A xs) (hk : ∀ p : Addr, p.block < B → w'.cell? p = w.cell? p) : Lim k B w' A xs := by
  intro h0
  obtain ⟨ad, e, hb, hc⟩ := h h0
  exact ⟨ad, e, hb, fun i hi => (hk _ (by rw [add_block]; exact hb)).trans (hc i hi)⟩
theorem Lim.more (h : Lim k B w A xs) (hB : B ≤ B') : Lim k B' w A xs := by
  intro h0
  obtain ⟨ad, e, hb, hc⟩ := h h0
  exact ⟨ad, e, by omega, hc⟩
theorem Lim.below (h : Lim k B w A xs) (hb : Below B w w') : Lim k B w' A xs := h.keep fun _ hp => hb.cell hp
theorem Lim.below' (h : Lim k w.heap.size w A xs) (hb : Below w.heap.size w w') : Lim k w'.heap.size w' A xs := (h.keep fun _ hp => hb.cell hp).more hb.size
theorem Lim.drewN (h : Lim k B w A xs) (n : Nat) : Lim k B (w.drewN n) A xs := h
theorem Lim.alloc (h : Lim k B w A xs) (hB : B ≤ w.heap.size) (o : Obj) : Lim k B (w.alloc o) A xs := h.keep fun p hp => World.cell?_alloc_lt w o p (by omega)
theorem Lim.setCell (h : Lim k B w A xs) {p : Addr} (hB : B ≤ p.block) (u : Value) : Lim k B (w.setCell p u) A xs := h.keep fun q hq => World.cell?_setCell_other w p q u (fun e => by subst e; omega)
theorem Lim.grown (h : Lim k B w A xs) {row : Option Nat} (hg : w.grownBy w' row) (hB : B ≤ w.heap.size) (hr : ∀ g, row = some g → B ≤ g) : Lim k B w' A xs :=
  h.keep fun p hp => World.cell?_of_block (hg.block p.block (by omega) (fun e => by have := hr _ e.symm; omega))
theorem Lim.take (h : Lim k B w A xs) (n : Nat) : Lim k B w A (xs.take n) := by
  intro h0
  obtain ⟨ad, e, hb, hc⟩ := h (fun h1 => h0 (by simp [h1]))
  refine ⟨ad, e, hb, fun i hi => ?_⟩
  rw [List.getElem_take]
  exact hc i _
theorem Lim.trim (h : Lim k B w A xs) : Lim k B w A (trimL xs) := by
  rw [trimL_take]
  exact h.take _
theorem Lim.cut (h : Lim k B w A xs) {i c : Nat} (hc : xs.length ≤ c) : Lim k B w (if c = i then A else A.map (·.add i)) (xs.drop i) := by
  intro h0
  have hl : i < xs.length := by
    rcases Nat.lt_or_ge i xs.length with h1 | h1
    · exact h1
    · exact absurd (List.drop_eq_nil_of_le h1) h0
  obtain ⟨ad, rfl, hb, hcell⟩ := h (fun h1 => by subst h1; simp at hl)
  rw [if_neg (by omega)]
  refine ⟨ad.add i, rfl, by rw [add_block]; exact hb, fun j hj => ?_⟩
  rw [add_add', List.getElem_drop]
  exact hcell _ _
theorem Lim.of_own {base : Nat} {e : TypeId} {c : Nat} (h : w.ownsRow base e 1 (.slice A xs.length c) xs.length (cl k xs)) : Lim k w.heap.size w A xs := by
  intro h0
  have hn : 0 < xs.length := List.length_pos_iff.2 h0
  obtain ⟨g, cap, hv, _, hlt⟩ := h.form hn
  have hA : A = some ⟨g, 0, none⟩ := by injection hv
  subst hA
  exact ⟨_, rfl, hlt, fun i hi => h.cells (g := g) rfl i _ (cl_hit k xs i hi)⟩
/-- the cells as the library's laws want them -/
theorem Lim.cells {ad : Addr} (h : Lim k B w (some ad) xs) : ∀ (j : Nat) (u : Value), (cl k xs)[j]? = some u → w.cell? (ad.add j) = some u := by
  intro j u hu
  have hj : j < xs.length := by
    rcases Nat.lt_or_ge j xs.length with h1 | h1
    · exact h1
    · rw [List.getElem?_eq_none (by simpa [cl_len] using h1)] at hu
      cases hu
  obtain ⟨ad', e, _, hc⟩ := h.at hj
  injection e with e
  subst e
  rw [cl_hit k xs j hj] at hu
  exact hc.trans hu
end
/-- block g is just the numbers xs, of one kind -/
def Nums (k : IntKind) (t : TypeId) (w : World) (g : Nat) (xs : List Nat) : Prop := w.heap[g]? = some (.cells (cl k xs).toArray t (0, 0))
section
variable {k : IntKind} {t : TypeId} {w w' : World} {g : Nat} {xs : List Nat}
theorem Nums.lt (h : Nums k t w g xs) : g < w.heap.size := by
  rcases Nat.lt_or_ge g w.heap.size with h1 | h1
  · exact h1
  · unfold Nums at h
    rw [Array.getElem?_eq_none h1] at h
    cases h
theorem Nums.at (h : Nums k t w g xs) {i : Nat} (hi : i < xs.length) : w.cell? ⟨g, i, none⟩ = some (.int k (xs[i] : Nat)) := by
  rw [cell_of_row w g i _ t (0, 0) h, List.getElem?_toArray, cl_hit k xs i hi]
theorem Nums.free (h : Nums k t w g xs) (i : Nat) : w.frozen? ⟨g, i, none⟩ = false := by
  unfold Nums at h
  simp [World.frozen?, h]
theorem Nums.made (w : World) (t : TypeId) (k : IntKind) (xs : List Nat) : Nums k t (w.alloc (.cells (cl k xs).toArray t)) w.heap.size xs := heap_alloc_new w _
theorem Nums.set (h : Nums k t w g xs) (i x : Nat) : Nums k t (w.setCell ⟨g, i, none⟩ (.int k x)) g (xs.set i x) := by
  have e : (cl k (xs.set i x)).toArray = (cl k xs).toArray.setIfInBounds i (.int k x) := by simp [cl, List.map_set, nv]
  unfold Nums at h ⊢
  rw [e]
  simp [World.setCell, Array.getElem?_modify, h]
theorem Nums.drewN (h : Nums k t w g xs) (n : Nat) : Nums k t (w.drewN n) g xs := h
theorem Nums.alloc (h : Nums k t w g xs) (o : Obj) : Nums k t (w.alloc o) g xs := (Below.heap_alloc w o g h.lt).trans h
theorem Nums.below {B : Nat} (h : Nums k t w g xs) (hb : Below B w w') (hg : g < B) : Nums k t w' g xs := (hb.block g hg).trans h
theorem Nums.grown {row : Option Nat} (h : Nums k t w g xs) (hb : w.grownBy w' row) (hg : some g ≠ row) : Nums k t w' g xs := (hb.block g h.lt hg).trans h
theorem Nums.far (h : Nums k t w g xs) {p : Addr} (hp : g ≠ p.block) (u : Value) : Nums k t (w.setCell p u) g xs := (Below.heap_setCell w p u g hp).trans h
theorem Nums.lim (h : Nums k t w g xs) : Lim k w.heap.size w (some ⟨g, 0, none⟩) xs :=
  fun _ => ⟨_, rfl, h.lt, fun i hi => by rw [add_none, Nat.zero_add]; exact h.at hi⟩
theorem Nums.part (h : Nums k t w g xs) (o : Nat) : Lim k w.heap.size w (some ⟨g, o, none⟩) (xs.drop o) :=
  fun _ => ⟨_, rfl, h.lt, fun i hi => by rw [add_none, List.getElem_drop]; exact h.at _⟩
end
end Go.Proofs.YtocoflojlliapaaDoor
