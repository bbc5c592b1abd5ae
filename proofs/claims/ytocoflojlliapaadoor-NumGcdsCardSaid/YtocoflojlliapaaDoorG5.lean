/- NumGcds: what the walk wants. -/
import Derived.Test.YtocoflojlliapaaDoorG4
set_option linter.unusedVariables false
namespace Go.Proofs.YtocoflojlliapaaDoor
open Go.RowKit
theorem own2_ge {w : World} {base e n s : Nat} {v : Value} {xs : List Value} (h : w.ownsRow base e s v n xs) : ∀ g, v.ownBlock = some g → base ≤ g := fun g hg => (h.lt g hg).1
theorem own2_slice {w : World} {base e n s : Nat} {v : Value} {xs : List Value} (h : w.ownsRow base e s v n xs) : ∃ A c, v = .slice A n c := by
  rcases h.2 with ⟨rfl, rfl⟩ | ⟨g', cap, cur, rfl, hb, _⟩
  · exact ⟨_, _, rfl⟩
  · exact ⟨_, _, rfl⟩
theorem info24 : (Tryd.prog.info? 24).map (fun i => (i.zero, i.size, i.bytes)) = some (some (.agg #[.bool false, .slice none 0 0]), 2, 32) := by kernel_rfl
theorem info30 : (Tryd.prog.info? 30).map (fun i => (i.zero, i.size, i.bytes)) = some (some (.agg #[.bool false, .slice none 0 0]), 2, 32) := by kernel_rfl
theorem app2 (t e : TypeId) (ht : Tryd.prog.underlying t = some (.slice e)) (hinfo : (Tryd.prog.info? e).map (fun i => (i.zero, i.size, i.bytes)) = some (some (.agg #[.bool false, .slice none 0 0]), 2, 32))
    (w : World) {ops : Array Oper} {rest : List Oper} {o : Oper} {a : Act} {Q : Exit → Act → World → Prop} (hgd : o.guard = none) (s x : Operand)
    (ho : o.op = .call { callee := .builtin .append, args := #[s, x], argTypes := #[t, t] }) (base : Nat) (v : Value) (n : Nat) (es : List E2) (hs : a.eval s = v) (hown : w.ownsRow base e 2 v n (cells2 es))
    (g : Nat) (T : TypeId) (r : Bool) (B : Option Addr) (m c : Nat) (hx : a.eval x = .slice (some ⟨g, 0, none⟩) 1 1) (htw : Two w g T (.bool r) (.slice B m c)) (hb : n ≤ 1000000) (hbase : base ≤ w.heap.size)
    (h : ∀ v' w', w'.ownsRow base e 2 v' (n + 1) (cells2 (es ++ [(r, B, m, c)])) → w.grownBy w' v.ownBlock → wpList Tryd.prog ops Q rest (a.put o.dst v') w') : wpList Tryd.prog ops Q (o :: rest) a w := by
  obtain ⟨i0, hi, hz0, hz1, hz2⟩ := info_parts hinfo
  refine wpList_append_own w hgd s x t ho base e i0 _ 2 32 ht hi hz0 hz1 hz2 rfl (by decide) v n (cells2 es) hs hown ⟨g, 0, none⟩ 1 1 [.bool r, .slice B m c] hx rfl ?_ ?_ (by unfold maxLen; omega) (by omega) hbase ?_
  · intro j u hj
    match j, hj with
    | 0, hj => simp at hj; subst hj; exact htw.fst
    | 1, hj => simp at hj; subst hj; exact htw.snd
    | (j + 2), hj => simp at hj
  · intro u hu
    simp at hu
    rcases hu with rfl | rfl <;> rfl
  · intro v' w' h1 h2 _
    refine h v' w' ?_ h2
    rw [cells2_app]
    exact h1
section
variable (rs : Nat → Bool) (As : Nat → Option Addr) (ns cs : Nat → Nat) (xss : Nat → List Nat) (zs : Nat → Int)
/-- the numbers that are handed in -/
def Src (w : World) (A : Option Addr) (n : Nat) : Prop := ∀ i, i < n → ∃ ad p q, A = some ad ∧ ad.add (i * 2) = p ∧ p.add 1 = q ∧ ad.block < w.heap.size ∧ w.cell? p = some (.bool (rs i)) ∧ w.cell? q = some (.slice (As i) (ns i) (cs i)) ∧ Limbs w (As i) (ns i) (cs i) (xss i)
/-- their copies -/
def Was (w : World) (es : List E2) : Prop := ∀ j (h : j < es.length), (es[j]).1 = rs j ∧ (es[j]).2.2.1 = ns j ∧ Limbs w (es[j]).2.1 (ns j) (es[j]).2.2.2 (xss j) ∧ El w 43 (es[j]).2.1 (ns j)
/-- their values -/
def Vals (w : World) (fs : List E2) : Prop := ∀ j (h : j < fs.length), BV 1920 w (fs[j]).1 (fs[j]).2.1 (fs[j]).2.2.1 (fs[j]).2.2.2 (zs j) ∧ El w 5 (fs[j]).2.1 (fs[j]).2.2.1
variable {rs As ns cs xss zs}
theorem Src.below {w w' : World} {A : Option Addr} {n : Nat} (h : Src rs As ns cs xss w A n) (hb : Below w.heap.size w w') : Src rs As ns cs xss w' A n := by
  intro i hi
  obtain ⟨ad, p, q, h1, h2, h3, h4, h5, h6, h7⟩ := h i hi
  have e1 : p.block = ad.block := by rw [← h2, add_block]
  have e2 : q.block = ad.block := by rw [← h3, add_block, e1]
  exact ⟨ad, p, q, h1, h2, h3, Nat.lt_of_lt_of_le h4 hb.size, (hb.cell (by rw [e1]; exact h4)).trans h5, (hb.cell (by rw [e2]; exact h4)).trans h6, h7.below hb⟩
theorem Was.below {w w' : World} {es : List E2} (h : Was rs ns xss w es) (hb : Below w.heap.size w w') : Was rs ns xss w' es := fun j hj => by
  obtain ⟨h1, h2, h3, h4⟩ := h j hj
  exact ⟨h1, h2, h3.below hb, h4.below hb⟩
theorem Was.grown {w w' : World} {es : List E2} {v : Value} (h : Was rs ns xss w es) (hf : Far w 43 v) (hg : w.grownBy w' v.ownBlock) : Was rs ns xss w' es := fun j hj => by
  obtain ⟨h1, h2, h3, h4⟩ := h j hj
  exact ⟨h1, h2, h3.grownE h4 hf hg, h4.grown hf hg⟩
theorem Vals.below {w w' : World} {fs : List E2} (h : Vals zs w fs) (hb : Below w.heap.size w w') : Vals zs w' fs := fun j hj => by
  obtain ⟨h1, h2⟩ := h j hj
  exact ⟨h1.below hb, h2.below hb⟩
theorem Vals.grown {w w' : World} {fs : List E2} {v : Value} (h : Vals zs w fs) (hf : Far w 5 v) (hg : w.grownBy w' v.ownBlock) : Vals zs w' fs := fun j hj => by
  obtain ⟨h1, h2⟩ := h j hj
  exact ⟨⟨⟨h1.1.1, h1.1.2.1, h1.1.2.2.grownE h2 hf hg⟩, h1.2⟩, h2.grown hf hg⟩
theorem Was.nil (w : World) : Was rs ns xss w [] := fun j hj => by simp at hj
theorem Vals.nil (w : World) : Vals zs w [] := fun j hj => by simp at hj
theorem Was.next {w : World} {es : List E2} {i : Nat} {B : Option Addr} {d : Nat} (h : Was rs ns xss w es) (hl : es.length = i) (h2 : Limbs w B (ns i) d (xss i)) (h3 : El w 43 B (ns i)) : Was rs ns xss w (es ++ [(rs i, B, ns i, d)]) := by
  subst hl
  intro j hj
  by_cases hlt : j < es.length
  · rw [List.getElem_append_left hlt]
    exact h j hlt
  · have : j = es.length := by simp at hj; omega
    subst this
    simp only [List.getElem_append_right (Nat.le_refl _), Nat.sub_self, List.getElem_cons_zero]
    exact ⟨trivial, trivial, h2, h3⟩
theorem Vals.next {w : World} {fs : List E2} {i : Nat} {r : Bool} {B : Option Addr} {m d : Nat} (h : Vals zs w fs) (hl : fs.length = i) (h2 : BV 1920 w r B m d (zs i)) (h3 : El w 5 B m) : Vals zs w (fs ++ [(r, B, m, d)]) := by
  subst hl
  intro j hj
  by_cases hlt : j < fs.length
  · rw [List.getElem_append_left hlt]
    exact h j hlt
  · have : j = fs.length := by simp at hj; omega
    subst this
    simp only [List.getElem_append_right (Nat.le_refl _), Nat.sub_self, List.getElem_cons_zero]
    exact ⟨h2, h3⟩
/-- the magnitudes -/
def mags (zs : Nat → Int) (n : Nat) : List Nat := (List.range n).map fun i => (zs i).natAbs
theorem mags_len (n : Nat) : (mags zs n).length = n := by simp [mags]
theorem mags_at {n i : Nat} (h : i < (mags zs n).length) : (mags zs n)[i] = (zs i).natAbs := by simp [mags]
theorem Src.row24 {w : World} {A : Option Addr} {n : Nat} (h : Src rs As ns cs xss w A n) (hz : ∀ i, sg (rs i) (val 4294967296 (xss i)) = zs i) (hl : ∀ i, i < n → ns i ≤ 60) : Row24 w A (mags zs n) := by
  intro i hi
  have hi2 : i < n := by rw [mags_len] at hi; exact hi
  obtain ⟨ad, p, q, h1, h2, h3, h4, h5, h6, h7⟩ := h i hi2
  refine ⟨ad, p, q, _, _, _, _, h1, h2, h3, h4, h5, h6, Nat.le_trans (hl i hi2) (by decide), ?_⟩
  rw [mags_at, ← sg_abs (hz i)]
  exact h7.mag
theorem Vals.row30 {w : World} {base n c : Nat} {A : Option Addr} {fs : List E2} (h : Vals zs w fs) (hl : fs.length = n) (ho : w.ownsRow base 30 2 (.slice A n c) n (cells2 fs)) : Row30 w A (mags zs n) := by
  intro i hi
  have hi2 : i < fs.length := by rw [hl]; rw [mags_len] at hi; exact hi
  obtain ⟨ad, p, q, h1, h2, h3, h4, h5, h6⟩ := own2_at ho hi2
  obtain ⟨b1, b2⟩ := h i hi2
  refine ⟨ad, p, q, _, _, _, _, h1, h2, h3, h4, h5, h6, b1.2, ?_, ?_⟩
  · rw [mags_at]; exact b1.1.2.1
  · rw [mags_at]; exact b1.1.2.2
end
end Go.Proofs.YtocoflojlliapaaDoor
