/- fresh: a part, and the rows that it has. -/
import Derived.Test.YtkffojipgphneaaDoorR1
set_option linter.unusedVariables false
set_option linter.unusedSimpArgs false
namespace Go.Proofs.YtkffojipgphneaaDoor
open Go Go.RowKit
theorem wl_copy (t e : TypeId) (z : Value) (size bytes : Nat) (ht : Tryd.prog.underlying t = some (.slice e)) (hinfo : (Tryd.prog.info? e).map (fun i => (i.zero, i.size, i.bytes)) = some (some z, size, bytes)) (hzs : z.cells.size = size) (hsz : 0 < size)
    (w : World) {ops : Array Oper} {rest : List Oper} {o : Oper} {a : Act} {Q : Exit → Act → World → Prop} (hgd : o.guard = none) (s x : Operand)
    (ho : o.op = .call { callee := .builtin .append, args := #[s, x], argTypes := #[t, t] }) (hs : a.eval s = .slice none 0 0)
    (A : Option Addr) (m c : Nat) (news : List Value) (hx : a.eval x = .slice A m c) (hl : news.length = m * size) (hnews : ∀ j u, news[j]? = some u → ∃ ad, A = some ad ∧ w.cell? (ad.add j) = some u) (h1 : ∀ u ∈ news, u.oneCell' = true)
    (hb : m * bytes ≤ 140737488355328) (hb2 : m ≤ 140737488355328)
    (h : ∀ A' cap' w', w'.ownsRow w.heap.size e size (.slice A' m cap') m news → w.grownBy w' none → wpList Tryd.prog ops Q rest (a.put o.dst (.slice A' m cap')) w') :
    wpList Tryd.prog ops Q (o :: rest) a w := by
  refine wpList_plain hgd fun K hK => ?_
  obtain ⟨i0, hi, hz0, hz1, hz2⟩ := info_parts hinfo
  obtain ⟨A', cap', w', hr, h2, h3⟩ := run_copy (P := Tryd.prog) w t o.type e i0 z size bytes ht hi hz0 hz1 hz2 hzs hsz A m c news hl hnews h1 (by unfold maxLen; omega) hb
  unfold Oper.wp execOp
  simp only [ho, resolve, invoke, builtin, Sem.run_bind, Sem.run_pure, Result.andThen_ok, List.map_toArray, List.map_cons, List.map_nil, hs, hx, hr]
  exact hK _ _ (h A' cap' w' h2 h3)
def F.cells : F → List Value
  | .nil => []
  | .cons d k r => .int .i64 d.k :: .int .i32 d.c :: .bool d.neg :: .slice d.mA d.mag.length d.mcap :: .string d.t :: .slice d.lA k.len d.lcap :: r.cells
theorem F.cells_length (f : F) : f.cells.length = f.len * 6 := by
  induction f with
  | nil => rfl
  | cons d k r _ ih => simp only [F.cells, List.length_cons, ih, F.len]; omega
theorem F.cells_one (f : F) : ∀ u ∈ f.cells, u.oneCell' = true := by
  induction f with
  | nil => simp [F.cells]
  | cons d k r _ ih =>
    intro u hu
    simp only [F.cells, List.mem_cons] at hu
    rcases hu with rfl | rfl | rfl | rfl | rfl | rfl | hu
    all_goals first | rfl | exact ih u hu
theorem AtF.cellAt {G : Nat → Prop} {w : World} (f : F) : ∀ (b o : Nat), AtF G w f b o → ∀ j u, f.cells[j]? = some u → w.cell? ⟨b, o + j, none⟩ = some u := by
  induction f with
  | nil => intro b o _ j u h; simp [F.cells] at h
  | cons d k r _ ih =>
    rintro b o ⟨⟨_, hn, _⟩, hr⟩ j u h
    simp only [F.cells] at h
    match j, h with
    | 0, h => simp at h; subst h; exact hn.k
    | 1, h => simp at h; subst h; exact hn.c
    | 2, h => simp at h; subst h; exact hn.neg
    | 3, h => simp at h; subst h; exact hn.mag
    | 4, h => simp at h; subst h; exact hn.t
    | 5, h => simp at h; subst h; exact hn.l
    | j + 6, h =>
      simp only [List.getElem?_cons_succ] at h
      have := ih b (o + 6) hr j u h
      rwa [show o + (j + 6) = o + 6 + j by omega]
theorem F.cells_at (f : F) : ∀ i, i < f.len → f.cells[i * 6]? = some (.int .i64 (f.nthD i).k) ∧ f.cells[i * 6 + 1]? = some (.int .i32 (f.nthD i).c) ∧ f.cells[i * 6 + 2]? = some (.bool (f.nthD i).neg)
    ∧ f.cells[i * 6 + 3]? = some (.slice (f.nthD i).mA (f.nthD i).mag.length (f.nthD i).mcap) ∧ f.cells[i * 6 + 4]? = some (.string (f.nthD i).t) ∧ f.cells[i * 6 + 5]? = some (.slice (f.nthD i).lA (f.nthK i).len (f.nthD i).lcap) := by
  induction f with
  | nil => intro i h; simp [F.len] at h
  | cons d k r _ ih =>
    intro i h
    cases i with
    | zero => exact ⟨rfl, rfl, rfl, rfl, rfl, rfl⟩
    | succ i =>
      simp only [F.len] at h
      have h2 := ih i (by omega)
      simp only [F.cells, F.nthD, F.nthK]
      have e : ∀ j, (i + 1) * 6 + j = (i * 6 + j) + 1 + 1 + 1 + 1 + 1 + 1 := by omega
      have e0 : (i + 1) * 6 = (i * 6) + 1 + 1 + 1 + 1 + 1 + 1 := by omega
      rw [e 1, e 2, e 3, e 4, e 5, e0]
      simp only [List.getElem?_cons_succ]
      exact h2
theorem own_node {w : World} {base g c : Nat} {f : F} (h : w.ownsRow base 27 6 (.slice (some ⟨g, 0, none⟩) f.len c) f.len f.cells) {i : Nat} (hi : i < f.len) : Node w g (i * 6) (f.nthD i) (f.nthK i).len := by
  obtain ⟨h0, h1, h2, h3, h4, h5⟩ := f.cells_at i hi
  exact ⟨(h.cellAt _ (by omega)).trans h0, (h.cellAt _ (by omega)).trans h1, (h.cellAt _ (by omega)).trans h2, (h.cellAt _ (by omega)).trans h3, (h.cellAt _ (by omega)).trans h4, (h.cellAt _ (by omega)).trans h5⟩
theorem own_ty {w : World} {base e s g c n : Nat} {xs : List Value} (h : w.ownsRow base e s (.slice (some ⟨g, 0, none⟩) n c) n xs) : ∃ cur, w.heap[g]? = some (.cells cur e (0, 0)) := by
  rcases h.2 with ⟨hv, _⟩ | ⟨g2, _, cur, hv, _, hh, _⟩
  · cases hv
  · cases hv
    exact ⟨cur, hh⟩
def mags (xs : List Nat) : List Value := xs.map fun x => .int .u32 (x : Nat)
theorem own_magN {w : World} {base s0 c : Nat} {A : Option Addr} {xs : List Nat} (h : w.ownsRow base 60 1 (.slice A xs.length c) xs.length (mags xs)) (hb : s0 ≤ base) : MagN s0 w A xs := by
  by_cases hx : xs = []
  · exact .inl hx
  · rcases h.2 with ⟨hv, h0⟩ | ⟨g, _, cur, hv, hg, hh, _⟩
    · exact absurd (List.eq_nil_of_length_eq_zero h0) hx
    · injection hv with e1 e2 e3
      subst e1 e3
      refine .inr ⟨g, cur, _, rfl, Nat.le_trans hb hg, hh, fun i hi => ?_⟩
      rw [h.cellAt i (by omega)]
      simp [mags, hi]
theorem own_capb {w : World} {base e s c n : Nat} {A : Option Addr} {xs : List Value} (h : w.ownsRow base e s (.slice A n c) n xs) : n ≤ c := by
  rcases h.2 with ⟨hv, h0⟩ | ⟨g, _, cur, hv, hg, hh, hc, _⟩
  · injection hv with e1 e2 e3
    omega
  · injection hv with e1 e2 e3
    omega
/-- A part that is being turned. -/
structure PSt (V : World) (b o : Nat) (d : D) (m : Nat) : Prop where
  node : Node V b o d m
  ty : ∃ cur, V.heap[b]? = some (.cells cur 27 (0, 0))
theorem PSt.frozen {V : World} {b o m : Nat} {d : D} (h : PSt V b o d m) (j : Nat) : V.frozen? ⟨b, j, none⟩ = false := by
  obtain ⟨cur, hc⟩ := h.ty
  simp [World.frozen?, hc]
theorem PSt.lt {V : World} {b o m : Nat} {d : D} (h : PSt V b o d m) : b < V.heap.size := cell_lt h.node.k
theorem PSt.keep {V V' : World} {b o m : Nat} {d : D} {G : Nat → Prop} (h : PSt V b o d m) (hk : Keep G V V') (hg : G b) : PSt V' b o d m := by
  obtain ⟨cur, hc⟩ := h.ty
  exact ⟨h.node.keep hg hk, cur, hk.heap hg hc⟩
theorem PSt.t {V V' : World} {b o m : Nat} {d : D} (h : PSt V b o d m) (hc : Chg V V' b (o + 4) (.string d.t)) : PSt V' b o d m := by
  obtain ⟨cur, hcur⟩ := h.ty
  have hn := h.node
  exact ⟨⟨hc.other o (by omega) _ hn.k, hc.other _ (by omega) _ hn.c, hc.other _ (by omega) _ hn.neg, hc.other _ (by omega) _ hn.mag, hc.cell, hc.other _ (by omega) _ hn.l⟩, hc.ty cur 27 hcur⟩
theorem PSt.m {V V' : World} {b o m c : Nat} {d : D} {A : Option Addr} (h : PSt V b o d m) (hc : Chg V V' b (o + 3) (.slice A d.mag.length c)) : PSt V' b o { d with mA := A, mcap := c } m := by
  obtain ⟨cur, hcur⟩ := h.ty
  have hn := h.node
  exact ⟨⟨hc.other o (by omega) _ hn.k, hc.other _ (by omega) _ hn.c, hc.other _ (by omega) _ hn.neg, hc.cell, hc.other _ (by omega) _ hn.t, hc.other _ (by omega) _ hn.l⟩, hc.ty cur 27 hcur⟩
theorem PSt.l {V V' : World} {b o m c : Nat} {d : D} {A : Option Addr} (h : PSt V b o d m) (hc : Chg V V' b (o + 5) (.slice A m c)) : PSt V' b o { d with lA := A, lcap := c } m := by
  obtain ⟨cur, hcur⟩ := h.ty
  have hn := h.node
  exact ⟨⟨hc.other o (by omega) _ hn.k, hc.other _ (by omega) _ hn.c, hc.other _ (by omega) _ hn.neg, hc.other _ (by omega) _ hn.mag, hc.other _ (by omega) _ hn.t, hc.cell⟩, hc.ty cur 27 hcur⟩
end Go.Proofs.YtkffojipgphneaaDoor
