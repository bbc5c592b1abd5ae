/- fresh: what one round does. -/
import Derived.Test.YtkffojipgphneaaDoorR1b
set_option linter.unusedVariables false
set_option linter.unusedSimpArgs false
namespace Go.Proofs.YtkffojipgphneaaDoor
open Go Go.RowKit
/-- One part is turned: its last three cells; the blocks in 'bad'; new ones. -/
structure Mut (bad : Nat → Prop) (W V : World) (b o : Nat) : Prop where
  keep : Keep (fun k => ¬ bad k ∧ k ≠ b) W V
  cells : ∀ o' u, (o' < o + 3 ∨ o + 5 < o') → W.cell? ⟨b, o', none⟩ = some u → V.cell? ⟨b, o', none⟩ = some u
  ty : ∀ cur t, W.heap[b]? = some (.cells cur t (0, 0)) → ∃ cur', V.heap[b]? = some (.cells cur' t (0, 0))
theorem Mut.chg {bad : Nat → Prop} {W V V' : World} {b o off : Nat} {v : Value} (h : Mut bad W V b o) (hc : Chg V V' b off v) (h0 : o + 3 ≤ off) (h1 : off ≤ o + 5) : Mut bad W V' b o :=
  ⟨h.keep.trans (hc.keep.mono (fun k _ hk => hk.2)), fun o' u ho hu => hc.other o' (by omega) _ (h.cells o' u ho hu), fun cur t ht => by
    obtain ⟨cur', h'⟩ := h.ty cur t ht
    exact hc.ty cur' t h'⟩
theorem Mut.of {bad : Nat → Prop} {W V : World} {b o : Nat} (h : Keep (fun k => ¬ bad k) W V) (hb : ¬ bad b) : Mut bad W V b o :=
  ⟨h.mono (fun k _ hk => hk.1), fun o' u _ hu => h.cell (p := ⟨b, o', none⟩) hb hu, fun cur t ht => ⟨cur, h.heap hb ht⟩⟩
theorem Mut.keepOn {bad : Nat → Prop} {W V V' : World} {b o : Nat} (h : Mut bad W V b o) (hk : Keep (fun k => ¬ bad k) V V') (hb : ¬ bad b) : Mut bad W V' b o :=
  ⟨h.keep.trans (hk.mono (fun k _ hk => hk.1)), fun o' u ho hu => hk.cell (p := ⟨b, o', none⟩) hb (h.cells o' u ho hu), fun cur t ht => by
    obtain ⟨cur', h'⟩ := h.ty cur t ht
    exact ⟨cur', hk.heap hb h'⟩⟩
/-- What stands at another place stays. -/
theorem Mut.cell {bad : Nat → Prop} {W V : World} {b o : Nat} (h : Mut bad W V b o) {b' o' j : Nat} {u : Value} (hne : (b', o') ≠ (b, o)) (h6 : o' % 6 = 0) (h6' : o % 6 = 0) (hj : j < 6) (hb : ¬ bad b') (hu : W.cell? ⟨b', o' + j, none⟩ = some u) : V.cell? ⟨b', o' + j, none⟩ = some u := by
  by_cases e : b' = b
  · subst e
    have : o' ≠ o := fun e => hne (by rw [e])
    exact h.cells _ _ (by omega) hu
  · exact h.keep.cell (p := ⟨b', o' + j, none⟩) ⟨hb, e⟩ hu
theorem Mut.node {bad : Nat → Prop} {W V : World} {b o : Nat} (h : Mut bad W V b o) {b' o' m : Nat} {d : D} (hne : (b', o') ≠ (b, o)) (h6 : o' % 6 = 0) (h6' : o % 6 = 0) (hb : ¬ bad b') (hn : Node W b' o' d m) : Node V b' o' d m :=
  ⟨h.cell hne h6 h6' (j := 0) (by omega) hb hn.k, h.cell hne h6 h6' (j := 1) (by omega) hb hn.c, h.cell hne h6 h6' (j := 2) (by omega) hb hn.neg, h.cell hne h6 h6' (j := 3) (by omega) hb hn.mag, h.cell hne h6 h6' (j := 4) (by omega) hb hn.t, h.cell hne h6 h6' (j := 5) (by omega) hb hn.l⟩
theorem Mut.ty' {bad : Nat → Prop} {W V : World} {b o : Nat} (h : Mut bad W V b o) {k : Nat} {cur : Array Value} {t : TypeId} (hb : ¬ bad k) (ht : W.heap[k]? = some (.cells cur t (0, 0))) : ∃ cur', V.heap[k]? = some (.cells cur' t (0, 0)) := by
  by_cases e : k = b
  · subst e
    exact h.ty cur t ht
  · exact ⟨cur, h.keep.heap ⟨hb, e⟩ ht⟩
theorem not_bad {W : World} {k l e e' : Nat} {cur cur' : Array Value} {fz fz' : Nat × Nat} (h : W.heap[k]? = some (.cells cur e fz)) (h' : W.heap[l]? = some (.cells cur' e' fz')) (hne : e ≠ e') : k ≠ l := by
  rintro rfl
  rw [h] at h'
  injection h' with h'
  injection h' with _ h' _
  exact hne h'
theorem not_def {W : World} {k l e : Nat} {cur : Array Value} {fz : Nat × Nat} {o : Obj} (h : W.heap[k]? = some (.cells cur e fz)) (h' : W.heap[l]? = some o) (ho : o.isCells = false) : k ≠ l := by
  rintro rfl
  rw [h] at h'
  injection h' with h'
  subst h'
  cases ho
def adr (p : El) : Nat × Nat := (p.b, p.o)
theorem nodup_step {U : List (Nat × Nat)} {p : El} {rest : List El} {g : Nat} {k : F} (h : (U ++ (p :: rest).map adr).Nodup) (hU : ∀ u ∈ U, u.1 < g) (hp : p.b < g) (hr : ∀ e ∈ rest, e.b < g) :
    ((adr p :: U) ++ (kidsE g k ++ rest).map adr).Nodup := by
  have hk : ((kidsE g k).map adr).Nodup := by
    rw [kidsE, List.map_map]
    refine List.Pairwise.map _ ?_ List.nodup_range
    intro a b hab e
    simp only [Function.comp, adr, Prod.mk.injEq] at e
    omega
  have hkg : ∀ x ∈ (kidsE g k).map adr, x.1 = g := by
    intro x hx
    simp only [kidsE, List.map_map, List.mem_map] at hx
    obtain ⟨i, _, rfl⟩ := hx
    rfl
  rw [List.nodup_append] at h
  obtain ⟨h1, h2, h3⟩ := h
  rw [List.map_cons, List.nodup_cons] at h2
  rw [List.cons_append, List.nodup_cons, List.map_append, List.nodup_append]
  refine ⟨?_, h1, ?_, ?_⟩
  · simp only [List.mem_append, not_or]
    refine ⟨fun hU' => h3 _ hU' _ (by simp) rfl, fun hk' => ?_, h2.1⟩
    have := hkg _ hk'
    simp only [adr] at this
    omega
  · rw [List.nodup_append]
    refine ⟨hk, h2.2, fun a ha b hb e => ?_⟩
    subst e
    have h4 := hkg _ ha
    obtain ⟨e, he, rfl⟩ := List.mem_map.1 hb
    have := hr e he
    simp only [adr] at h4
    omega
  · intro a ha b hb e
    subst e
    rcases List.mem_append.1 hb with hb | hb
    · have h4 := hkg _ hb
      have := hU _ ha
      omega
    · exact h3 a ha a (by simp [hb]) rfl
end Go.Proofs.YtkffojipgphneaaDoor
