/- SegCounts: a map that counts; what holds while it is filled. -/
import Derived.Test.YtmhbbhlmiinobaaM2
set_option linter.unusedVariables false
set_option linter.unusedSimpArgs false
namespace Go.Proofs.Ytmhbbhlmiinobaa
open Go Go.RowKit Go.Maps
theorem law3 : Keyed Try.prog 3 := int_keyed Try.underlying3
theorem key3 {x : Nat} (h : x ≤ 1024) : keyOf Try.prog 3 (.int .i64 x) = some (.int .i64 x) := keyOf_int_mk Try.underlying3 (WalkArith.wf_i64 (by omega))
structure C2 (w : World) (G : Nat → Prop) (mb : Nat) (m : M) (base : Nat) (A : Option Addr) (c B q : Nat) (wr : World) : Prop where
  a : At G wr mb m
  r : wr.ownsRow base 3 1 (.slice A m.o.length c) m.o.length (ints m.o)
  d : ∃ D, wr.ownsMap Try.prog 3 (plainElem (H := Unit) Try.prog 3) B q D ∧ IsMap D ∧ ∀ k : Nat, k ∉ m.o.take q → D.atKey (.int .i64 k) (.lit (.int .i64 0)) = .lit (.int .i64 0)
  b : Below w.heap.size w wr
  g : G B
  n : A ≠ none → (Value.slice A m.o.length c).ownBlock ≠ some B
  l : w.heap.size ≤ B
section
variable {w wr wr' : World} {G : Nat → Prop} {mb base c B q : Nat} {m : M} {A : Option Addr}
theorem grown_of_below (h : Below wr.heap.size wr wr') : wr.grownBy wr' none := ⟨h.os, h.tape, h.output, h.size, fun k hk _ => h.block k hk⟩
theorem C2.below (h : C2 w G mb m base A c B q wr) (hb : Below wr.heap.size wr wr') : C2 w G mb m base A c B q wr' := by
  obtain ⟨D, h1, h2, h3⟩ := h.d
  exact ⟨h.a.below hb, (Keep.any (G := fun _ => True) hb).own h.r (fun _ _ => trivial), ⟨D, h1.kept (grown_of_below hb) (by simp), h2, h3⟩, h.b.trans (hb.mono h.b.size), h.g, h.n, h.l⟩
theorem C2.step (h : C2 w G mb m base A c B q wr) {x : Nat} (hx : m.o[q]? = some x) (hx1 : x ≤ 1024) (hq : q ≤ 1024) :
    (Instr.lookup 60 (.map (some B)) (.int .i64 x) false).run Try.prog wr = .ok (.int .i64 0) wr ∧ ∃ wr', (Instr.mapUpdate 60 (.map (some B)) (.int .i64 x) (.int .i64 1)).run Try.prog wr = .ok () wr' ∧
      (Instr.lookup 60 (.map (some B)) (.int .i64 x) false).run Try.prog wr' = .ok (.int .i64 1) wr' ∧ C2 w G mb m base A c B (q + 1) wr' := by
  obtain ⟨D, h1, h2, h3⟩ := h.d
  have hnd := h.a.ok.nd
  have hnot : ∀ k ∈ m.o.take q, k ≠ x := by
    intro k hk e
    subst e
    obtain ⟨j, hjk⟩ := List.mem_iff_getElem?.1 hk
    have hlt : j < (m.o.take q).length := (List.getElem?_eq_some_iff.1 hjk).1
    rw [List.getElem?_take] at hjk
    split at hjk
    · rename_i hjq
      have := (List.getElem?_inj (List.getElem?_eq_some_iff.1 hx).1 hnd).1 (hx.trans hjk.symm)
      omega
    · cases hjk
  have hxn : x ∉ m.o.take q := fun hk => hnot x hk rfl
  obtain ⟨c1, r1, e1, _⟩ := h1.lookup_int law3 Try.underlying60 Try.underlying3 (zero3 wr) (key3 hx1)
  rw [h3 x hxn] at e1
  have e1' : c1 = 0 := by simpa using e1.symm
  subst e1'
  obtain ⟨wr', r2, h4, hg⟩ := h1.update law3 Try.underlying60 (by unfold maxLen; omega) (key3 hx1) (plainElem_int (H := Unit) Try.underlying3 (a := 1) (by decide))
  obtain ⟨c3, r3, e3, _⟩ := h4.lookup_int law3 Try.underlying60 Try.underlying3 (zero3 wr') (key3 hx1)
  have hkl : WideAt.IsKeyLit (Lit.int .i64 (x : Int)) := law3.key (key3 hx1)
  rw [atKey_put_same h2 hkl] at e3
  have e3' : c3 = 1 := by simpa using e3.symm
  subst e3'
  refine ⟨r1, wr', r2, r3, ⟨?_, ?_, ⟨_, h4, h2.put _ _, ?_⟩, h.b.grown hg h.b.size (fun k e => by cases e; exact h.l), h.g, h.n, h.l⟩⟩
  · exact h.a.kept (Keep.grown (Keep.refl _ _) hg (fun k e => by cases e; exact Or.inl (fun hn => hn h.g)))
  · refine h.r.kept hg ?_
    cases hA : A with
    | none => exact Or.inl rfl
    | some a => exact Or.inr (by have := h.n (by rw [hA]; simp); rw [hA] at this; exact this)
  · intro k hk
    rw [List.take_add_one, hx] at hk
    simp at hk
    rw [atKey_put_other (by
      intro e
      injection e with e1 e2
      exact hk.2 (by omega))]
    exact h3 k hk.1
end
end Go.Proofs.Ytmhbbhlmiinobaa
