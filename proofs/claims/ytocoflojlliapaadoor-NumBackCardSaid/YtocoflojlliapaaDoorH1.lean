/- What a call answers that puts a number together: the number, or that it is too big. -/
import Derived.Test.YtocoflojlliapaaDoorF2
set_option linter.unusedVariables false
namespace Go.Proofs.YtocoflojlliapaaDoor
open Go.RowKit
def Reply (w w' : World) (r : Bool) (A : Option Addr) (m c : Nat) (v : Int) (neg : Bool) (N : Nat) : Prop :=
  (dl N ≤ 48 ∧ r = signB neg N ∧ m = dl N ∧ v = 0 ∧ Fresh w w' A c N) ∨ (48 < dl N ∧ r = false ∧ A = none ∧ m = 0 ∧ c = 0 ∧ v = 6 ∧ Below w.heap.size w w')
def Said (w w' : World) (e : Ending) (neg : Bool) (N : Nat) : Prop :=
  ∃ r A m c v, e = .returned (.tuple #[.agg #[.bool r, .slice A m c], .int .i64 v]) ∧ Reply w w' r A m c v neg N
section
variable {w w0 w1 w' : World} {r neg : Bool} {A : Option Addr} {m c N g : Nat} {v : Int} {e : Ending}
theorem Reply.low (h : Reply w w' r A m c v neg N) : Below w.heap.size w w' := by
  rcases h with h | h
  · exact h.2.2.2.2.2
  · exact h.2.2.2.2.2.2
theorem Reply.two {a b : Value} (h : Reply w0 w1 r A m c v neg N) (hb : Below w.heap.size w w0) (hg : w.heap.size ≤ g) (hg2 : g < w0.heap.size) :
    Reply w ((w1.setCell ⟨g, 0, none⟩ a).setCell ⟨g, 1, none⟩ b) r A m c v neg N := by
  rcases h with ⟨h1, h2, h3, h4, h5⟩ | ⟨h1, h2, h3, h4, h5, h6, h7⟩
  · exact .inl ⟨h1, h2, h3, h4, h5.two hb hg hg2⟩
  · exact .inr ⟨h1, h2, h3, h4, h5, h6, below_two (below_then hb h7) hg⟩
theorem Said.yes (h : Said w w' e neg N) (hfit : dl N ≤ 48) : Num w w' e neg N := by
  obtain ⟨r, A, m, c, v, rfl, h | h⟩ := h
  · obtain ⟨_, rfl, rfl, rfl, hf⟩ := h
    exact ⟨A, c, rfl, hf⟩
  · omega
theorem Said.no (h : Said w w' e neg N) (hbig : 48 < dl N) : Big w w' e := by
  obtain ⟨r, A, m, c, v, rfl, h | h⟩ := h
  · omega
  · obtain ⟨_, rfl, rfl, rfl, rfl, rfl, hf⟩ := h
    exact ⟨rfl, hf⟩
theorem Said.of_yes (h : Num w w' e neg N) (hfit : dl N ≤ 48) : Said w w' e neg N := by
  obtain ⟨A, c, rfl, hf⟩ := h
  exact ⟨_, A, _, c, 0, rfl, .inl ⟨hfit, rfl, rfl, rfl, hf⟩⟩
theorem Said.of_no (h : Big w w' e) (hbig : 48 < dl N) : Said w w' e neg N := by
  obtain ⟨rfl, hf⟩ := h
  exact ⟨_, none, 0, 0, 6, rfl, .inr ⟨hbig, rfl, rfl, rfl, rfl, rfl, hf⟩⟩
/-- the number that is answered beside whatever error, by its value -/
theorem Reply.mag (h : Reply w w' r A m c v neg N) : ∃ M, Mag w' A m c M ∧ sg r M = (if dl N ≤ 48 then sg neg N else 0) ∧ m ≤ 48 := by
  rcases h with ⟨h1, rfl, rfl, h4, h5⟩ | ⟨h1, rfl, rfl, rfl, rfl, h6, h7⟩
  · exact ⟨N, (Mag.of_fresh h5).1, by rw [if_pos h1, sg_signB], h1⟩
  · exact ⟨0, Mag.none_ _, by rw [if_neg (by omega), sg_zero], by omega⟩
end
theorem signed1_any (b : Nat) (neg : Bool) (A : Option Addr) (n c N : Nat) (w : World) (hb : w.heap[b]? = some (.cells #[.bool neg] 4 (0, 0))) (h : Mag w A n c N) (hl : n ≤ 35184372088832) :
    Calls Tryd.prog 79 #[.slice A n c, .pointer (some ⟨b, 0, none⟩)] w fun e w' => Said w w' e neg N := by
  by_cases hf : dl N ≤ 48
  · exact (signed1_yes b neg A n c N w hb h hl hf).mono fun e w' h => Said.of_yes h hf
  · exact (signed1_no b neg A n c N w hb h hl (by omega)).mono fun e w' h => Said.of_no h (by omega)
/-- the closure's cell -/
def Boxed (w : World) (b : Nat) (neg : Bool) : Prop := w.heap[b]? = some (.cells #[.bool neg] 4 (0, 0))
theorem Boxed.below {w w' : World} {b : Nat} {neg : Bool} (h : Boxed w b neg) (hb : Below w.heap.size w w') : Boxed w' b neg := (hb.block b (lt_of_block h)).trans h
theorem signed_box (neg : Bool) (w : World) :
    Calls Tryd.prog 52 #[.bool neg] w fun e w' => ∃ b, e = .returned (.func (Fn.func 79) #[] #[.pointer (some ⟨b, 0, none⟩)]) ∧ Boxed w' b neg ∧ Below w.heap.size w w' :=
  (signed_any neg w).mono fun e w' ⟨he, hw⟩ => ⟨w.heap.size, he, by rw [← hw]; exact one_made _ _ _, by rw [← hw]; exact below_al (Below.refl _ _) _⟩
theorem norm_any (neg : Bool) (A : Option Addr) (n c N : Nat) (w : World) (h : Mag w A n c N) (hl : n ≤ 35184372088832) :
    Calls Tryd.prog 21 #[.agg #[.bool neg, .slice A n c]] w fun e w' => Said w w' e neg N := by
  by_cases hf : dl N ≤ 48
  · exact (norm_yes neg A n c N w h hl hf).mono fun e w' h => Said.of_yes h hf
  · exact (norm_no neg A n c N w h hl (by omega)).mono fun e w' h => Said.of_no h (by omega)
theorem neg_any (neg : Bool) (A : Option Addr) (n c N : Nat) (w : World) (h : Mag w A n c N) (hl : n ≤ 35184372088832) :
    Calls Tryd.prog 22 #[.agg #[.bool neg, .slice A n c]] w fun e w' => Said w w' e (!neg) N := by
  by_cases hf : dl N ≤ 48
  · exact (neg_yes neg A n c N w h hl hf).mono fun e w' h => Said.of_yes h hf
  · exact (neg_no neg A n c N w h hl (by omega)).mono fun e w' h => Said.of_no h (by omega)
end Go.Proofs.YtocoflojlliapaaDoor
