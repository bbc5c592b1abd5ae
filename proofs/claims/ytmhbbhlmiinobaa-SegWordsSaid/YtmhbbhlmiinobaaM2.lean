/- SegCounts: what its calls answer; counts. -/
import Derived.Test.YtmhbbhlmiinobaaM1
import Derived.Maps.Own
import Derived.Maps.OwnOps
import Derived.Maps.Views
set_option linter.unusedVariables false
set_option linter.unusedSimpArgs false
namespace Go.Proofs.Ytmhbbhlmiinobaa
open Go Go.RowKit Go.Maps
theorem pick_all (m : M) (l : List Nat) : m.pick [] l = l := by
  unfold M.pick
  rw [List.filter_eq_self]
  intro a _
  rfl
section
variable {G : Nat → Prop} {mb : Nat} {w w' : World} {m : M}
def RowSaid (w : World) (xs : List Nat) (w' : World) (e : Ending) : Prop := ∃ A c, e = .returned (.slice A xs.length c) ∧ w'.ownsRow w.heap.size 3 1 (.slice A xs.length c) xs.length (ints xs) ∧ Below w.heap.size w w'
theorem at_taken (h : At G w mb m) : Calls Try.prog 21 #[.pointer (some ⟨mb, 0, none⟩), .slice none 0 0] w fun e w' => RowSaid w m.o w' e := by
  refine (taken_any h.2 [] none 0 (Or.inl rfl) (by simp)).mono ?_
  rintro e w' ⟨v, rfl, hr, hb⟩
  rw [pick_all] at hr
  obtain ⟨A, c, rfl⟩ := own_slice hr
  exact ⟨A, c, rfl, hr, hb⟩
def cntG (m : M) (g : Int) : Nat := (m.pick [g] m.o).length
def LenSaid (w : World) (k : Nat) (w' : World) (e : Ending) : Prop := ∃ A c, e = .returned (.slice A k c) ∧ Below w.heap.size w w'
theorem at_taken1 (h : At G w mb m) (g : Int) (b : Nat) (hb : w.cell? ⟨b, 0, none⟩ = some (.int .i64 g)) : Calls Try.prog 21 #[.pointer (some ⟨mb, 0, none⟩), .slice (some ⟨b, 0, none⟩) 1 1] w fun e w' => LenSaid w (cntG m g) w' e := by
  refine (taken_any h.2 [g] (some ⟨b, 0, none⟩) 1 (Or.inr ⟨b, rfl, cell_lt hb, fun j x hx => ?_⟩) (by simp)).mono ?_
  · match j with
    | 0 => simp at hx; subst hx; exact hb
    | j + 1 => simp at hx
  · rintro e w' ⟨v, rfl, hr, hb⟩
    obtain ⟨A, c, rfl⟩ := own_slice hr
    exact ⟨A, c, rfl, hb⟩
/-- those of the generations below q -/
def sumG (m : M) : Nat → Nat
  | 0 => 0
  | q + 1 => sumG m q + cntG m q
theorem pick_len (m : M) (g : Int) (l : List Nat) : (m.pick [g] l).length = (l.filter fun i => genOf m i == g).length := by
  unfold M.pick
  congr 1
  apply List.filter_congr
  intro i _
  rcases Decidable.em (genOf m i = g) with e | e
  · simp [genL, e]
  · have e' : ¬ g = genOf m i := fun h => e h.symm
    simp [genL, e, e']
theorem count5 (f : Nat → Int) : ∀ l : List Nat, (∀ i ∈ l, 0 ≤ f i ∧ f i ≤ 4) →
    (l.filter fun i => f i == 0).length + (l.filter fun i => f i == 1).length + (l.filter fun i => f i == 2).length + (l.filter fun i => f i == 3).length + (l.filter fun i => f i == 4).length = l.length
  | [], _ => rfl
  | i :: l, h => by
    have ih := count5 f l (fun j hj => h j (by simp [hj]))
    have hi := h i (by simp)
    have hc : f i = 0 ∨ f i = 1 ∨ f i = 2 ∨ f i = 3 ∨ f i = 4 := by omega
    rcases hc with e | e | e | e | e <;> simp [List.filter_cons, e] <;> omega
theorem sum_all (h : m.Ok) : sumG m 5 = m.o.length := by
  have hc := count5 (genOf m) m.o (fun i hi => by
    obtain ⟨s, hs, _⟩ := (h.mem i).1 hi
    have := (h.all.get hs).g
    simp only [genOf, hs]
    exact this)
  simp only [sumG, cntG, pick_len]
  simp only [Nat.zero_add]
  exact hc
theorem sum_le (h : m.Ok) {q : Nat} (hq : q ≤ 5) : sumG m q ≤ 1024 := by
  have h5 := sum_all h
  have h1 := h.olen
  have h2 := h.hi
  have h3 : sumG m q ≤ sumG m 5 := by
    have : ∀ d, sumG m q ≤ sumG m (q + d) := by
      intro d
      induction d with
      | zero => exact Nat.le_refl _
      | succ d ih => exact Nat.le_trans ih (Nat.le_add_right _ _)
    have := this (5 - q)
    rwa [show q + (5 - q) = 5 from by omega] at this
  omega
theorem cntT_take {S : List Sg} {k : Nat} {s : Sg} (hs : S[k]? = some s) : cntT (S.take (k + 1)) = cntT (S.take k) + (if s.t then 1 else 0) := by
  rw [List.take_add_one, hs]
  have : ∀ (A : List Sg) (x : Sg), cntT (A ++ [x]) = cntT A + (if x.t then 1 else 0) := by
    intro A x
    induction A with
    | nil => simp [cntT]
    | cons a A ih => simp only [List.cons_append, cntT, ih]; omega
  exact this _ _
/-- The new blocks are kept, too. -/
theorem At.fence {V V' : World} (h : At G V mb m) (hb : Below V.heap.size V V') : At (fun k => G k ∨ (V.heap.size ≤ k ∧ k < V'.heap.size)) V' mb m := by
  obtain ⟨hg, hk, sb, cp, v, hm⟩ := h
  have hl := hm.lt
  have hm' := hm.kept (Keep.any hb)
  refine ⟨fun k hk => ?_, hk, sb, cp, v, hm'.hm, hm'.hs, hm'.ho, hm'.d1, hm'.d2, hm'.d3, ?_, ?_, fun k e => ?_⟩
  · rcases hk with hk | hk
    · have := hg k hk; have := hb.size; omega
    · exact hk.2
  · rintro (e | e); exact hm.w1 e; omega
  · rintro (e | e); exact hm.w2 e; omega
  · rintro (e' | e')
    · exact hm.w3 k e e'
    · have := (hm.ho.lt k e).2; omega
theorem At.kept (h : At G w mb m) (hk : Keep (fun k => ¬ G k) w w') : At G w' mb m := ⟨fun k hg => Nat.lt_of_lt_of_le (h.1 k hg) hk.size, h.2.kept hk⟩
def Some1 (G : Nat → Prop) (mb n : Nat) (w w' : World) (e : Ending) : Prop := ∃ (r : Int) (m' : M), e = .returned (.int .i64 r) ∧ m'.S.length = n ∧ At G w' mb m' ∧ Keep G w w'
theorem at_give_any (h : At G w mb m) (i : Int) : Calls Try.prog 15 #[.pointer (some ⟨mb, 0, none⟩), .int .i64 i] w fun e w' => Some1 G mb m.S.length w w' e := by
  rcases has_dec m i with ⟨j, s, rfl, hi⟩ | hi
  · refine (at_give h hi).mono ?_
    rintro e w' ⟨rfl, h1, h2⟩
    exact ⟨_, _, rfl, given_S, h1, h2⟩
  · refine (give_none h.2 hi).mono ?_
    rintro e w' ⟨rfl, hb⟩
    exact ⟨_, m, rfl, rfl, h.below hb, Keep.any hb⟩
theorem row_cell {w : World} {base : Nat} {A : Option Addr} {xs : List Nat} {c j x : Nat} (h : w.ownsRow base 3 1 (.slice A xs.length c) xs.length (ints xs)) (hx : xs[j]? = some x) : ∃ b, A = some ⟨b, 0, none⟩ ∧ base ≤ b ∧ b < w.heap.size ∧ w.cell? ⟨b, j, none⟩ = some (.int .i64 x) := by
  have hj : j < xs.length := (List.getElem?_eq_some_iff.1 hx).1
  obtain ⟨b, rfl⟩ : ∃ b, A = some ⟨b, 0, none⟩ := by
    rcases h.2 with ⟨e, h0⟩ | ⟨g, cap, cur, e, _⟩
    · omega
    · injection e with e1 e2 e3; exact ⟨g, e1⟩
  have := h.lt b rfl
  exact ⟨b, rfl, this.1, this.2, by rw [h.cellAt j (by omega)]; exact ints_get hx⟩
end
end Go.Proofs.Ytmhbbhlmiinobaa
