/- SegWords: the words of a memory as a function; a map that holds them. -/
import Derived.Test.YtmhbbhlmiinobaaM3
import Derived.Maps.OwnSet
import Derived.Maps.RangeWalk
set_option linter.unusedVariables false
set_option linter.unusedSimpArgs false
namespace Go.Proofs.Ytmhbbhlmiinobaa
open Go Go.RowKit Go.Maps
def valOf (S : List Sg) (a : Int) : Option Int :=
  if a < 0 then none else match S[(a / 64).toNat]? with
    | some s => if s.t = true ∧ a % 64 < (s.n : Int) then s.ws[(a % 64).toNat]? else none
    | none => none
theorem val_used {m : M} {a : Int} {i : Nat} {s : Sg} (h : Used m a i s) : valOf m.S a = s.ws[(a % 64).toNat]? := by
  obtain ⟨h0, h1, h2, h3⟩ := h
  unfold valOf
  rw [if_neg (by omega), show (a / 64).toNat = i from by omega, h2.1]
  simp only []
  rw [if_pos ⟨h2.2, h3⟩]
theorem val_none {m : M} {a : Int} (h : ∀ i s, ¬ Used m a i s) : valOf m.S a = none := by
  unfold valOf
  split
  · rfl
  · split
    · rename_i h0 s hs
      split
      · rename_i h1
        exact absurd ⟨by omega, by omega, ⟨hs, h1.1⟩, h1.2⟩ (h (a / 64).toNat s)
      · rfl
    · rfl
theorem used_dec (m : M) (a : Int) : (∃ i s, Used m a i s) ∨ ∀ i s, ¬ Used m a i s := by
  by_cases h : ∃ i s, Used m a i s
  · exact Or.inl h
  · exact Or.inr fun i s hh => h ⟨i, s, hh⟩
theorem val_some {m : M} (hk : m.Ok) {a : Int} {i : Nat} {s : Sg} (h : Used m a i s) : ∃ x, s.ws[(a % 64).toNat]? = some x ∧ valOf m.S a = some x := by
  have hw := (hk.all.get h.2.2.1.1).ws
  have hl : (a % 64).toNat < s.ws.length := by omega
  exact ⟨_, List.getElem?_eq_getElem hl, by rw [val_used h, List.getElem?_eq_getElem hl]⟩
theorem used_val {m : M} (hk : m.Ok) {a x : Int} (h : valOf m.S a = some x) : ∃ i s, Used m a i s ∧ s.ws[(a % 64).toNat]? = some x := by
  rcases used_dec m a with ⟨i, s, hu⟩ | hn
  · exact ⟨i, s, hu, by rw [← val_used hu]; exact h⟩
  · rw [val_none hn] at h; cases h
/-- one segment's words -/
def sgV (s : Sg) (a : Int) : Option Int := if s.t = true ∧ a % 64 < (s.n : Int) then s.ws[(a % 64).toNat]? else none
theorem val_set {S : List Sg} {i : Nat} {s' : Sg} (hi : i < S.length) (a : Int) : valOf (S.set i s') a = if 0 ≤ a ∧ a / 64 = (i : Int) then sgV s' a else valOf S a := by
  unfold valOf
  by_cases h0 : a < 0
  · rw [if_pos h0, if_pos h0, if_neg (by omega)]
  · rw [if_neg h0, if_neg h0]
    by_cases h1 : a / 64 = (i : Int)
    · rw [if_pos ⟨by omega, h1⟩, show (a / 64).toNat = i from by omega, List.getElem?_set_self hi]
      rfl
    · rw [if_neg (by omega), List.getElem?_set_ne (by omega)]
theorem val_at {S : List Sg} {i : Nat} {s : Sg} (hs : S[i]? = some s) {a : Int} (h0 : 0 ≤ a) (h1 : a / 64 = (i : Int)) : valOf S a = sgV s a := by
  unfold valOf
  rw [if_neg (by omega), show (a / 64).toNat = i from by omega, hs]
  rfl
def usedS : List Sg → Nat
  | [] => 0
  | s :: S => (if s.t then s.n else 0) + usedS S
theorem used_set : ∀ {S : List Sg} {i : Nat} {s s' : Sg}, S[i]? = some s → usedS (S.set i s') + (if s.t then s.n else 0) = usedS S + (if s'.t then s'.n else 0)
  | [], i, s, s', h => by simp at h
  | x :: S, 0, s, s', h => by
    have : x = s := by simpa using h
    subst this
    simp only [List.set_cons_zero, usedS]; omega
  | x :: S, i + 1, s, s', h => by
    have ih := used_set (s' := s') (S := S) (i := i) (s := s) (by simpa using h)
    simp only [List.set_cons_succ, usedS]; omega
theorem used_snoc (S : List Sg) (s : Sg) : usedS (S ++ [s]) = usedS S + (if s.t then s.n else 0) := by
  induction S with
  | nil => simp [usedS]
  | cons a A ih => simp only [List.cons_append, usedS, ih]; omega
theorem used_le : ∀ {S : List Sg}, AllOk S → usedS S ≤ 64 * S.length
  | [], _ => Nat.le_refl _
  | s :: S, h => by
    have h1 := h.cons
    have := h1.1.n
    have ih := used_le h1.2
    simp only [usedS, List.length_cons]; split <;> omega
def nOf (S : List Sg) (i : Nat) : Nat := match S[i]? with | some s => s.n | none => 0
def sumN (S : List Sg) : List Nat → Nat
  | [] => 0
  | i :: l => nOf S i + sumN S l
theorem sumN_erase (S : List Sg) : ∀ {l : List Nat} {a : Nat}, a ∈ l → sumN S l = nOf S a + sumN S (l.erase a)
  | [], a, h => by simp at h
  | b :: l, a, h => by
    by_cases e : b = a
    · subst e; simp [sumN]
    · have hm : a ∈ l := by
        rcases List.mem_cons.1 h with h1 | h1
        · exact absurd h1.symm e
        · exact h1
      have ih := sumN_erase S hm
      rw [List.erase_cons_tail (by simpa using e)]
      simp only [sumN]; omega
theorem sumN_congr {S S' : List Sg} : ∀ {l : List Nat}, (∀ i ∈ l, nOf S i = nOf S' i) → sumN S l = sumN S' l
  | [], _ => rfl
  | a :: l, h => by simp only [sumN, h a (by simp), sumN_congr (l := l) (fun i hi => h i (by simp [hi]))]
theorem sum_used : ∀ (n : Nat) (S : List Sg) (l : List Nat), S.length = n → l.Nodup → (∀ i, i ∈ l ↔ ∃ s, S[i]? = some s ∧ s.t = true) → sumN S l = usedS S
  | 0, S, l, hn, hd, hm => by
    have hS : S = [] := List.eq_nil_of_length_eq_zero hn
    subst hS
    have hl : l = [] := by
      cases l with
      | nil => rfl
      | cons a r => obtain ⟨s, hs, _⟩ := (hm a).1 (by simp); simp at hs
    subst hl
    rfl
  | n + 1, S, l, hn, hd, hm => by
    obtain ⟨S', s, rfl⟩ : ∃ S' s, S = S' ++ [s] := ⟨S.dropLast, S.getLast (by intro e; rw [e] at hn; simp at hn), (List.dropLast_concat_getLast _).symm⟩
    have hn' : S'.length = n := by simpa using hn
    have hat : (S' ++ [s])[n]? = some s := by rw [← hn']; simp
    have hlow : ∀ i, i < n → (S' ++ [s])[i]? = S'[i]? := fun i hi => List.getElem?_append_left (by omega)
    have hnof : ∀ i, i < n → nOf (S' ++ [s]) i = nOf S' i := fun i hi => by unfold nOf; rw [hlow i hi]
    have hmem : ∀ i, i ∈ l → i ≤ n := fun i hi => by
      obtain ⟨x, hx, _⟩ := (hm i).1 hi
      have := get_lt hx
      simp at this; omega
    rw [used_snoc]
    rcases hst : s.t with _ | _
    · have hnn : n ∉ l := fun h => by
        obtain ⟨x, hx, ht⟩ := (hm n).1 h
        rw [hat] at hx; cases hx; rw [hst] at ht; cases ht
      have ih := sum_used n S' l hn' hd (fun i => by
        constructor
        · intro h
          have hi : i < n := by have := hmem i h; have : i ≠ n := fun e => hnn (e ▸ h); omega
          obtain ⟨x, hx, ht⟩ := (hm i).1 h
          exact ⟨x, by rw [← hlow i hi]; exact hx, ht⟩
        · rintro ⟨x, hx, ht⟩
          have hi := get_lt hx
          exact (hm i).2 ⟨x, by rw [hlow i (by omega)]; exact hx, ht⟩)
      rw [sumN_congr (S' := S') (fun i hi => hnof i (by have := hmem i hi; have : i ≠ n := fun e => hnn (e ▸ hi); omega)), ih]
      simp
    · have hin : n ∈ l := (hm n).2 ⟨s, hat, hst⟩
      have hmem' : ∀ i, i ∈ l.erase n → i < n := fun i h => by
        have h1 := (hd.mem_erase_iff).1 h
        have := hmem i h1.2
        omega
      have ih := sum_used n S' (l.erase n) hn' (hd.erase _) (fun i => by
        constructor
        · intro h
          have hi := hmem' i h
          obtain ⟨x, hx, ht⟩ := (hm i).1 ((hd.mem_erase_iff).1 h).2
          exact ⟨x, by rw [← hlow i hi]; exact hx, ht⟩
        · rintro ⟨x, hx, ht⟩
          have hi := get_lt hx
          exact (hd.mem_erase_iff).2 ⟨by omega, (hm i).2 ⟨x, by rw [hlow i (by omega)]; exact hx, ht⟩⟩)
      rw [sumN_erase _ hin, sumN_congr (S' := S') (fun i hi => hnof i (hmem' i hi)), ih]
      have : nOf (S' ++ [s]) n = s.n := by unfold nOf; rw [hat]
      rw [this]; simp; omega
theorem sum_order {m : M} (h : m.Ok) : sumN m.S m.o = usedS m.S := sum_used _ _ _ rfl h.nd h.mem
end Go.Proofs.Ytmhbbhlmiinobaa
