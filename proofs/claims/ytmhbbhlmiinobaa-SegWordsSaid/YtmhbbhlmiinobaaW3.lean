/- SegWords: what calls do to the words. -/
import Derived.Test.YtmhbbhlmiinobaaW2
set_option linter.unusedVariables false
set_option linter.unusedSimpArgs false
namespace Go.Proofs.Ytmhbbhlmiinobaa
open Go Go.RowKit Go.Maps
theorem sgv_yes {s : Sg} {a : Int} (h1 : s.t = true) (h2 : a % 64 < (s.n : Int)) : sgV s a = s.ws[(a % 64).toNat]? := by unfold sgV; rw [if_pos ⟨h1, h2⟩]
theorem sgv_no {s : Sg} {a : Int} (h2 : (s.n : Int) ≤ a % 64) : sgV s a = none := by unfold sgV; rw [if_neg (by rintro ⟨_, h⟩; omega)]
section
variable {m : M} {j : Nat} {s : Sg}
theorem val_taken {g k : Int} (hf : ff m.S < m.S.length) (a : Int) : valOf (m.taken g k).S a = valOf m.S a := by
  simp only [M.taken]
  rw [val_set hf]
  split
  · rename_i h
    rw [val_at (List.getElem?_eq_getElem hf) h.1 h.2]
    have h1 : sgV (Sg.fresh g k) a = none := by
      unfold sgV
      rw [if_neg]
      rintro ⟨_, h2⟩
      simp [Sg.fresh] at h2
      omega
    have h2 : sgV m.S[ff m.S] a = none := by
      unfold sgV
      rw [if_neg]
      rintro ⟨h3, _⟩
      rw [ff_at hf] at h3
      cases h3
    rw [h1, h2]
  · rfl
theorem used_taken {g k : Int} (hf : ff m.S < m.S.length) : usedS (m.taken g k).S = usedS m.S := by
  have := used_set (s' := Sg.fresh g k) (List.getElem?_eq_getElem hf)
  rw [ff_at hf] at this
  simp only [M.taken]
  simp [Sg.fresh] at this ⊢
  exact this
theorem bump_step (hk : m.Ok) (hi : Has m j s) {q : Nat} (hq : s.n + q < 64) (b : Int) :
    valOf (m.put j (s.bump (q + 1))).S b = if b = (j : Int) * 64 + (s.n : Int) + (q : Int) then some 0 else valOf (m.put j (s.bump q)).S b := by
  have hl := get_lt hi.1
  have ho := hk.all.get hi.1
  have hw := ho.ws
  have hz : s.ws[s.n + q]? = some 0 := by
    have hlt : s.n + q < s.ws.length := by omega
    rw [List.getElem?_eq_getElem hlt, ho.z (s.n + q) _ (by omega) (List.getElem?_eq_getElem hlt)]
  simp only [M.put]
  rw [val_set hl, val_set hl]
  by_cases h : 0 ≤ b ∧ b / 64 = (j : Int)
  · rw [if_pos h, if_pos h]
    by_cases e : b = (j : Int) * 64 + (s.n : Int) + (q : Int)
    · rw [if_pos e, sgv_yes (s := s.bump (q + 1)) hi.2 (show b % 64 < ((s.n + (q + 1) : Nat) : Int) by omega), show (s.bump (q + 1)).ws = s.ws from rfl, show (b % 64).toNat = s.n + q from by omega, hz]
    · rw [if_neg e]
      by_cases h2 : b % 64 < ((s.n + q : Nat) : Int)
      · rw [sgv_yes (s := s.bump (q + 1)) hi.2 (show b % 64 < ((s.n + (q + 1) : Nat) : Int) by omega), sgv_yes (s := s.bump q) hi.2 (show b % 64 < ((s.n + q : Nat) : Int) by omega)]; rfl
      · rw [sgv_no (s := s.bump (q + 1)) (show ((s.n + (q + 1) : Nat) : Int) ≤ b % 64 by omega), sgv_no (s := s.bump q) (show ((s.n + q : Nat) : Int) ≤ b % 64 by omega)]
  · rw [if_neg h, if_neg h, if_neg (by omega)]
theorem bump_new (hi : Has m j s) {q : Nat} (hq : s.n + q < 64) : (valOf (m.put j (s.bump q)).S ((j : Int) * 64 + (s.n : Int) + (q : Int))).isSome = false := by
  have hl := get_lt hi.1
  simp only [M.put]
  rw [val_set hl, if_pos ⟨by omega, by omega⟩]
  rw [sgv_no (s := s.bump q) (show ((s.n + q : Nat) : Int) ≤ _ by omega)]
  rfl
theorem bump_zero : s.bump 0 = s := rfl
theorem put_self (hi : Has m j s) : (m.put j (s.bump 0)).S = m.S := by
  simp only [M.put, bump_zero]
  apply List.ext_getElem?
  intro i
  by_cases e : j = i
  · subst e; rw [List.getElem?_set_self (get_lt hi.1), hi.1]
  · rw [List.getElem?_set_ne e]
theorem used_bump (hi : Has m j s) (q : Nat) : usedS (m.put j (s.bump q)).S = usedS m.S + q := by
  have := used_set (s' := s.bump q) hi.1
  simp only [M.put]
  rw [hi.2, show (s.bump q).t = true from hi.2, show (s.bump q).n = s.n + q from rfl] at this
  simp at this
  omega
/-- the words, those of the first k of a segment gone -/
def gone (m : M) (j k : Nat) (b : Int) : Option Int := if (j : Int) * 64 ≤ b ∧ b < (j : Int) * 64 + (k : Int) then none else valOf m.S b
theorem gone_start (b : Int) : gone m j 0 b = valOf m.S b := by unfold gone; rw [if_neg (by omega)]
theorem gone_step (k : Nat) (b : Int) : gone m j (k + 1) b = if b = (j : Int) * 64 + (k : Int) then none else gone m j k b := by
  unfold gone
  by_cases e : b = (j : Int) * 64 + (k : Int)
  · rw [if_pos (by omega), if_pos e]
  · rw [if_neg e]
    by_cases h : (j : Int) * 64 ≤ b ∧ b < (j : Int) * 64 + (k : Int)
    · rw [if_pos (by omega), if_pos h]
    · rw [if_neg (by omega), if_neg h]
theorem gone_at (hk : m.Ok) (hi : Has m j s) {k : Nat} (h64 : k < 64) : (gone m j k ((j : Int) * 64 + (k : Int))).isSome = decide (k < s.n) := by
  unfold gone
  have ho := hk.all.get hi.1
  rw [if_neg (by omega), val_at hi.1 (by omega) (by omega)]
  unfold sgV
  by_cases h : k < s.n
  · rw [if_pos ⟨hi.2, by omega⟩, List.getElem?_eq_getElem (by have := ho.ws; omega)]
    simp [h]
  · rw [if_neg (by rintro ⟨_, h2⟩; omega)]
    simp [h]
theorem gone_end (hi : Has m j s) (b : Int) : gone m j 64 b = valOf (m.given j s).S b := by
  unfold gone
  simp only [M.given]
  rw [val_set (get_lt hi.1)]
  by_cases h : 0 ≤ b ∧ b / 64 = (j : Int)
  · rw [if_pos (by omega), if_pos h]
    unfold sgV
    rw [if_neg (by rintro ⟨h2, _⟩; cases h2)]
  · rw [if_neg (by omega), if_neg h]
theorem used_given (hi : Has m j s) : usedS (m.given j s).S = usedS m.S - s.n := by
  have := used_set (s' := s.off) hi.1
  simp only [M.given]
  rw [hi.2, show s.off.t = false from rfl] at this
  simp at this
  omega
theorem n_le_used (hi : Has m j s) : s.n ≤ usedS m.S := by
  have := used_set (s' := s.off) hi.1
  rw [hi.2, show s.off.t = false from rfl] at this
  simp at this
  omega
theorem val_write (hk : m.Ok) {a : Int} (hu : Used m a j s) (x b : Int) : valOf (m.put j (s.write a x)).S b = if b = a then some x else valOf m.S b := by
  obtain ⟨h0, h1, h2, h3⟩ := hu
  have hw := (hk.all.get h2.1).ws
  simp only [M.put]
  rw [val_set (get_lt h2.1)]
  by_cases h : 0 ≤ b ∧ b / 64 = (j : Int)
  · rw [if_pos h, val_at h2.1 h.1 h.2]
    have hws : (s.write a x).ws = s.ws.set (a % 64).toNat x := rfl
    by_cases e : b = a
    · rw [if_pos e, sgv_yes (s := s.write a x) h2.2 (show b % 64 < (s.n : Int) by omega), hws, e, List.getElem?_set_self (by omega)]
    · rw [if_neg e]
      by_cases h4 : b % 64 < (s.n : Int)
      · rw [sgv_yes (s := s.write a x) h2.2 (show b % 64 < (s.n : Int) by omega), sgv_yes h2.2 h4, hws, List.getElem?_set_ne (by omega)]
      · rw [sgv_no (s := s.write a x) (show (s.n : Int) ≤ b % 64 by omega), sgv_no (by omega)]
  · rw [if_neg h, if_neg (by rintro rfl; exact h ⟨h0, h1⟩)]
theorem used_write (hi : Has m j s) (a x : Int) : usedS (m.put j (s.write a x)).S = usedS m.S := by
  have := used_set (s' := s.write a x) hi.1
  simp only [M.put]
  rw [hi.2, show (s.write a x).t = true from hi.2, show (s.write a x).n = s.n from rfl] at this
  omega
end
section
variable {G : Nat → Prop} {mb : Nat} {w w' : World} {m : M}
theorem bump_refused (h : At G w mb m) (i n : Int) (hn : n ≤ 9223372036854775807) : (∃ (j : Nat) (s : Sg) (q : Nat), i = (j : Int) ∧ Has m j s ∧ n = (q : Int) ∧ 1 ≤ q ∧ s.n + q ≤ 64) ∨
    ∃ x : Int, (x == 0) = false ∧ Calls Try.prog 17 #[.pointer (some ⟨mb, 0, none⟩), .int .i64 i, .int .i64 n] w fun e w' => e = .returned (.tuple #[.int .i64 0, .int .i64 x]) ∧ w = w' := by
  rcases has_dec m i with ⟨j, s, rfl, hi⟩ | hi
  · by_cases h1 : n < 1
    · exact Or.inr ⟨1, rfl, bump_arg h.2 hi h1⟩
    · by_cases h2 : 64 - (s.n : Int) < n
      · exact Or.inr ⟨2, rfl, bump_full h.2 hi h2⟩
      · have := (h.ok.all.get hi.1).n
        exact Or.inl ⟨j, s, n.toNat, rfl, hi, by omega, by omega, by omega⟩
  · exact Or.inr ⟨19, rfl, bump_none h.2 hi⟩
theorem sumN_snoc (S : List Sg) (l : List Nat) (i : Nat) : sumN S (l ++ [i]) = sumN S l + nOf S i := by
  induction l with
  | nil => simp [sumN]
  | cons a l ih => simp only [List.cons_append, sumN, ih]; omega
theorem sumN_take {S : List Sg} {l : List Nat} {q i : Nat} {s : Sg} (hi : l[q]? = some i) (hs : S[i]? = some s) : sumN S (l.take (q + 1)) = sumN S (l.take q) + s.n := by
  rw [List.take_add_one, hi]
  simp only [Option.toList]
  rw [sumN_snoc]
  simp [nOf, hs]
theorem sumN_take_le (S : List Sg) (l : List Nat) (q : Nat) : sumN S (l.take q) ≤ sumN S l := by
  induction l generalizing q with
  | nil => simp
  | cons a l ih =>
    cases q with
    | zero => simp [sumN]
    | succ q => simp only [List.take_succ_cons, sumN]; have := ih q; omega
def TakeSaid (G : Nat → Prop) (mb : Nat) (m : M) (w w' : World) (e : Ending) : Prop := ∃ (r x : Int) (m' : M), e = .returned (.tuple #[.int .i64 r, .int .i64 x]) ∧ m'.S.length = m.S.length ∧ (∀ a, valOf m.S a = valOf m'.S a) ∧ usedS m'.S = usedS m.S ∧ At G w' mb m' ∧ Keep G w w'
theorem at_take_any (h : At G w mb m) (g k : Int) : Calls Try.prog 13 #[.pointer (some ⟨mb, 0, none⟩), .int .i64 g, .int .i64 k] w fun e w' => TakeSaid G mb m w w' e := by
  by_cases hbad : genB g = false ∨ kindB k = false
  · refine (take_arg h.2 hbad).mono ?_
    rintro e w' ⟨rfl, rfl⟩
    exact ⟨_, _, m, rfl, rfl, fun _ => rfl, rfl, h, Keep.refl _ _⟩
  · have hg : genB g = true := by
      rcases h : genB g with _ | _
      · exact absurd (Or.inl h) hbad
      · rfl
    have hk : kindB k = true := by
      rcases h : kindB k with _ | _
      · exact absurd (Or.inr h) hbad
      · rfl
    by_cases hff : ff m.S = m.S.length
    · refine (at_full h hg hk hff).mono ?_
      rintro e w' ⟨rfl, h1, h2⟩
      exact ⟨_, _, { m with l := m.S.length }, rfl, rfl, fun _ => rfl, rfl, h1, h2⟩
    · have hlt : ff m.S < m.S.length := by have := ff_le m.S; omega
      refine (at_take h hg hk hlt).mono ?_
      rintro e w' ⟨rfl, h1, h2⟩
      exact ⟨_, _, _, rfl, taken_S, fun a => (val_taken hlt a).symm, used_taken hlt, h1, h2⟩
end
end Go.Proofs.Ytmhbbhlmiinobaa
