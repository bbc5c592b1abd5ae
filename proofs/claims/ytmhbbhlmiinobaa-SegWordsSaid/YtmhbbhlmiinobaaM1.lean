/- SegLeast: what its calls answer, by cases of a memory. -/
import Derived.Test.YtmhbbhlmiinobaaRw
set_option linter.unusedVariables false
set_option linter.unusedSimpArgs false
namespace Go.Proofs.Ytmhbbhlmiinobaa
open Go Go.RowKit
section
variable {G : Nat → Prop} {mb : Nat} {w w' : World} {m m' : M}
def SegSaid (g k n : Int) (ok : Bool) (B : World) (w' : World) (e : Ending) : Prop := ∃ a b c d : Int, e = .returned (.tuple #[.agg #[.int .i64 g, .int .i64 k, .int .i64 n, .int .i64 a, .int .i64 b, .int .i64 c, .int .i64 d], .bool ok]) ∧ Below B.heap.size B w'
theorem at_seg (h : At G w mb m) {i : Nat} {s : Sg} (hi : Has m i s) :
    Calls Try.prog 19 #[.pointer (some ⟨mb, 0, none⟩), .int .i64 i] w fun e w' => SegSaid s.g s.k s.n true w w' e := by
  refine (seg_yes h.2 hi).mono ?_
  rintro e w' ⟨rfl, hb⟩
  have ho := h.ok.all.get hi.1
  obtain ⟨g, k, n, c, t, ws⟩ := s
  obtain ⟨c1, _, _, _, _, _⟩ := ho
  match c, c1 with
  | [a, b, d, e], _ => exact ⟨a, b, d, e, by rw [told4], hb⟩
theorem at_noseg (h : At G w mb m) {i : Int} (hi : ∀ (j : Nat) s, i = (j : Int) → ¬ Has m j s) :
    Calls Try.prog 19 #[.pointer (some ⟨mb, 0, none⟩), .int .i64 i] w fun e w' => SegSaid 0 0 0 false w w' e := by
  refine (seg_no h.2 hi).mono ?_
  rintro e w' ⟨rfl, hb⟩
  exact ⟨0, 0, 0, 0, by rw [Sg.zero, told4]; rfl, hb⟩
theorem at_free (h : At G w mb m) : Calls Try.prog 22 #[.pointer (some ⟨mb, 0, none⟩)] w fun e w' => e = .returned (.int .i64 (m.S.length - m.o.length)) ∧ At G w' mb m ∧ Keep G w w' := by
  refine (free_at h.2).mono ?_
  rintro e w' ⟨rfl, hb⟩
  exact ⟨rfl, h.below hb, Keep.any hb⟩
def Some2 (G : Nat → Prop) (mb n : Nat) (w w' : World) (e : Ending) : Prop := ∃ (r x : Int) (m' : M), e = .returned (.tuple #[.int .i64 r, .int .i64 x]) ∧ m'.S.length = n ∧ At G w' mb m' ∧ Keep G w w'
theorem has_dec (m : M) (i : Int) : (∃ (j : Nat) (s : Sg), i = (j : Int) ∧ Has m j s) ∨ ∀ (j : Nat) s, i = (j : Int) → ¬ Has m j s := by
  by_cases h : ∃ (j : Nat) (s : Sg), i = (j : Int) ∧ Has m j s
  · exact Or.inl h
  · exact Or.inr fun j s e hh => h ⟨j, s, e, hh⟩
theorem at_bump_any (h : At G w mb m) (i n : Int) (hn : n ≤ 9223372036854775807) :
    Calls Try.prog 17 #[.pointer (some ⟨mb, 0, none⟩), .int .i64 i, .int .i64 n] w fun e w' => Some2 G mb m.S.length w w' e := by
  rcases has_dec m i with ⟨j, s, rfl, hi⟩ | hi
  · by_cases h1 : n < 1
    · refine (bump_arg h.2 hi h1).mono ?_
      rintro e w' ⟨rfl, rfl⟩
      exact ⟨_, _, m, rfl, rfl, h, Keep.refl _ _⟩
    · by_cases h2 : 64 - (s.n : Int) < n
      · refine (bump_full h.2 hi h2).mono ?_
        rintro e w' ⟨rfl, rfl⟩
        exact ⟨_, _, m, rfl, rfl, h, Keep.refl _ _⟩
      · obtain ⟨k, rfl⟩ : ∃ k : Nat, n = (k : Int) := ⟨n.toNat, by omega⟩
        have := (h.ok.all.get hi.1).n
        refine (at_bump h hi (by omega) (by omega)).mono ?_
        rintro e w' ⟨rfl, h1, h2⟩
        exact ⟨_, _, _, rfl, by simp [M.put], h1, h2⟩
  · refine (bump_none h.2 hi).mono ?_
    rintro e w' ⟨rfl, rfl⟩
    exact ⟨_, _, m, rfl, rfl, h, Keep.refl _ _⟩
theorem cntT_full : ∀ {S : List Sg}, (∀ (i : Nat) s, S[i]? = some s → s.t = true) → cntT S = S.length
  | [], _ => rfl
  | s :: S, h => by
    have h0 : s.t = true := h 0 s rfl
    have ih := cntT_full (S := S) (fun i x hx => h (i + 1) x (by simpa using hx))
    simp only [cntT, h0, List.length_cons, ih]; simp; omega
theorem full_none (h : m.Ok) (hf : ff m.S = m.S.length) : m.o.length = m.S.length := by
  rw [h.cnt]
  exact cntT_full (fun i s hs => ff_below (by rw [hf]; exact get_lt hs) hs)
theorem taken_has {g k : Int} (hf : ff m.S < m.S.length) : Has (m.taken g k) (ff m.S) (Sg.fresh g k) := ⟨List.getElem?_set_self hf, rfl⟩
theorem taken_below {g k : Int} (hf : ff m.S < m.S.length) {n : Nat} (hn : n < ff m.S) : ∃ s, Has (m.taken g k) n s := by
  have hl : n < m.S.length := by omega
  refine ⟨m.S[n], ?_, ff_below hn (List.getElem?_eq_getElem hl)⟩
  simp only [M.taken]
  rw [List.getElem?_set_ne (by omega)]
  exact List.getElem?_eq_getElem hl
theorem given_not {i : Nat} {s : Sg} (hi : Has m i s) : ∀ (j : Nat) x, ((i : Nat) : Int) = (j : Int) → ¬ Has (m.given i s) j x := by
  intro j x e hh
  have : i = j := by omega
  subst this
  have h1 := hh.1
  simp only [M.given] at h1
  rw [List.getElem?_set_self (get_lt hi.1)] at h1
  cases h1
  cases hh.2
theorem given_len (h : m.Ok) {i : Nat} {s : Sg} (hi : Has m i s) : (m.given i s).o.length + 1 = m.o.length := by
  have hm : i ∈ m.o := (h.mem i).2 ⟨s, hi⟩
  have := List.length_pos_of_mem hm
  simp only [M.given, List.length_erase_of_mem hm]; omega
theorem taken_S {g k : Int} : (m.taken g k).S.length = m.S.length := by simp [M.taken]
theorem given_S {i : Nat} {s : Sg} : (m.given i s).S.length = m.S.length := by simp [M.given]
end
end Go.Proofs.Ytmhbbhlmiinobaa
