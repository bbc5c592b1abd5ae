import Derived.Test.YtlpogdhdfopioaaH
import Derived.WalkKit
import Derived.Handy
import Derived.Below
import Derived.OneCell
import Derived.Lib.Hide
import Derived.Deep.QuietTactic
import Derived.BigQuiet
namespace Go.Proofs.Ytlpogdhdfopioaa
open Go.RowKit
def AllApart (L : List Int) : Prop := (∀ v ∈ L, 0 ≤ v ∧ v < 18446744073709551616 ∧ (whatN v != 0) = true) ∧ L.Pairwise (· ≠ ·)
theorem pw_app {L M : List Int} (h1 : L.Pairwise (· ≠ ·)) (h2 : M.Pairwise (· ≠ ·)) (h : ∀ a ∈ L, ∀ b ∈ M, a ≠ b) : (L ++ M).Pairwise (· ≠ ·) := List.pairwise_append.2 ⟨h1, h2, h⟩
theorem opt_pw (e x : Int) : (opt e x).Pairwise (· ≠ ·) := by unfold opt; split <;> simp
theorem fix_mem {x v : Int} (h : v ∈ opt (fixE x) (fixR x)) : -1152921504606846976 ≤ x ∧ x ≤ 1152921504606846975 ∧ v = fixW x := by
  rw [opt_mem] at h
  unfold fixE fixR at h
  by_cases a : -1152921504606846976 ≤ x ∧ x ≤ 1152921504606846975
  · rw [if_pos a, if_pos a] at h; exact ⟨a.1, a.2, h.2⟩
  · rw [if_neg a] at h; omega
theorem char_mem {c v : Int} (lo : -2147483648 ≤ c) (hi : c ≤ 2147483647) (h : v ∈ opt (charE c) (charR c)) : 0 ≤ c ∧ c ≤ 1114111 ∧ charB c = true ∧ v = c * 256 + 60 := by
  rw [opt_mem] at h
  unfold charE charR at h
  cases a : charB (c % 18446744073709551616)
  · rw [a, if_neg (by decide)] at h; omega
  · rw [a, if_pos rfl, if_pos rfl] at h
    have := charB_le _ a
    have e : c % 18446744073709551616 = c := by omega
    rw [e] at a
    exact ⟨by omega, by omega, a, h.2⟩
theorem at_mem {t a v : Int} (h : v ∈ opt (atE t a) (atR t a)) : (t = 1 ∨ t = 2 ∨ t = 3 ∨ t = 6) ∧ 0 ≤ a ∧ a < 65536 ∧ v = a * 8 + t := by
  rw [opt_mem] at h
  unfold atE atR at h
  by_cases b : tagB t = true
  · rw [if_pos b, if_pos b] at h
    by_cases c : 0 ≤ a ∧ a < 65536
    · rw [if_pos c, if_pos c] at h; exact ⟨(tagB_iff t).1 b, c.1, c.2, h.2⟩
    · rw [if_neg c] at h; omega
  · rw [if_neg b] at h; omega
theorem hd_mem {k n m v : Int} (lk : -9223372036854775808 ≤ k) (hk : k ≤ 9223372036854775807) (ln : -9223372036854775808 ≤ n) (hn : n ≤ 9223372036854775807) (h : v ∈ opt (hdE k n m) (hdR k n m)) :
    1 ≤ k ∧ k ≤ 13 ∧ 0 ≤ n ∧ n ≤ 62 ∧ m < 281474976710656 ∧ v = m * 65536 + n * 256 + k * 8 + 5 := by
  rw [opt_mem] at h
  unfold hdE hdR at h
  cases a : headB (IntKind.u64.wrap k) (IntKind.u64.wrap n) m
  · rw [a, if_neg (by decide)] at h; omega
  · rw [a, if_pos rfl, if_pos rfl] at h
    obtain ⟨p, q, r, s, u⟩ := head_in k n m lk hk ln hn a
    exact ⟨p, q, r, s, u, h.2⟩
/-- which words a list may hold: by class, up to the class j -/
def Cls (j : Nat) (v : Int) : Prop := 0 ≤ v ∧ v < 18446744073709551616 ∧ (whatN v != 0) = true ∧ (v % 8 = 0 ∨ (1 ≤ j ∧ v % 8 = 4 ∧ v / 8 % 32 = 7) ∨ (2 ≤ j ∧ (v % 8 = 1 ∨ v % 8 = 2 ∨ v % 8 = 3 ∨ v % 8 = 6)) ∨ (3 ≤ j ∧ v % 8 = 5))
theorem bne_of {a b : Int} (h : a ≠ b) : (a != b) = true := bne_iff_ne.2 h
theorem fix_cls {x v : Int} (h : v ∈ opt (fixE x) (fixR x)) : Cls 0 v := by
  obtain ⟨a, b, rfl⟩ := fix_mem h
  have e : fixW x % 8 = 0 := by unfold fixW; omega
  refine ⟨by unfold fixW; omega, by unfold fixW; omega, bne_of ?_, .inl e⟩
  unfold whatN; rw [if_pos e]; decide
theorem char_cls {c v : Int} (lo : -2147483648 ≤ c) (hi : c ≤ 2147483647) (h : v ∈ opt (charE c) (charR c)) : Cls 1 v := by
  obtain ⟨a, b, hc, rfl⟩ := char_mem lo hi h
  have e1 : (c * 256 + 60) % 8 = 4 := by omega
  have e2 : (c * 256 + 60) / 8 % 32 = 7 := by omega
  have e3 : (c * 256 + 60) / 8 / 32 = c := by omega
  refine ⟨by omega, by omega, bne_of ?_, .inr (.inl ⟨by omega, e1, e2⟩)⟩
  unfold whatN; rw [if_neg (by omega), if_pos e1, e2, e3]
  unfold constN; rw [if_pos ⟨rfl, hc⟩]; decide
theorem at_cls {t a v : Int} (h : v ∈ opt (atE t a) (atR t a)) : Cls 2 v := by
  obtain ⟨ht, a0, a1, rfl⟩ := at_mem h
  have e1 : (a * 8 + t) % 8 = t := by omega
  refine ⟨by omega, by omega, bne_of ?_, .inr (.inr (.inl ⟨by omega, by omega⟩))⟩
  unfold whatN; rw [if_neg (by omega), if_neg (by omega), if_neg (by omega), if_neg (by omega), if_pos (by omega)]; decide
theorem hd_cls {k n m v : Int} (lk : -9223372036854775808 ≤ k) (hk : k ≤ 9223372036854775807) (ln : -9223372036854775808 ≤ n) (hn : n ≤ 9223372036854775807) (m0 : 0 ≤ m) (h : v ∈ opt (hdE k n m) (hdR k n m)) : Cls 3 v := by
  obtain ⟨k0, k1, n0, n1, m1, rfl⟩ := hd_mem lk hk ln hn h
  have e1 : (m * 65536 + n * 256 + k * 8 + 5) % 8 = 5 := by omega
  have e2 : (m * 65536 + n * 256 + k * 8 + 5) / 8 % 32 = k := by omega
  have e3 : (m * 65536 + n * 256 + k * 8 + 5) / 8 / 32 % 256 = n := by omega
  have e4 : (m * 65536 + n * 256 + k * 8 + 5) / 8 / 32 / 256 = m := by omega
  refine ⟨by omega, by omega, bne_of ?_, .inr (.inr (.inr ⟨by omega, e1⟩))⟩
  unfold whatN; rw [if_neg (by omega), if_neg (by omega), if_pos e1, e2, e3, e4, if_pos (by simp [headB, k0, k1, n1, m1])]; decide
theorem Cls.up {j i : Nat} {v : Int} (h : Cls j v) (hi : j ≤ i) : Cls i v := by
  obtain ⟨a, b, c, d⟩ := h
  exact ⟨a, b, c, by omega⟩
/-- a list of words of the classes up to j, unlike one another -/
structure Lst (j : Nat) (L : List Int) : Prop where
  cls : ∀ v ∈ L, Cls j v
  pw : L.Pairwise (· ≠ ·)
theorem Lst.nil : Lst 0 [] := ⟨fun v h => by simp at h, List.Pairwise.nil⟩
theorem Lst.app {j i : Nat} {L M : List Int} (h : Lst j L) (hj : j ≤ i) (hM : Lst i M) (hn : ∀ a ∈ L, ∀ b ∈ M, a ≠ b) : Lst i (L ++ M) :=
  ⟨fun v hv => (List.mem_append.1 hv).elim (fun a => (h.cls v a).up hj) (hM.cls v), pw_app h.pw hM.pw hn⟩
theorem Lst.none {j : Nat} {L : List Int} (h : Lst j L) (i : Nat) (hj : j ≤ i) : Lst i (L ++ []) := by
  rw [List.append_nil]; exact ⟨fun v hv => (h.cls v hv).up hj, h.pw⟩
theorem lst_fix (x : Int) : Lst 0 ([] ++ opt (fixE x) (fixR x)) := Lst.nil.app (Nat.le_refl _) ⟨fun _ h => fix_cls h, opt_pw _ _⟩ (fun _ h => by simp at h)
theorem lst_fix2 (x y : Int) (hxy : x ≠ y) : Lst 0 ([] ++ opt (fixE x) (fixR x) ++ opt (fixE y) (fixR y)) := by
  refine (lst_fix x).app (Nat.le_refl _) ⟨fun _ h => fix_cls h, opt_pw _ _⟩ fun a ha b hb => ?_
  rw [List.nil_append] at ha
  obtain ⟨p, q, rfl⟩ := fix_mem ha
  obtain ⟨r, s, rfl⟩ := fix_mem hb
  unfold fixW; omega
theorem Lst.char {L : List Int} (h : Lst 0 L) (c : Int) (lo : -2147483648 ≤ c) (hi : c ≤ 2147483647) : Lst 1 (L ++ opt (charE c) (charR c)) :=
  h.app (by decide) ⟨fun _ h => char_cls lo hi h, opt_pw _ _⟩ fun a ha b hb => by
    have := h.cls a ha
    obtain ⟨_, _, _, rfl⟩ := char_mem lo hi hb
    unfold Cls at this
    omega
theorem Lst.char2 {L : List Int} (h : Lst 0 L) (c d : Int) (hcd : c ≠ d) (lo : -2147483648 ≤ c) (hi : c ≤ 2147483647) (lo' : -2147483648 ≤ d) (hi' : d ≤ 2147483647) : Lst 1 (L ++ opt (charE c) (charR c) ++ opt (charE d) (charR d)) :=
  (h.char c lo hi).app (by decide) ⟨fun _ h => char_cls lo' hi' h, opt_pw _ _⟩ fun a ha b hb => by
    obtain ⟨_, _, _, rfl⟩ := char_mem lo' hi' hb
    rcases List.mem_append.1 ha with k | k
    · have := h.cls a k
      unfold Cls at this
      omega
    · obtain ⟨_, _, _, rfl⟩ := char_mem lo hi k
      omega
theorem Lst.at {L : List Int} (h : Lst 1 L) (t a : Int) : Lst 2 (L ++ opt (atE t a) (atR t a)) :=
  h.app (by decide) ⟨fun _ h => at_cls h, opt_pw _ _⟩ fun u hu b hb => by
    have := h.cls u hu
    obtain ⟨_, _, _, rfl⟩ := at_mem hb
    unfold Cls at this
    omega
theorem Lst.at2 {L : List Int} (h : Lst 1 L) (t a o : Int) (hao : a ≠ o) : Lst 2 (L ++ opt (atE t a) (atR t a) ++ opt (atE t o) (atR t o)) :=
  (h.at t a).app (by decide) ⟨fun _ h => at_cls h, opt_pw _ _⟩ fun u hu b hb => by
    obtain ⟨_, _, _, rfl⟩ := at_mem hb
    rcases List.mem_append.1 hu with k | k
    · have := h.cls u k
      unfold Cls at this
      omega
    · obtain ⟨_, _, _, rfl⟩ := at_mem k
      omega
theorem Lst.head {L : List Int} (h : Lst 2 L) (k n m : Int) (lk : -9223372036854775808 ≤ k) (hk : k ≤ 9223372036854775807) (ln : -9223372036854775808 ≤ n) (hn : n ≤ 9223372036854775807) (m0 : 0 ≤ m) : Lst 3 (L ++ opt (hdE k n m) (hdR k n m)) :=
  h.app (by decide) ⟨fun _ h => hd_cls lk hk ln hn m0 h, opt_pw _ _⟩ fun u hu b hb => by
    have := h.cls u hu
    obtain ⟨_, _, _, _, _, rfl⟩ := hd_mem lk hk ln hn hb
    unfold Cls at this
    omega
theorem Lst.all {L : List Int} (h : Lst 3 L) : AllApart (L ++ [4, 12, 20, 28, 36, 44, 52]) := by
  refine ⟨fun v hv => ?_, pw_app h.pw (by decide) fun a ha b hb => ?_⟩
  · rcases List.mem_append.1 hv with k | k
    · have := h.cls v k
      exact ⟨this.1, this.2.1, this.2.2.1⟩
    · simp only [List.mem_cons, List.not_mem_nil, or_false] at k
      rcases k with rfl | rfl | rfl | rfl | rfl | rfl | rfl <;> decide
  · have := h.cls a ha
    simp only [List.mem_cons, List.not_mem_nil, or_false] at hb
    unfold Cls at this
    omega
end Go.Proofs.Ytlpogdhdfopioaa
