/- seg.word, Read, Write, Bump, Mark, Seg. -/
import Derived.Test.YtmhbbhlmiinobaaB
set_option linter.unusedVariables false
namespace Go.Proofs.Ytmhbbhlmiinobaa
open Go Go.RowKit
set_option maxHeartbeats 400000
theorem word_neg (p : Option Addr) (i : Int) (w : World) (h : i < 0) :
    Calls Try.prog 30 #[.pointer p, .int .i64 i] w fun e w' => e = .returned (.pointer none) ∧ w = w' := by
  go_enter Try.func30, Try.ntmps30
  go_wp2_with fail
  go_ret
  exact ⟨rfl, rfl⟩
theorem word_nil (i : Int) (w : World) (b : -9223372036854775808 ≤ i ∧ i ≤ 9223372036854775807) :
    Calls Try.prog 30 #[.pointer none, .int .i64 i] w fun e w' => e = .returned (.pointer none) ∧ w = w' := by
  by_cases h0 : i < 0
  · exact word_neg _ _ _ h0
  · have h1 : 0 ≤ i := by omega
    clear h0
    go_enter Try.func30, Try.ntmps30
    go_wp2_with (go_at_call 31; refine (find_nil _ _).mono ?_; rintro e w' ⟨rfl, rfl⟩)
    go_ret
    exact ⟨rfl, rfl⟩
theorem word_far (b n c : Nat) (A : Option Addr) (i : Int) (w : World) (h : w.cell? ⟨b, 0, none⟩ = some (.slice A n c)) (hi : (n : Int) * 64 ≤ i) (hb : i ≤ 9223372036854775807) :
    Calls Try.prog 30 #[.pointer (some ⟨b, 0, none⟩), .int .i64 i] w fun e w' => e = .returned (.pointer none) ∧ w = w' := by
  have h1 : 0 ≤ i := by omega
  have h2 : (n : Int) ≤ i / 64 := by omega
  clear hi
  go_enter Try.func30, Try.ntmps30
  go_wp2_with (go_at_call 31; refine (find_far _ _ _ _ _ _ h (Or.inr h2)).mono ?_; rintro e w' ⟨rfl, rfl⟩)
  go_ret
  exact ⟨rfl, rfl⟩
theorem word_yes' (b n c sb i k : Nat) (a : Int) (w : World) (h : w.cell? ⟨b, 0, none⟩ = some (.slice (some ⟨sb, 0, none⟩) n c)) (hi : i < n) (hn : n ≤ 1024) (ht : w.cell? ⟨sb, i * 72 + 7, none⟩ = some (.bool true))
    (hk : w.cell? ⟨sb, i * 72 + 2, none⟩ = some (.int .i64 k)) (h0 : 0 ≤ a) (hai : Hid (a / 64 = (i : Int))) (hb : a ≤ 9223372036854775807) (hp : a % 64 < (k : Int)) :
    Calls Try.prog 30 #[.pointer (some ⟨b, 0, none⟩), .int .i64 a] w fun e w' => e = .returned (.pointer (some ⟨sb, i * 72 + 8 + (a % 64).toNat, none⟩)) ∧ w = w' := by
  have HC : Hid (Calls Try.prog 31 #[.pointer (some ⟨b, 0, none⟩), .int .i64 (a / 64)] w fun e w' => e = .returned (.pointer (some ⟨sb, i * 72, none⟩)) ∧ w = w') := by
    rw [hai.out]
    exact Lib.hid (find_near _ _ _ _ _ _ h hi hn true ht)
  go_enter Try.func30, Try.ntmps30
  go_wp2_with (go_at_call 31; refine HC.out.mono ?_; rintro e w' ⟨rfl, rfl⟩)
  go_ret
  exact ⟨rfl, rfl⟩
theorem word_no' (b n c sb i k : Nat) (a : Int) (w : World) (t : Bool) (h : w.cell? ⟨b, 0, none⟩ = some (.slice (some ⟨sb, 0, none⟩) n c)) (hi : i < n) (hn : n ≤ 1024) (ht : w.cell? ⟨sb, i * 72 + 7, none⟩ = some (.bool t))
    (hk : w.cell? ⟨sb, i * 72 + 2, none⟩ = some (.int .i64 k)) (h0 : 0 ≤ a) (hai : Hid (a / 64 = (i : Int))) (hb : a ≤ 9223372036854775807) (hp : t = true → (k : Int) ≤ a % 64) :
    Calls Try.prog 30 #[.pointer (some ⟨b, 0, none⟩), .int .i64 a] w fun e w' => e = .returned (.pointer none) ∧ w = w' := by
  cases t
  · have HC : Hid (Calls Try.prog 31 #[.pointer (some ⟨b, 0, none⟩), .int .i64 (a / 64)] w fun e w' => e = .returned (.pointer none) ∧ w = w') := by
      rw [hai.out]
      exact Lib.hid (find_near _ _ _ _ _ _ h hi hn false ht)
    clear hp
    go_enter Try.func30, Try.ntmps30
    go_wp2_with (go_at_call 31; refine HC.out.mono ?_; rintro e w' ⟨rfl, rfl⟩)
    go_ret
    exact ⟨rfl, rfl⟩
  · have HC : Hid (Calls Try.prog 31 #[.pointer (some ⟨b, 0, none⟩), .int .i64 (a / 64)] w fun e w' => e = .returned (.pointer (some ⟨sb, i * 72, none⟩)) ∧ w = w') := by
      rw [hai.out]
      exact Lib.hid (find_near _ _ _ _ _ _ h hi hn true ht)
    have hq := hp rfl
    clear hp
    go_enter Try.func30, Try.ntmps30
    go_wp2_with (go_at_call 31; refine HC.out.mono ?_; rintro e w' ⟨rfl, rfl⟩)
    go_ret
    exact ⟨rfl, rfl⟩
/-- A segment that is taken; a used word. -/
def Has (m : M) (i : Nat) (s : Sg) : Prop := m.S[i]? = some s ∧ s.t = true
def Used (m : M) (a : Int) (i : Nat) (s : Sg) : Prop := 0 ≤ a ∧ a / 64 = (i : Int) ∧ Has m i s ∧ a % 64 < (s.n : Int)
section
variable {w : World} {own : Nat → Prop} {mb sb cp : Nat} {v : Value} {m : M}
theorem MemIs.seg7 (h : MemIs w own mb sb cp v m) (hk : m.Ok) {i : Nat} {s : Sg} (hi : m.S[i]? = some s) : w.cell? ⟨sb, i * 72 + 7, none⟩ = some (.bool s.t) := h.seg hk hi (by omega) (Sg.at7 (hk.all.get hi))
theorem MemIs.seg2 (h : MemIs w own mb sb cp v m) (hk : m.Ok) {i : Nat} {s : Sg} (hi : m.S[i]? = some s) : w.cell? ⟨sb, i * 72 + 2, none⟩ = some (.int .i64 s.n) := h.seg hk hi (by omega) (Sg.at2 s)
theorem get_lt {S : List Sg} {i : Nat} {s : Sg} (hi : S[i]? = some s) : i < S.length := (List.getElem?_eq_some_iff.1 hi).1
theorem find_yes (h : MemIs w own mb sb cp v m) (hk : m.Ok) {i : Nat} {s : Sg} (hi : Has m i s) :
    Calls Try.prog 31 #[.pointer (some ⟨mb, 0, none⟩), .int .i64 i] w fun e w' => e = .returned (.pointer (some ⟨sb, i * 72, none⟩)) ∧ w = w' :=
  find_near _ _ _ _ _ _ h.cell0 (get_lt hi.1) hk.hi true (hi.2 ▸ h.seg7 hk hi.1)
theorem find_no (h : MemIs w own mb sb cp v m) (hk : m.Ok) {i : Int} (hi : ∀ (j : Nat) s, i = (j : Int) → ¬ Has m j s) :
    Calls Try.prog 31 #[.pointer (some ⟨mb, 0, none⟩), .int .i64 i] w fun e w' => e = .returned (.pointer none) ∧ w = w' := by
  by_cases h0 : i < 0 ∨ (m.S.length : Int) ≤ i
  · exact find_far _ _ _ _ _ _ h.cell0 h0
  · obtain ⟨j, rfl⟩ : ∃ j : Nat, i = (j : Int) := ⟨i.toNat, by omega⟩
    have hl : j < m.S.length := by omega
    have hs : m.S[j]? = some m.S[j] := List.getElem?_eq_getElem hl
    have hf : m.S[j].t = false := by
      rcases hb : m.S[j].t with _ | _
      · rfl
      · exact absurd ⟨hs, hb⟩ (hi j _ rfl)
    exact find_near _ _ _ _ _ _ h.cell0 hl hk.hi false (hf ▸ h.seg7 hk hs)
theorem word_yes (h : MemIs w own mb sb cp v m) (hk : m.Ok) {a : Int} {i : Nat} {s : Sg} (hu : Used m a i s) :
    Calls Try.prog 30 #[.pointer (some ⟨mb, 0, none⟩), .int .i64 a] w fun e w' => e = .returned (.pointer (some ⟨sb, i * 72 + 8 + (a % 64).toNat, none⟩)) ∧ w = w' := by
  have hl := get_lt hu.2.2.1.1
  have := hk.hi
  exact word_yes' _ _ _ _ _ _ _ _ h.cell0 hl hk.hi (hu.2.2.1.2 ▸ h.seg7 hk hu.2.2.1.1) (h.seg2 hk hu.2.2.1.1) hu.1 (Lib.hid hu.2.1) (by have := hu.2.1; omega) hu.2.2.2
theorem word_no (h : MemIs w own mb sb cp v m) (hk : m.Ok) {a : Int} (hb : a ≤ 9223372036854775807) (hu : ∀ i s, ¬ Used m a i s) :
    Calls Try.prog 30 #[.pointer (some ⟨mb, 0, none⟩), .int .i64 a] w fun e w' => e = .returned (.pointer none) ∧ w = w' := by
  by_cases h0 : a < 0
  · exact word_neg _ _ _ h0
  · by_cases h1 : (m.S.length : Int) * 64 ≤ a
    · exact word_far _ _ _ _ _ _ h.cell0 h1 hb
    · obtain ⟨j, hj⟩ : ∃ j : Nat, a / 64 = (j : Int) := ⟨(a / 64).toNat, by omega⟩
      have hl : j < m.S.length := by omega
      have hs : m.S[j]? = some m.S[j] := List.getElem?_eq_getElem hl
      refine word_no' _ _ _ _ j _ _ _ m.S[j].t h.cell0 hl hk.hi (h.seg7 hk hs) (h.seg2 hk hs) (by omega) (Lib.hid hj) hb (fun ht => ?_)
      rcases Int.lt_or_le (a % 64) (m.S[j].n : Int) with h2 | h2
      · exact absurd ⟨by omega, hj, ⟨hs, ht⟩, h2⟩ (hu j _)
      · exact h2
end
end Go.Proofs.Ytmhbbhlmiinobaa
