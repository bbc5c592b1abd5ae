import Derived.Test.YtlpogdhdfopioaaC
import Derived.WalkKit
import Derived.Handy
import Derived.Below
import Derived.OneCell
import Derived.Lib.Hide
import Derived.Deep.QuietTactic
import Derived.BigQuiet
namespace Go.Proofs.Ytlpogdhdfopioaa
open Go.RowKit
/-- the five kinds of words that may be, and the words that may not -/
inductive Kind (x : Int) : Prop
  | fix (h : whatN x = 1) (h8 : x % 8 = 0)
  | const (h : x = 4 ∨ x = 12 ∨ x = 20 ∨ x = 28 ∨ x = 36 ∨ x = 44 ∨ x = 52)
  | char (h : whatN x = 3) (h8 : x % 8 = 4) (lo : x / 8 % 32 = 7) (hc : charB (x / 8 / 32) = true) (hm : x / 8 / 32 ≤ 1114111)
  | addr (h : whatN x = 4) (h8 : x % 8 = 1 ∨ x % 8 = 2 ∨ x % 8 = 3 ∨ x % 8 = 6) (hl : x / 8 < 65536)
  | head (h : whatN x = 5) (h8 : x % 8 = 5) (k0 : 1 ≤ x / 8 % 32) (k1 : x / 8 % 32 ≤ 13) (n1 : x / 8 / 32 % 256 ≤ 62)
  | none (h : whatN x = 0) (h0 : x % 8 = 4 → (x / 8 % 32 = 7 ∧ charB (x / 8 / 32) = false) ∨ (x / 8 % 32 < 7 ∧ 0 < x / 8 / 32) ∨ 7 < x / 8 % 32)
      (h5 : x % 8 = 5 → headB (x / 8 % 32) (x / 8 / 32 % 256) (x / 8 / 32 / 256) = false) (h3 : x % 8 = 1 ∨ x % 8 = 2 ∨ x % 8 = 3 ∨ x % 8 = 6 → 65536 ≤ x / 8) (h00 : x % 8 ≠ 0)

theorem charB_le (n : Int) (h : charB n = true) : n ≤ 1114111 := by
  unfold charB at h
  simp only [Bool.and_eq_true, Bool.or_eq_true, decide_eq_true_eq] at h
  omega

theorem kind_of (x : Int) (h0 : 0 ≤ x) (h1 : x < 18446744073709551616) : Kind x := by
  by_cases a : x % 8 = 0
  · exact .fix (by unfold whatN; rw [if_pos a]) a
  by_cases b : x % 8 = 4
  · have e : whatN x = constN (x / 8 % 32) (x / 8 / 32) := by unfold whatN; rw [if_neg a, if_pos b]
    unfold constN at e
    by_cases c : x / 8 % 32 = 7
    · cases hc : charB (x / 8 / 32)
      · refine .none (by rw [e, if_neg (by simp [hc]), if_neg (by omega)]) (fun _ => .inl ⟨c, hc⟩) (fun h => by omega) (fun h => by omega) a
      · exact .char (by rw [e, if_pos ⟨c, hc⟩]) b c hc (charB_le _ hc)
    · have hn : ¬(x / 8 % 32 = 7 ∧ charB (x / 8 / 32) = true) := fun h => c h.1
      by_cases d : x / 8 % 32 < 7
      · by_cases f : x / 8 / 32 = 0
        · exact .const (by omega)
        · exact .none (by rw [e, if_neg hn, if_neg (by omega)]) (fun _ => .inr (.inl ⟨d, by omega⟩)) (fun h => by omega) (fun h => by omega) a
      · exact .none (by rw [e, if_neg hn, if_neg (by omega)]) (fun _ => .inr (.inr (by omega))) (fun h => by omega) (fun h => by omega) a
  by_cases c : x % 8 = 5
  · have e : whatN x = (if headB (x / 8 % 32) (x / 8 / 32 % 256) (x / 8 / 32 / 256) = true then 5 else 0) := by unfold whatN; rw [if_neg a, if_neg b, if_pos c]
    cases hh : headB (x / 8 % 32) (x / 8 / 32 % 256) (x / 8 / 32 / 256)
    · exact .none (by rw [e, hh]; rfl) (fun h => by omega) (fun _ => hh) (fun h => by omega) a
    · have hh' := hh
      unfold headB at hh'
      simp only [Bool.and_eq_true, decide_eq_true_eq] at hh'
      exact .head (by rw [e, hh]; rfl) c hh'.1.1.1 hh'.1.1.2 hh'.1.2
  by_cases d : x % 8 = 7
  · exact .none (by unfold whatN; rw [if_neg a, if_neg b, if_neg c, if_pos d]) (fun h => by omega) (fun h => by omega) (fun h => by omega) a
  by_cases f : x / 8 < 65536
  · exact .addr (by unfold whatN; rw [if_neg a, if_neg b, if_neg c, if_neg d, if_pos f]) (by omega) f
  · exact .none (by unfold whatN; rw [if_neg a, if_neg b, if_neg c, if_neg d, if_neg f]) (fun h => by omega) (fun h => by omega) (fun _ => by omega) a

theorem below_then {w w1 w2 : World} (h : Below w.heap.size w w1) (k : Below w1.heap.size w1 w2) : Below w.heap.size w w2 := h.trans (k.mono h.size)
theorem fix_back (x : Int) (h0 : 0 ≤ x) (h1 : x < 18446744073709551616) (h8 : x % 8 = 0) : -1152921504606846976 ≤ fixV x ∧ fixV x ≤ 1152921504606846975 ∧ fixW (fixV x) = x := by
  unfold fixV fixW
  omega
theorem fix_to (x r : Int) (h0 : -1152921504606846976 ≤ x) (h1 : x ≤ 1152921504606846975) (hr : fixW x = r) (w : World) :
    Calls Try.prog 18 #[.int .i64 x] w fun e w' => e = .returned (.tuple #[.int .u64 r, .int .i64 0]) ∧ w' = w := by
  subst hr; exact fix_yes x h0 h1 w
theorem char_to (c r : Int) (h0 : 0 ≤ c) (h1 : c ≤ 1114111) (hk : charB c = true) (hr : c * 256 + 60 = r) (w : World) :
    Calls Try.prog 21 #[.int .i32 c] w fun e w' => e = .returned (.tuple #[.int .u64 r, .int .i64 0]) ∧ w' = w := by
  subst hr; exact char_yes c h0 h1 hk w
theorem at_to (t a r : Int) (ht : t = 1 ∨ t = 2 ∨ t = 3 ∨ t = 6) (h0 : 0 ≤ a) (h1 : a < 65536) (hr : a * 8 + t = r) (w : World) :
    Calls Try.prog 23 #[.int .i64 t, .int .i64 a] w fun e w' => e = .returned (.tuple #[.int .u64 r, .int .i64 0]) ∧ Below w.heap.size w w' := by
  subst hr; exact at_yes t a ht h0 h1 w
theorem header_to (k n m r : Int) (k0 : 1 ≤ k) (k1 : k ≤ 13) (n0 : 0 ≤ n) (n1 : n ≤ 62) (m0 : 0 ≤ m) (m1 : m < 281474976710656) (hr : m * 65536 + n * 256 + k * 8 + 5 = r) (w : World) :
    Calls Try.prog 24 #[.int .i64 k, .int .i64 n, .int .u64 m] w fun e w' => e = .returned (.tuple #[.int .u64 r, .int .i64 0]) ∧ w' = w := by
  subst hr; exact header_yes k n m k0 k1 n0 n1 m0 m1 w
end Go.Proofs.Ytlpogdhdfopioaa
