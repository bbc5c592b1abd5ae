import Derived.Test.YtlpogdhdfopioaaE
import Derived.WalkKit
import Derived.Handy
import Derived.Below
import Derived.OneCell
import Derived.Lib.Hide
import Derived.Deep.QuietTactic
import Derived.BigQuiet
import Derived.OwnWalk
import Derived.Laws.AppendOwn
namespace Go.Proofs.Ytlpogdhdfopioaa
open Go.RowKit
theorem info23 : (Try.prog.info? 23).map (fun i => (i.zero, i.size, i.bytes)) = some (some (.int .u64 0), 1, 8) := by kernel_rfl
/-- a slice of words that the call has made -/
def Own (w : World) (base : Nat) (v : Value) (xs : List Int) : Prop := w.ownsRow base 23 1 v xs.length (xs.map (Value.int .u64))
def Got (base : Nat) (w : World) (xs : List Int) (e : Ending) (w' : World) : Prop := ∃ v', e = .returned v' ∧ Own w' base v' xs ∧ Below base w w'
theorem own_alloc {w : World} {base : Nat} {v : Value} {xs : List Int} (h : Own w base v xs) (o : Obj) : Own (w.alloc o) base v xs := World.ownsRow.alloc h o
theorem own_below {w w' : World} {base : Nat} {v : Value} {xs : List Int} (h : Own w base v xs) (k : Below w.heap.size w w') : Own w' base v xs := by
  obtain ⟨h1, h2⟩ := h
  refine ⟨h1, ?_⟩
  rcases h2 with h2 | ⟨g, cap, cur, hv, hg, hh, r⟩
  · exact .inl h2
  · exact .inr ⟨g, cap, cur, hv, hg, (k.block g (lt_of_block hh)).trans hh, r⟩
def opt (e x : Int) : List Int := if e = 0 then [x] else []
theorem opt_le (e x : Int) : (opt e x).length ≤ 1 := by unfold opt; split <;> simp
theorem opt_mem (e x v : Int) : v ∈ opt e x ↔ e = 0 ∧ v = x := by unfold opt; split <;> simp [*]
theorem own_grown {w w1 w2 : World} {base : Nat} {v : Value} {xs : List Int} (hown : Own w base v xs) (hbase : base ≤ w.heap.size) (o : Obj) (e : w1 = w.alloc o) (hg : w1.grownBy w2 v.ownBlock) : Below base w w2 := by
  subst e
  exact ((Below.refl base w).alloc hbase o).grown hg (by simp; omega) (fun k hk => (World.ownsRow.lt hown k hk).1)
theorem good_yes (base : Nat) (v : Value) (xs : List Int) (x : Int) (w : World) (hown : Own w base v xs) (hbase : base ≤ w.heap.size) (hlen : xs.length ≤ 100) :
    Calls Try.prog 25 #[v, .int .u64 x, .int .i64 0] w (Got base w (xs ++ [x])) := by
  obtain ⟨i0, hi, hz0, hz1, hz2⟩ := info_parts info23
  have hml : xs.length + 1 ≤ maxLen := by unfold maxLen; omega
  have hnew : (w.alloc (.cells #[.int .u64 x] 23 (0, 0))).cell? ⟨w.heap.size, 0, none⟩ = some (.int .u64 x) := by unfold World.cell?; dsimp only; rw [heap_alloc_new]; rfl
  go_enter Try.func25, Try.ntmps25
  go_wp2_with (at_builtin; refine wpList_append_own _ rfl _ _ 51 rfl base 23 i0 (.int .u64 0) 1 8 Try.underlying51 hi hz0 hz1 hz2 rfl (by decide) v xs.length _ rfl (World.ownsRow.alloc hown _) ⟨w.heap.size, 0, none⟩ 1 1 [.int .u64 x] rfl rfl ?c1 ?c2 hml ?c4 ?c5 ?_)
  case c1 =>
    intro j u hu
    match j with
    | 0 => simp at hu; subst hu; exact hnew
    | j + 1 => simp at hu
  case c2 => intro u hu; simp at hu; subst hu; rfl
  case c4 => omega
  case c5 => simp; omega
  intro v' w' hown' hgrow _
  have hb := own_grown hown hbase _ rfl hgrow
  have ho : Own w' base v' (xs ++ [x]) := by unfold Own; rw [List.length_append, List.map_append]; exact hown'
  clear hown' hgrow hnew
  go_wp2
  go_ret
  exact ⟨v', rfl, ho, hb⟩
theorem good_no (base : Nat) (v : Value) (xs : List Int) (x e : Int) (he : (e == 0) = false) (w : World) (hown : Own w base v xs) :
    Calls Try.prog 25 #[v, .int .u64 x, .int .i64 e] w (Got base w xs) := by
  go_enter Try.func25, Try.ntmps25
  go_wp2
  go_ret
  exact ⟨v, rfl, hown, Below.refl _ _⟩
theorem good_any (base : Nat) (v : Value) (xs : List Int) (x e : Int) (w : World) (hown : Own w base v xs) (hbase : base ≤ w.heap.size) (hlen : xs.length ≤ 100) :
    Calls Try.prog 25 #[v, .int .u64 x, .int .i64 e] w (Got base w (xs ++ opt e x)) := by
  by_cases he : e = 0
  · subst he
    exact good_yes base v xs x w hown hbase hlen
  · have : opt e x = [] := by unfold opt; rw [if_neg he]
    rw [this, List.append_nil]
    exact good_no base v xs x e (by rw [beq_eq_false_iff_ne]; exact he) w hown

/-- the words that the four calls answer, and their errors -/
def fixE (x : Int) : Int := if -1152921504606846976 ≤ x ∧ x ≤ 1152921504606846975 then 0 else 4
def fixR (x : Int) : Int := if -1152921504606846976 ≤ x ∧ x ≤ 1152921504606846975 then fixW x else 0
theorem fix_both (x : Int) (w : World) : Calls Try.prog 18 #[.int .i64 x] w fun e w' => e = .returned (.tuple #[.int .u64 (fixR x), .int .i64 (fixE x)]) ∧ w' = w := by
  unfold fixR fixE
  by_cases h : -1152921504606846976 ≤ x ∧ x ≤ 1152921504606846975
  · rw [if_pos h, if_pos h]; exact fix_yes x h.1 h.2 w
  · rw [if_neg h, if_neg h]; exact fix_no x (by omega) w
def charE (c : Int) : Int := if charB (c % 18446744073709551616) = true then 0 else 4
def charR (c : Int) : Int := if charB (c % 18446744073709551616) = true then c * 256 + 60 else 0
theorem char_both (c : Int) (lo : -2147483648 ≤ c) (hi : c ≤ 2147483647) (w : World) : Calls Try.prog 21 #[.int .i32 c] w fun e w' => e = .returned (.tuple #[.int .u64 (charR c), .int .i64 (charE c)]) ∧ w' = w := by
  unfold charR charE
  cases h : charB (c % 18446744073709551616)
  · rw [if_neg (by decide), if_neg (by decide)]; exact char_no c h w
  · have := charB_le _ h
    have h0 : 0 ≤ c := by omega
    have e : c % 18446744073709551616 = c := by omega
    rw [e] at h
    rw [if_pos rfl, if_pos rfl]; exact char_yes c h0 (by omega) h w
def tagB (t : Int) : Bool := decide (t = 1) || decide (t = 2) || decide (t = 3) || decide (t = 6)
theorem tagB_iff (t : Int) : tagB t = true ↔ (t = 1 ∨ t = 2 ∨ t = 3 ∨ t = 6) := by
  unfold tagB; simp only [Bool.or_eq_true, decide_eq_true_eq]; omega
def atE (t a : Int) : Int := if tagB t = true then (if 0 ≤ a ∧ a < 65536 then 0 else 18) else 1
def atR (t a : Int) : Int := if tagB t = true then (if 0 ≤ a ∧ a < 65536 then a * 8 + t else 0) else 0
theorem at_both (t a : Int) (lo : -9223372036854775808 ≤ t) (hi : t ≤ 9223372036854775807) (w : World) : Calls Try.prog 23 #[.int .i64 t, .int .i64 a] w fun e w' => e = .returned (.tuple #[.int .u64 (atR t a), .int .i64 (atE t a)]) ∧ Below w.heap.size w w' := by
  unfold atR atE
  by_cases ht : tagB t = true
  · rw [if_pos ht, if_pos ht]
    have ht' := (tagB_iff t).1 ht
    by_cases ha : 0 ≤ a ∧ a < 65536
    · rw [if_pos ha, if_pos ha]; exact at_yes t a ht' ha.1 ha.2 w
    · rw [if_neg ha, if_neg ha]; exact at_addr t a ht' (by omega) w
  · rw [if_neg ht, if_neg ht]
    exact at_tag t a lo hi (fun h => ht ((tagB_iff t).2 h)) w
def hdE (k n m : Int) : Int := if headB (IntKind.u64.wrap k) (IntKind.u64.wrap n) m = true then 0 else 1
def hdR (k n m : Int) : Int := if headB (IntKind.u64.wrap k) (IntKind.u64.wrap n) m = true then m * 65536 + n * 256 + k * 8 + 5 else 0
theorem head_in (k n m : Int) (lk : -9223372036854775808 ≤ k) (hk : k ≤ 9223372036854775807) (ln : -9223372036854775808 ≤ n) (hn : n ≤ 9223372036854775807)
    (h : headB (IntKind.u64.wrap k) (IntKind.u64.wrap n) m = true) : 1 ≤ k ∧ k ≤ 13 ∧ 0 ≤ n ∧ n ≤ 62 ∧ m < 281474976710656 := by
  rw [IntKind.wrap_u64, IntKind.wrap_u64] at h
  unfold headB at h
  simp only [Bool.and_eq_true, decide_eq_true_eq] at h
  omega
theorem header_both (k n m : Int) (lk : -9223372036854775808 ≤ k) (hk : k ≤ 9223372036854775807) (ln : -9223372036854775808 ≤ n) (hn : n ≤ 9223372036854775807) (m0 : 0 ≤ m) (w : World) :
    Calls Try.prog 24 #[.int .i64 k, .int .i64 n, .int .u64 m] w fun e w' => e = .returned (.tuple #[.int .u64 (hdR k n m), .int .i64 (hdE k n m)]) ∧ w' = w := by
  unfold hdR hdE
  cases h : headB (IntKind.u64.wrap k) (IntKind.u64.wrap n) m
  · rw [if_neg (by decide), if_neg (by decide)]; exact header_no k n m h w
  · obtain ⟨a, b, c, d, f⟩ := head_in k n m lk hk ln hn h
    rw [if_pos rfl, if_pos rfl]; exact header_yes k n m a b c d m0 f w
end Go.Proofs.Ytlpogdhdfopioaa
