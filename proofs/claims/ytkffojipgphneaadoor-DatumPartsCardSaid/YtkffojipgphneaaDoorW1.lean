/- awake. -/
import Derived.Test.YtkffojipgphneaaDoorW0
set_option linter.unusedVariables false
set_option linter.unusedSimpArgs false
namespace Go.Proofs.YtkffojipgphneaaDoor
open Go Go.RowKit
theorem aw7 (w : World) :
    Calls Tryd.prog 20 #[.int .i64 7] w fun e w' => ∃ A c, e = .returned (.agg #[.int .i64 4, .int .i32 0, .bool false, .slice A 1 c, .string ⟨#[]⟩, .slice none 0 0]) ∧ Val (fun k => w.heap.size ≤ k) w' (nD 7 A c) .nil ∧ Below w.heap.size w w' := aw_int 7 lims7 (by decide) w
theorem aw8 (w : World) :
    Calls Tryd.prog 20 #[.int .i64 8] w fun e w' => ∃ A c, e = .returned (.agg #[.int .i64 4, .int .i32 0, .bool false, .slice A 1 c, .string ⟨#[]⟩, .slice none 0 0]) ∧ Val (fun k => w.heap.size ≤ k) w' (nD 8 A c) .nil ∧ Below w.heap.size w w' := aw_int 8 lims8 (by decide) w
theorem aw_list2 (A B : Option Addr) (a b g : Nat) (V : World) (h : V.heap[g]? = some (.cells #[.int .i64 4, .int .i32 0, .bool false, .slice A 1 a, .string ⟨#[]⟩, .slice none 0 0, .int .i64 4, .int .i32 0, .bool false, .slice B 1 b, .string ⟨#[]⟩, .slice none 0 0] 27 (0, 0)))
    (v7 : Val (fun k => k < V.heap.size) V (nD 7 A a) .nil) (v8 : Val (fun k => k < V.heap.size) V (nD 8 B b) .nil) :
    Calls Tryd.prog 25 #[.slice (some ⟨g, 0, none⟩) 2 2] V fun x w' => ∃ (d' : D) (f' : F), x = .returned (.agg #[.int .i64 d'.k, .int .i32 d'.c, .bool d'.neg, .slice d'.mA d'.mag.length d'.mcap, .string d'.t, .slice d'.lA f'.len d'.lcap]) ∧ Val (fun k => V.heap.size ≤ k) w' d' f' ∧ sameD (lstD (fl2 A a B b)) (lstF (fl2 A a B b)) d' f' = true ∧ Below V.heap.size V w' := by
  have hlt := (Array.getElem?_eq_some_iff.1 h).1
  obtain ⟨n1, n2⟩ := Node.of12 (d := nD 7 A a) (e := nD 8 B b) (m := 0) (n := 0) h
  exact list_any (fl2 A a B b) (some ⟨g, 0, none⟩) g 0 2 V (Lib.hid fun _ => rfl) ⟨⟨hlt, n1, v7.ok, v7.mag, v7.kids⟩, ⟨hlt, n2, v8.ok, v8.mag, v8.kids⟩, trivial⟩ (by simp [fl2, F.cnt])
theorem aw_list1 (B : Option Addr) (b g : Nat) (V : World) (h : V.heap[g]? = some (.cells #[.int .i64 4, .int .i32 0, .bool false, .slice B 1 b, .string ⟨#[]⟩, .slice none 0 0] 27 (0, 0)))
    (v8 : Val (fun k => k < V.heap.size) V (nD 8 B b) .nil) :
    Calls Tryd.prog 25 #[.slice (some ⟨g, 0, none⟩) 1 1] V fun x w' => ∃ (d' : D) (f' : F), x = .returned (.agg #[.int .i64 d'.k, .int .i32 d'.c, .bool d'.neg, .slice d'.mA d'.mag.length d'.mcap, .string d'.t, .slice d'.lA f'.len d'.lcap]) ∧ Val (fun k => V.heap.size ≤ k) w' d' f' ∧ sameD (lstD (fl1 B b)) (lstF (fl1 B b)) d' f' = true ∧ Below V.heap.size V w' := by
  have hlt := (Array.getElem?_eq_some_iff.1 h).1
  have n2 := Node.of_six (d := nD 8 B b) (m := 0) h
  exact list_any (fl1 B b) (some ⟨g, 0, none⟩) g 0 1 V (Lib.hid fun _ => rfl) ⟨⟨hlt, n2, v8.ok, v8.mag, v8.kids⟩, trivial⟩ (by simp [fl1, F.cnt])
theorem same_n (x : Nat) (A B : Option Addr) (a b : Nat) : sameD (nD x A a) .nil (nD x B b) .nil = true := by simp [sameD, sameF, alB, alR, nD]
theorem aw_same {A B A' B' : Option Addr} {a b a' b' : Nat} {dl e d' : D} {fl g f' : F} (h1 : sameD (lstD (fl2 A a B b)) (lstF (fl2 A a B b)) dl fl = true) (h2 : sameD (lstD (fl1 B' b')) (lstF (fl1 B' b')) e g = true) (h3 : sameD (pairD none) (two (nD 7 A' a') .nil e g) d' f' = true) :
    sameD dl fl d' f' = true := by
  have h4 : sameD (lstD (fl1 B b)) (lstF (fl1 B b)) (lstD (fl1 B' b')) (lstF (fl1 B' b')) = true := same_two (same_n 8 B B' b b') (sameD_refl _ _)
  have h5 : sameD (pairD none) (two (nD 7 A a) .nil (lstD (fl1 B b)) (lstF (fl1 B b))) (pairD none) (two (nD 7 A' a') .nil e g) = true := same_two (same_n 7 A A' a a') (sameD_trans h4 h2)
  have h1' : sameD dl fl (lstD (fl2 A a B b)) (lstF (fl2 A a B b)) = true := by rw [sameD_comm]; exact h1
  exact sameD_trans (sameD_trans h1' h5) h3
end Go.Proofs.YtkffojipgphneaaDoor
