/- awake: what it goes by. -/
import Derived.Test.YtkffojipgphneaaDoorV1
set_option linter.unusedVariables false
set_option linter.unusedSimpArgs false
namespace Go.Proofs.YtkffojipgphneaaDoor
open Go Go.RowKit
/-- A small number. -/
def nD (x : Nat) (A : Option Addr) (c : Nat) : D := ⟨4, 0, false, A, [x], c, ⟨#[]⟩, none, 0⟩
theorem lims7 : lims 7 = [7] := by unfold lims; decide
theorem lims8 : lims 8 = [8] := by unfold lims; decide
theorem aw_int (x : Nat) (hl : lims x = [x]) (hx : x < 100) (w : World) :
    Calls Tryd.prog 20 #[.int .i64 x] w fun e w' => ∃ A c, e = .returned (.agg #[.int .i64 4, .int .i32 0, .bool false, .slice A 1 c, .string ⟨#[]⟩, .slice none 0 0]) ∧ Val (fun k => w.heap.size ≤ k) w' (nD x A c) .nil ∧ Below w.heap.size w w' := by
  have hd : decide ((x : Int) < 0) = false := by simp
  refine (int_at x 1 false (by omega) (by omega) w (Lib.hid (by rw [hl]; rfl)) (Lib.hid hd) (by omega)).mono fun e w' ⟨A, c, he, hv, hb⟩ => ⟨A, c, he, ?_, hb⟩
  have e : numD x A c = nD x A c := by simp only [numD, nD, hl, hd]
  rw [← e]
  exact hv
theorem fits_n (x : Nat) (hx : 0 < x) (A : Option Addr) (c : Nat) : fitsB (nD x A c) 0 = true := by
  have h : mayN false [x] = true := by simp [mayN]; omega
  simp [fitsB, fitsR, nD, h, alR]
def fl2 (A : Option Addr) (a : Nat) (B : Option Addr) (b : Nat) : F := .cons (nD 7 A a) .nil (.cons (nD 8 B b) .nil .nil)
def fl1 (B : Option Addr) (b : Nat) : F := .cons (nD 8 B b) .nil .nil
theorem fits_p (A : Option Addr) : fitsB (pairD A) 2 = true := by simp [fitsB, fitsR, pairD, alR]
theorem fits_nil : fitsB nilD 0 = true := by simp [fitsB, fitsR, nilD, alR]
theorem may_fl2 (A B : Option Addr) (a b : Nat) : mayD (lstD (fl2 A a B b)) (lstF (fl2 A a B b)) = true := by
  have h7 := fits_n 7 (by omega) A a
  have h8 := fits_n 8 (by omega) B b
  have hp := fits_p none
  have hn := fits_nil
  simp only [fl2, lstD, lstF, two, mayD, mayF, F.len, Nat.zero_add, Nat.reduceAdd, h7, h8, hp, hn]
  simp [rch, stp, pairD, nD, nilD]
theorem dp_fl2 (A B : Option Addr) (a b : Nat) : dpD (lstD (fl2 A a B b)) (lstF (fl2 A a B b)) = 1 := by
  simp [fl2, lstD, lstF, two, dpD, dpF, F.len, rch, stp, pairD, nD, nilD]
  rfl
theorem cnt_fl2 (A B : Option Addr) (a b : Nat) : (lstF (fl2 A a B b)).cnt = 4 := by simp [fl2, lstF, two, F.cnt, lstD]
theorem may_none : mayD (txtD 6 ⟨#[]⟩) .nil = false := by
  have : (⟨#[]⟩ : ByteArray).toList.isEmpty = true := by
    unfold ByteArray.toList ByteArray.toList.loop
    simp [ByteArray.size]
  simp [mayD, fitsB, fitsR, txtD, this]
end Go.Proofs.YtkffojipgphneaaDoor
