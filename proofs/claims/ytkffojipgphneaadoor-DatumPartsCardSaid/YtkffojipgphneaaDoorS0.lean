/- Whether two data are the same: what is plain. -/
import Derived.Test.YtkffojipgphneaaDoorE1
set_option linter.unusedVariables false
set_option linter.unusedSimpArgs false
namespace Go.Proofs.YtkffojipgphneaaDoor
open Go Go.RowKit
def sameF : F → F → Bool
  | .nil, .nil => true
  | .cons d k r, .cons d' k' r' => alB d d' k.len k'.len && sameF k k' && sameF r r'
  | _, _ => false
def sameD (d : D) (f : F) (e : D) (g : F) : Bool := alB d e f.len g.len && sameF f g
abbrev Pr := El × El
def sameP (p : Pr) : Bool := sameD p.1.d p.1.k p.2.d p.2.k
def El.nth (x : El) (i : Nat) : El := ⟨x.d.kb, x.d.ko + i * 6, 0, x.k.nthD i, x.k.nthK i⟩
def kidsP (p : Pr) : List Pr := (List.range p.1.k.len).map fun i => (p.1.nth i, p.2.nth i)
def cntP (l : List Pr) : Nat := (l.map fun p => p.1.k.cnt + 1).sum
theorem kidsP_length (p : Pr) : (kidsP p).length = p.1.k.len := by simp [kidsP]
theorem kidsP_drop (p : Pr) (i : Nat) (h : i < p.1.k.len) : (kidsP p).drop i = (p.1.nth i, p.2.nth i) :: (kidsP p).drop (i + 1) := by
  have h2 : i < (kidsP p).length := by rw [kidsP_length]; exact h
  rw [List.drop_eq_getElem_cons h2]
  simp [kidsP]
theorem cntP_nil : cntP [] = 0 := rfl
theorem cntP_cons (p : Pr) (l : List Pr) : cntP (p :: l) = p.1.k.cnt + 1 + cntP l := by simp [cntP]
theorem cntP_append (l m : List Pr) : cntP (l ++ m) = cntP l + cntP m := by simp [cntP]
theorem cntP_length (l : List Pr) : l.length ≤ cntP l := by
  induction l with
  | nil => simp [cntP]
  | cons p l ih => rw [cntP_cons, List.length_cons]; omega
theorem F.cnt_sum (f : F) : ((List.range f.len).map fun i => (f.nthK i).cnt + 1).sum = f.cnt := by
  induction f with
  | nil => rfl
  | cons d k r _ ih =>
    simp only [F.len, List.range_succ_eq_map, List.map_cons, List.map_map, List.sum_cons, F.nthK, F.cnt]
    have : (List.map ((fun i => (F.cons d k r).nthK i |>.cnt |> (· + 1)) ∘ Nat.succ) (List.range r.len)).sum = r.cnt := by
      rw [← ih]
      rfl
    have e : (List.map ((fun i => ((F.cons d k r).nthK i).cnt + 1) ∘ Nat.succ) (List.range r.len)).sum = r.cnt := this
    rw [e]
    omega
theorem cntP_kids (p : Pr) : cntP (kidsP p) = p.1.k.cnt := by
  rw [← F.cnt_sum p.1.k, cntP, kidsP, List.map_map]
  rfl
theorem sameF_kids : ∀ (f g : F), f.len = g.len → sameF f g = (List.range f.len).all fun i => sameD (f.nthD i) (f.nthK i) (g.nthD i) (g.nthK i) := by
  intro f
  induction f with
  | nil =>
    intro g h
    cases g with
    | nil => simp [sameF, F.len]
    | cons d k r => simp [F.len] at h
  | cons d k r _ ih =>
    intro g h
    cases g with
    | nil => simp [F.len] at h
    | cons d' k' r' =>
      simp only [F.len, Nat.add_right_cancel_iff] at h
      simp only [sameF, F.len, List.range_succ_eq_map, List.all_cons, F.nthD, F.nthK, List.all_map]
      rw [ih r' h, sameD]
      rfl
theorem alB_len {d e : D} {m n : Nat} (h : alB d e m n = true) : m = n := by
  simp [alB, alR] at h
  exact h.2.2.2.1
theorem sameP_kids (p : Pr) (h : alB p.1.d p.2.d p.1.k.len p.2.k.len = true) : sameP p = (kidsP p).all sameP := by
  rw [sameP, sameD, h, Bool.true_and, sameF_kids _ _ (alB_len h), kidsP, List.all_map]
  rfl
theorem sameP_not (p : Pr) (h : alB p.1.d p.2.d p.1.k.len p.2.k.len = false) : sameP p = false := by rw [sameP, sameD, h, Bool.false_and]
theorem sameF_refl (f : F) : sameF f f = true := by
  induction f with
  | nil => rfl
  | cons d k r ihk ihr => simp [sameF, ihk, ihr, alB, alR]
theorem alB_comm (d e : D) (m n : Nat) : alB d e m n = alB e d n m := by
  unfold alB alR
  congr 1
  apply propext
  constructor <;> exact fun ⟨a, b, c, x, y, z⟩ => ⟨a.symm, b.symm, c.symm, x.symm, y.symm, z.symm⟩
theorem sameF_comm : ∀ (f g : F), sameF f g = sameF g f := by
  intro f
  induction f with
  | nil => intro g; cases g <;> rfl
  | cons d k r ihk ihr =>
    intro g
    cases g with
    | nil => rfl
    | cons d' k' r' => simp only [sameF]; rw [alB_comm, ihk, ihr]
theorem sameD_comm (d : D) (f : F) (e : D) (g : F) : sameD d f e g = sameD e g d f := by rw [sameD, sameD, alB_comm, sameF_comm]
theorem sameD_refl (d : D) (f : F) : sameD d f d f = true := by simp [sameD, sameF_refl, alB, alR]
theorem sameF_cnt : ∀ (f g : F), sameF f g = true → f.cnt = g.cnt := by
  intro f
  induction f with
  | nil => intro g h; cases g <;> simp_all [sameF, F.cnt]
  | cons d k r ihk ihr =>
    intro g h
    cases g with
    | nil => simp [sameF] at h
    | cons d' k' r' =>
      simp only [sameF, Bool.and_eq_true] at h
      simp only [F.cnt]
      rw [ihk _ h.1.2, ihr _ h.2]
def encPr : List Pr → List Value
  | [] => []
  | p :: l => encPr l ++ [.pointer (some ⟨p.1.b, p.1.o, none⟩), .pointer (some ⟨p.2.b, p.2.o, none⟩)]
end Go.Proofs.YtkffojipgphneaaDoor
