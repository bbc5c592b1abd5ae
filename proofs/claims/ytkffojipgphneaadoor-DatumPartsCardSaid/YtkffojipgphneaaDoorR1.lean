/- fresh: what is plain. -/
import Derived.Test.YtkffojipgphneaaDoorSh
set_option linter.unusedVariables false
set_option linter.unusedSimpArgs false
namespace Go.Proofs.YtkffojipgphneaaDoor
open Go Go.RowKit
def likeD (d e : D) : Prop := d.k = e.k ∧ d.c = e.c ∧ d.neg = e.neg ∧ d.mag = e.mag ∧ d.t = e.t
def MagN (s0 : Nat) (W : World) (A : Option Addr) (xs : List Nat) : Prop :=
  xs = [] ∨ ∃ g cur fz, A = some ⟨g, 0, none⟩ ∧ s0 ≤ g ∧ W.heap[g]? = some (.cells cur 60 fz) ∧ ∀ i (h : i < xs.length), W.cell? ⟨g, i, none⟩ = some (.int .u32 (xs[i] : Nat))
theorem MagN.magAt {s0 : Nat} {W : World} {A : Option Addr} {xs : List Nat} {G : Nat → Prop} (h : MagN s0 W A xs) (hG : ∀ g cur fz, s0 ≤ g → W.heap[g]? = some (.cells cur 60 fz) → G g) : MagAt G W A xs := by
  intro i hi
  rcases h with rfl | ⟨g, cur, fz, rfl, hg, hh, hc⟩
  · simp at hi
  · exact ⟨_, rfl, hG g cur fz hg hh, by rw [add_none, Nat.zero_add]; exact hc i hi⟩
def CopyF (s0 : Nat) (U : List (Nat × Nat)) (P : List El) (W : World) : F → Nat → Nat → Prop
  | .nil, _, _ => True
  | .cons d k r, b, o => ((⟨b, o, 0, d, k⟩ : El) ∈ P ∨ ((b, o) ∈ U ∧ ∃ d' : D, likeD d d' ∧ Node W b o d' k.len ∧ d'.Ok k.len ∧ MagN s0 W d'.mA d'.mag ∧ CopyF s0 U P W k d'.kb d'.ko)) ∧ CopyF s0 U P W r b (o + 6)
theorem CopyF.step {s0 : Nat} {U U' : List (Nat × Nat)} {P P' : List El} {W W' : World} (hU : ∀ u ∈ U, u ∈ U')
    (hN : ∀ b o, (b, o) ∈ U → ∀ j v, j < 6 → W.cell? ⟨b, o + j, none⟩ = some v → W'.cell? ⟨b, o + j, none⟩ = some v)
    (hM : ∀ g cur fz, s0 ≤ g → W.heap[g]? = some (.cells cur 60 fz) → W'.heap[g]? = some (.cells cur 60 fz))
    (hP : ∀ e ∈ P, e ∈ P' ∨ ((e.b, e.o) ∈ U' ∧ ∃ d' : D, likeD e.d d' ∧ Node W' e.b e.o d' e.k.len ∧ d'.Ok e.k.len ∧ MagN s0 W' d'.mA d'.mag ∧ CopyF s0 U' P' W' e.k d'.kb d'.ko)) :
    ∀ (f : F) (b o : Nat), CopyF s0 U P W f b o → CopyF s0 U' P' W' f b o := by
  intro f
  induction f with
  | nil => exact fun _ _ _ => trivial
  | cons d k r ihk ihr =>
    rintro b o ⟨h, hr⟩
    refine ⟨?_, ihr b (o + 6) hr⟩
    rcases h with h | ⟨hu, d', h1, h2, h3, h4, h5⟩
    · exact hP _ h
    · refine .inr ⟨hU _ hu, d', h1, ?_, h3, ?_, ihk _ _ h5⟩
      · exact ⟨hN b o hu 0 _ (by omega) h2.k, hN b o hu 1 _ (by omega) h2.c, hN b o hu 2 _ (by omega) h2.neg, hN b o hu 3 _ (by omega) h2.mag, hN b o hu 4 _ (by omega) h2.t, hN b o hu 5 _ (by omega) h2.l⟩
      · rcases h4 with h4 | ⟨g, cur, fz, e1, e2, e3, e4⟩
        · exact .inl h4
        · exact .inr ⟨g, cur, fz, e1, e2, hM g cur fz e2 e3, fun i hi => (World.cell?_of_block (w := W) (a := ⟨g, i, none⟩) ((hM g cur fz e2 e3).trans e3.symm)).trans (e4 i hi)⟩
theorem CopyF.all {s0 : Nat} {U : List (Nat × Nat)} {P : List El} {W : World} (f : F) : ∀ (b o : Nat), (∀ i, i < f.len → (⟨b, o + i * 6, 0, f.nthD i, f.nthK i⟩ : El) ∈ P) → CopyF s0 U P W f b o := by
  induction f with
  | nil => exact fun _ _ _ => trivial
  | cons d k r _ ih =>
    intro b o h
    refine ⟨.inl ?_, ih b (o + 6) fun i hi => ?_⟩
    · have := h 0 (by simp [F.len])
      simpa [F.nthD, F.nthK] using this
    · have := h (i + 1) (by simp only [F.len]; omega)
      simp only [F.nthD, F.nthK] at this
      rwa [show o + (i + 1) * 6 = o + 6 + i * 6 by omega] at this
theorem CopyF.done {s0 : Nat} {U : List (Nat × Nat)} {W : World} {G : Nat → Prop} (hU : ∀ u ∈ U, G u.1) (hG : ∀ g cur fz, s0 ≤ g → W.heap[g]? = some (.cells cur 60 fz) → G g) : ∀ (f : F) (b o : Nat), CopyF s0 U [] W f b o → ∃ f' : F, f'.len = f.len ∧ AtF G W f' b o ∧ sameF f f' = true := by
  intro f
  induction f with
  | nil => exact fun _ _ _ => ⟨.nil, rfl, trivial, rfl⟩
  | cons d k r ihk ihr =>
    rintro b o ⟨h, hr⟩
    obtain ⟨r', e1, e2, e3⟩ := ihr b (o + 6) hr
    rcases h with h | ⟨hu, d', h1, h2, h3, h4, h5⟩
    · simp at h
    · obtain ⟨k', f1, f2, f3⟩ := ihk _ _ h5
      refine ⟨.cons d' k' r', by simp [F.len, e1], ⟨⟨hU _ hu, by rw [f1]; exact h2, by rw [f1]; exact h3, h4.magAt hG, f2⟩, e2⟩, ?_⟩
      obtain ⟨a1, a2, a3, a4, a5⟩ := h1
      simp [sameF, f3, e3, alB, alR, a1, a2, a3, a4, a5, f1]
/-- One cell of a block is turned; new blocks beside. -/
structure Chg (W W' : World) (b off : Nat) (v : Value) : Prop where
  keep : Keep (fun k => k ≠ b) W W'
  cell : W'.cell? ⟨b, off, none⟩ = some v
  other : ∀ o', o' ≠ off → ∀ u, W.cell? ⟨b, o', none⟩ = some u → W'.cell? ⟨b, o', none⟩ = some u
  ty : ∀ cur t, W.heap[b]? = some (.cells cur t (0, 0)) → ∃ cur', W'.heap[b]? = some (.cells cur' t (0, 0))
theorem Chg.of {W W1 : World} {b off : Nat} {u : Value} (v : Value) (hk : Keep (fun _ => True) W W1) (hc : W.cell? ⟨b, off, none⟩ = some u) : Chg W (W1.setCell ⟨b, off, none⟩ v) b off v := by
  have hc1 := hk.cell (p := ⟨b, off, none⟩) trivial hc
  refine ⟨(hk.mono (fun _ _ _ => trivial)).setCell (p := ⟨b, off, none⟩) _ (.inl (by simp)), World.cell?_setCell_same' W1 _ v (by rw [hc1]; rfl), fun o' ho u' hu => ?_, fun cur t ht => ?_⟩
  · have hne : (⟨b, off, none⟩ : Addr) ≠ ⟨b, o', none⟩ := by intro e; injection e with _ e2; exact ho e2.symm
    rw [World.cell?_setCell_other W1 _ _ _ hne]
    exact hk.cell (p := ⟨b, o', none⟩) trivial hu
  · have h1 := hk.heap (k := b) trivial ht
    obtain ⟨hlt, he⟩ := Array.getElem?_eq_some_iff.1 h1
    refine ⟨cur.setIfInBounds off v, ?_⟩
    simp only [World.setCell]
    rw [Array.getElem?_modify, if_pos rfl, h1]
    rfl
theorem Chg.drew {W W' : World} {b off : Nat} {v : Value} (h : Chg W W' b off v) : Chg W W'.drew b off v := ⟨h.keep.drew, h.cell, h.other, h.ty⟩
theorem set_at {W : World} {b : Nat} {cs : Array Value} {t : TypeId} {fz : Nat × Nat} (h : W.heap[b]? = some (.cells cs t fz)) (j : Nat) (v : Value) : (W.setCell ⟨b, j, none⟩ v).heap[b]? = some (.cells (cs.setIfInBounds j v) t fz) := by
  simp only [World.setCell]
  rw [Array.getElem?_modify, if_pos rfl, h]
  rfl
theorem set_six {W : World} {b : Nat} {a0 a1 a2 a3 a4 a5 : Value} {t : TypeId} {fz : Nat × Nat} (h : W.heap[b]? = some (.cells #[a0, a1, a2, a3, a4, a5] t fz)) (v0 v1 v2 v3 v4 v5 : Value) :
    ((((((W.setCell ⟨b, 0, none⟩ v0).setCell ⟨b, 1, none⟩ v1).setCell ⟨b, 2, none⟩ v2).setCell ⟨b, 3, none⟩ v3).setCell ⟨b, 4, none⟩ v4).setCell ⟨b, 5, none⟩ v5).heap[b]? = some (.cells #[v0, v1, v2, v3, v4, v5] t fz) := by
  have := set_at (set_at (set_at (set_at (set_at (set_at h 0 v0) 1 v1) 2 v2) 3 v3) 4 v4) 5 v5
  simpa using this
def encE : List El → List Value
  | [] => []
  | x :: l => encE l ++ [.pointer (some ⟨x.b, x.o, none⟩)]
def kidsE (g : Nat) (k : F) : List El := (List.range k.len).map fun i => ⟨g, i * 6, 0, k.nthD i, k.nthK i⟩
theorem kidsE_length (g : Nat) (k : F) : (kidsE g k).length = k.len := by simp [kidsE]
theorem kidsE_drop (g : Nat) (k : F) (i : Nat) (h : i < k.len) : (kidsE g k).drop i = ⟨g, i * 6, 0, k.nthD i, k.nthK i⟩ :: (kidsE g k).drop (i + 1) := by
  have h2 : i < (kidsE g k).length := by rw [kidsE_length]; exact h
  rw [List.drop_eq_getElem_cons h2]
  simp [kidsE]
def cntE (l : List El) : Nat := (l.map fun p => p.k.cnt + 1).sum
theorem cntE_cons (p : El) (l : List El) : cntE (p :: l) = p.k.cnt + 1 + cntE l := by simp [cntE]
theorem cntE_append (l m : List El) : cntE (l ++ m) = cntE l + cntE m := by simp [cntE]
theorem cntE_length (l : List El) : l.length ≤ cntE l := by
  induction l with
  | nil => simp [cntE]
  | cons p l ih => rw [cntE_cons, List.length_cons]; omega
theorem cntE_kids (g : Nat) (k : F) : cntE (kidsE g k) = k.cnt := by
  rw [← F.cnt_sum k, cntE, kidsE, List.map_map]
  rfl
end Go.Proofs.YtkffojipgphneaaDoor
