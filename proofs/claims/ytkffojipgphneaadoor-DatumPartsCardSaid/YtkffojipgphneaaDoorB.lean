/- WHAT IS PLAIN: a datum, and the data in it, as a forest; how it lies in memory; its parts in their order. -/
import Derived.Test.YtkffojipgphneaaDoorA
set_option linter.unusedVariables false
namespace Go.Proofs.YtkffojipgphneaaDoor
open Go Go.RowKit
theorem add_block (a : Addr) (n : Nat) : (a.add n).block = a.block := by unfold Addr.add; split <;> rfl
/-- A datum's own part. -/
structure D where
  k : Int
  c : Int
  neg : Bool
  mA : Option Addr
  mag : List Nat
  mcap : Nat
  t : ByteArray
  lA : Option Addr
  lcap : Nat
inductive F where
  | nil : F
  | cons (d : D) (kids rest : F) : F
def F.len : F → Nat
  | .nil => 0
  | .cons _ _ r => r.len + 1
def F.cnt : F → Nat
  | .nil => 0
  | .cons _ k r => k.cnt + r.cnt + 1
def D.zero : D := ⟨0, 0, false, none, [], 0, ⟨#[]⟩, none, 0⟩
def F.nthD : F → Nat → D
  | .nil, _ => D.zero
  | .cons d _ _, 0 => d
  | .cons _ _ r, n + 1 => r.nthD n
def F.nthK : F → Nat → F
  | .nil, _ => .nil
  | .cons _ k _, 0 => k
  | .cons _ _ r, n + 1 => r.nthK n
def F.drop : F → Nat → F
  | f, 0 => f
  | .nil, _ + 1 => .nil
  | .cons _ _ r, n + 1 => r.drop n
theorem F.drop_lt (f : F) (i : Nat) (h : i < f.len) : f.drop i = .cons (f.nthD i) (f.nthK i) (f.drop (i + 1)) := by
  induction f generalizing i with
  | nil => simp [F.len] at h
  | cons d k r _ ih =>
    cases i with
    | zero => simp [F.drop, F.nthD, F.nthK]
    | succ i =>
      simp only [F.len] at h
      simp only [F.drop, F.nthD, F.nthK]
      exact ih i (by omega)
theorem F.drop_len (f : F) : f.drop f.len = .nil := by
  induction f with
  | nil => rfl
  | cons d k r _ ih => simpa [F.drop, F.len] using ih
theorem F.drop_zero (f : F) : f.drop 0 = f := by cases f <;> rfl
theorem F.cnt_drop (f : F) (i : Nat) (h : i < f.len) : (f.drop i).cnt = (f.nthK i).cnt + (f.drop (i + 1)).cnt + 1 := by rw [F.drop_lt f i h]; rfl
theorem F.cnt_drop_le (f : F) (i : Nat) : (f.drop i).cnt ≤ f.cnt := by
  induction f generalizing i with
  | nil => cases i <;> simp [F.drop, F.cnt]
  | cons d k r _ ih =>
    cases i with
    | zero => simp [F.drop]
    | succ i => simp only [F.drop, F.cnt]; have := ih i; omega
theorem F.len_le_cnt (f : F) : f.len ≤ f.cnt := by
  induction f with
  | nil => simp [F.len]
  | cons d k r _ ih => simp only [F.len, F.cnt]; omega
theorem F.nth_cnt (f : F) (i : Nat) (h : i < f.len) : (f.nthK i).cnt + 1 ≤ f.cnt := by
  have h1 := F.cnt_drop f i h
  have h2 := F.cnt_drop_le f i
  omega
/-! ### In memory -/
def D.kb (d : D) : Nat := match d.lA with | some a => a.block | none => 0
def D.ko (d : D) : Nat := match d.lA with | some a => a.off | none => 0
structure D.Ok (d : D) (m : Nat) : Prop where
  k0 : -9223372036854775808 ≤ d.k
  k1 : d.k ≤ 9223372036854775807
  c0 : -2147483648 ≤ d.c
  c1 : d.c ≤ 2147483647
  mag : ∀ x ∈ d.mag, x < 4294967296
  magl : d.mag.length ≤ d.mcap
  magc : d.mag.length ≤ 35184372088832
  text : d.t.size ≤ 140737488355328
  kidl : m ≤ d.lcap
  kidc : m ≤ 140737488355328
  kids : 0 < m → d.lA = some ⟨d.kb, d.ko, none⟩
structure Node (w : World) (b o : Nat) (d : D) (m : Nat) : Prop where
  k : w.cell? ⟨b, o, none⟩ = some (.int .i64 d.k)
  c : w.cell? ⟨b, o + 1, none⟩ = some (.int .i32 d.c)
  neg : w.cell? ⟨b, o + 2, none⟩ = some (.bool d.neg)
  mag : w.cell? ⟨b, o + 3, none⟩ = some (.slice d.mA d.mag.length d.mcap)
  t : w.cell? ⟨b, o + 4, none⟩ = some (.string d.t)
  l : w.cell? ⟨b, o + 5, none⟩ = some (.slice d.lA m d.lcap)
def MagAt (G : Nat → Prop) (w : World) (A : Option Addr) (xs : List Nat) : Prop :=
  ∀ i (h : i < xs.length), ∃ ad, A = some ad ∧ G ad.block ∧ w.cell? (ad.add i) = some (.int .u32 (xs[i] : Nat))
def AtF (G : Nat → Prop) (w : World) : F → Nat → Nat → Prop
  | .nil, _, _ => True
  | .cons d k r, b, o => (G b ∧ Node w b o d k.len ∧ d.Ok k.len ∧ MagAt G w d.mA d.mag ∧ AtF G w k d.kb d.ko) ∧ AtF G w r b (o + 6)
/-- A datum at a place, on a level. -/
structure El where
  b : Nat
  o : Nat
  lvl : Int
  d : D
  k : F
structure ElAt (G : Nat → Prop) (w : World) (x : El) : Prop where
  g : G x.b
  node : Node w x.b x.o x.d x.k.len
  ok : x.d.Ok x.k.len
  mag : MagAt G w x.d.mA x.d.mag
  kids : AtF G w x.k x.d.kb x.d.ko
section
variable {G G' : Nat → Prop} {w w' : World}
theorem Node.keep {b o : Nat} {d : D} {m : Nat} (h : Node w b o d m) (hg : G b) (hk : Keep G w w') : Node w' b o d m :=
  ⟨hk.cell (p := ⟨b, o, none⟩) hg h.k, hk.cell (p := ⟨b, o + 1, none⟩) hg h.c, hk.cell (p := ⟨b, o + 2, none⟩) hg h.neg, hk.cell (p := ⟨b, o + 3, none⟩) hg h.mag, hk.cell (p := ⟨b, o + 4, none⟩) hg h.t, hk.cell (p := ⟨b, o + 5, none⟩) hg h.l⟩
theorem MagAt.keep {A : Option Addr} {xs : List Nat} (h : MagAt G w A xs) (hk : Keep G w w') : MagAt G w' A xs := fun i hi => by
  obtain ⟨ad, e, g, hc⟩ := h i hi
  exact ⟨ad, e, g, hk.cell (p := ad.add i) (by rw [add_block]; exact g) hc⟩
theorem MagAt.mono {A : Option Addr} {xs : List Nat} (h : MagAt G w A xs) (hg : ∀ k, G k → G' k) : MagAt G' w A xs := fun i hi => by
  obtain ⟨ad, e, g, hc⟩ := h i hi
  exact ⟨ad, e, hg _ g, hc⟩
theorem AtF.keep (hk : Keep G w w') : ∀ (f : F) (b o : Nat), AtF G w f b o → AtF G w' f b o := by
  intro f
  induction f with
  | nil => exact fun _ _ _ => trivial
  | cons d k r ihk ihr => exact fun b o ⟨⟨g, hn, ho, hm, hk'⟩, hr⟩ => ⟨⟨g, hn.keep g hk, ho, hm.keep hk, ihk _ _ hk'⟩, ihr _ _ hr⟩
theorem AtF.mono (hg : ∀ k, G k → G' k) : ∀ (f : F) (b o : Nat), AtF G w f b o → AtF G' w f b o := by
  intro f
  induction f with
  | nil => exact fun _ _ _ => trivial
  | cons d k r ihk ihr => exact fun b o ⟨⟨g, hn, ho, hm, hk'⟩, hr⟩ => ⟨⟨hg _ g, hn, ho, hm.mono hg, ihk _ _ hk'⟩, ihr _ _ hr⟩
theorem ElAt.keep {x : El} (h : ElAt G w x) (hk : Keep G w w') : ElAt G w' x := ⟨h.g, h.node.keep h.g hk, h.ok, h.mag.keep hk, AtF.keep hk _ _ _ h.kids⟩
theorem ElAt.mono {x : El} (h : ElAt G w x) (hg : ∀ k, G k → G' k) : ElAt G' w x := ⟨hg _ h.g, h.node, h.ok, h.mag.mono hg, AtF.mono hg _ _ _ h.kids⟩
theorem ElAt.lt {x : El} (h : ElAt G w x) : x.b < w.heap.size := cell_lt h.node.k
theorem AtF.nth {f : F} {b o : Nat} (h : AtF G w f b o) (lvl : Int) (i : Nat) (hi : i < f.len) : ElAt G w ⟨b, o + i * 6, lvl, f.nthD i, f.nthK i⟩ := by
  induction f generalizing o i with
  | nil => simp [F.len] at hi
  | cons d k r _ ih =>
    obtain ⟨⟨g, hn, ho, hm, hk⟩, hr⟩ := h
    cases i with
    | zero => simpa [F.nthD, F.nthK] using (⟨g, hn, ho, hm, hk⟩ : ElAt G w ⟨b, o, lvl, d, k⟩)
    | succ i =>
      simp only [F.len] at hi
      have := ih (o := o + 6) hr i (by omega)
      simp only [F.nthD, F.nthK]
      rwa [show o + (i + 1) * 6 = o + 6 + i * 6 by omega]
theorem AtF.of_nth {f : F} {b o : Nat} (h : ∀ i, i < f.len → ElAt G w ⟨b, o + i * 6, 0, f.nthD i, f.nthK i⟩) : AtF G w f b o := by
  induction f generalizing o with
  | nil => trivial
  | cons d k r _ ih =>
    have h0 := h 0 (by simp [F.len])
    simp only [F.nthD, F.nthK, Nat.zero_mul, Nat.add_zero] at h0
    refine ⟨⟨h0.g, h0.node, h0.ok, h0.mag, h0.kids⟩, ih (fun i hi => ?_)⟩
    have := h (i + 1) (by simp only [F.len]; omega)
    simp only [F.nthD, F.nthK] at this
    rwa [show o + (i + 1) * 6 = o + 6 + i * 6 by omega] at this
theorem ElAt.lvl {x : El} (h : ElAt G w x) (l : Int) : ElAt G w ⟨x.b, x.o, l, x.d, x.k⟩ := ⟨h.g, h.node, h.ok, h.mag, h.kids⟩
end
/-! ### Parts, in their order -/
def stp (pk : Int) (last : Bool) (k : Int) : Int := if pk = 7 ∧ last = true ∧ k = 7 then 0 else 1
theorem stp_cases (pk : Int) (last : Bool) (k : Int) : stp pk last k = 0 ∨ stp pk last k = 1 := by unfold stp; split <;> simp
def items (pk lvl : Int) : F → Nat → Nat → List El
  | .nil, _, _ => []
  | .cons d k r, b, o => ⟨b, o, lvl + stp pk (r.len == 0) d.k, d, k⟩ :: items pk lvl r b (o + 6)
def flatF (pk lvl : Int) : F → Nat → Nat → List El
  | .nil, _, _ => []
  | .cons d k r, b, o => ⟨b, o, lvl + stp pk (r.len == 0) d.k, d, k⟩ :: (flatF d.k (lvl + stp pk (r.len == 0) d.k) k d.kb d.ko ++ flatF pk lvl r b (o + 6))
def El.items (x : El) : List El := YtkffojipgphneaaDoor.items x.d.k x.lvl x.k x.d.kb x.d.ko
def El.flat (x : El) : List El := x :: flatF x.d.k x.lvl x.k x.d.kb x.d.ko
def flats (l : List El) : List El := l.flatMap El.flat
theorem flats_nil : flats [] = [] := rfl
theorem flats_cons (x : El) (l : List El) : flats (x :: l) = x.flat ++ flats l := by simp [flats]
theorem flats_append (l m : List El) : flats (l ++ m) = flats l ++ flats m := by simp [flats]
theorem flats_items (pk lvl : Int) (f : F) : ∀ b o, flats (items pk lvl f b o) = flatF pk lvl f b o := by
  induction f with
  | nil => exact fun _ _ => rfl
  | cons d k r _ ih =>
    intro b o
    simp only [items, flatF, flats_cons, ih, El.flat, List.cons_append]
theorem El.flat_eq (x : El) : x.flat = x :: flats x.items := by rw [El.flat, El.items, flats_items]
theorem items_length (pk lvl : Int) (f : F) : ∀ b o, (items pk lvl f b o).length = f.len := by
  induction f with
  | nil => exact fun _ _ => rfl
  | cons d k r _ ih => intro b o; simp [items, F.len, ih]
theorem items_get (pk lvl : Int) (f : F) : ∀ (b o i : Nat), i < f.len → (items pk lvl f b o)[i]? = some ⟨b, o + i * 6, lvl + stp pk (i + 1 == f.len) (f.nthD i).k, f.nthD i, f.nthK i⟩ := by
  induction f with
  | nil => intro b o i h; simp [F.len] at h
  | cons d k r _ ih =>
    intro b o i h
    cases i with
    | zero => simp [items, F.nthD, F.nthK, F.len]
    | succ i =>
      simp only [F.len] at h
      simp only [items, List.getElem?_cons_succ, ih b (o + 6) i (by omega), F.nthD, F.nthK, F.len]
      congr 1
      rw [show o + (i + 1) * 6 = o + 6 + i * 6 by omega]
      simp
theorem items_drop (pk lvl : Int) (f : F) (b o i : Nat) (h : i < f.len) : (items pk lvl f b o).drop i = ⟨b, o + i * 6, lvl + stp pk (i + 1 == f.len) (f.nthD i).k, f.nthD i, f.nthK i⟩ :: (items pk lvl f b o).drop (i + 1) := by
  have h1 := items_get pk lvl f b o i h
  have h2 : i < (items pk lvl f b o).length := by rw [items_length]; exact h
  rw [List.getElem?_eq_getElem h2] at h1
  rw [List.drop_eq_getElem_cons h2]
  rw [Option.some.inj h1]
theorem flatF_length (pk lvl : Int) (f : F) : ∀ b o, (flatF pk lvl f b o).length = f.cnt := by
  induction f generalizing pk lvl with
  | nil => exact fun _ _ => rfl
  | cons d k r ihk ihr => intro b o; simp [flatF, F.cnt, ihk, ihr]
theorem El.flat_length (x : El) : x.flat.length = x.k.cnt + 1 := by simp [El.flat, flatF_length]
theorem flats_length (l : List El) : l.length ≤ (flats l).length := by
  induction l with
  | nil => simp [flats]
  | cons x l ih => rw [flats_cons, List.length_append, El.flat_length, List.length_cons]; omega
section
variable {G G' : Nat → Prop} {w w' : World}
theorem items_at (pk lvl : Int) {f : F} {b o : Nat} (h : AtF G w f b o) : ∀ x ∈ items pk lvl f b o, ElAt G w x := by
  induction f generalizing o with
  | nil => simp [items]
  | cons d k r _ ih =>
    obtain ⟨⟨g, hn, ho, hm, hk⟩, hr⟩ := h
    intro x hx
    simp only [items, List.mem_cons] at hx
    rcases hx with rfl | hx
    · exact ⟨g, hn, ho, hm, hk⟩
    · exact ih hr x hx
theorem flatF_at {f : F} : ∀ {pk lvl : Int} {b o : Nat} (h : AtF G w f b o), ∀ x ∈ flatF pk lvl f b o, ElAt G w x := by
  induction f with
  | nil => simp [flatF]
  | cons d k r ihk ihr =>
    intro pk lvl b o h
    obtain ⟨⟨g, hn, ho, hm, hk⟩, hr⟩ := h
    intro x hx
    simp only [flatF, List.mem_cons, List.mem_append] at hx
    rcases hx with rfl | hx | hx
    · exact ⟨g, hn, ho, hm, hk⟩
    · exact ihk hk x hx
    · exact ihr hr x hx
theorem ElAt.flat {x : El} (h : ElAt G w x) : ∀ y ∈ x.flat, ElAt G w y := by
  intro y hy
  simp only [El.flat, List.mem_cons] at hy
  rcases hy with rfl | hy
  · exact h
  · exact flatF_at h.kids y hy
end
/-- On levels from 0 to the count. -/
theorem flatF_lvl {f : F} : ∀ {pk lvl : Int} {b o : Nat}, ∀ x ∈ flatF pk lvl f b o, lvl ≤ x.lvl ∧ x.lvl ≤ lvl + f.cnt := by
  induction f with
  | nil => simp [flatF]
  | cons d k r ihk ihr =>
    intro pk lvl b o x hx
    simp only [flatF, List.mem_cons, List.mem_append] at hx
    have hs := stp_cases pk (r.len == 0) d.k
    simp only [F.cnt]
    rcases hx with rfl | hx | hx
    · simp only []
      omega
    · have := ihk x hx; omega
    · have := ihr x hx; omega
theorem El.flat_lvl {x : El} : ∀ y ∈ x.flat, x.lvl ≤ y.lvl ∧ y.lvl ≤ x.lvl + x.k.cnt := by
  intro y hy
  simp only [El.flat, List.mem_cons] at hy
  rcases hy with rfl | hy
  · omega
  · exact flatF_lvl y hy
end Go.Proofs.YtkffojipgphneaaDoor
