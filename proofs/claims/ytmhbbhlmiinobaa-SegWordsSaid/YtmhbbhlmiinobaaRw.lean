/- What every row of these laws asks: acts that came in, opened; the walk's end. -/
import Derived.Test.YtmhbbhlmiinobaaL
import Derived.WalkKit
import Derived.ProofKit
import Derived.OpenShut
import Derived.Deep.Slices
import Derived.Carry
import Derived.SizedLaws
set_option linter.unusedVariables false
set_option linter.unusedSimpArgs false
namespace Go.Proofs.Ytmhbbhlmiinobaa
open Go.ChangeShapes Go.WideShapes Go.ChangeAt Go.RowKit Go.Deep
theorem own : ownKnob Try.prog.godebug = none := by kernel_rfl
theorem laidOut : laidOutB Try.prog = true := by kernel_rfl
/-- A call that is to be made. -/
structure Ac where
  d : Int
  a : Int
  b : Int
  c : Int
  x : Int
def Ac.val (t : Ac) : List Value := [.int .i64 t.d, .int .i64 t.a, .int .i64 t.b, .int .i64 t.c, .int .u64 t.x]
structure Ac.Ok (t : Ac) : Prop where
  d : -9223372036854775808 ≤ t.d ∧ t.d ≤ 9223372036854775807
  a : -9223372036854775808 ≤ t.a ∧ t.a ≤ 9223372036854775807
  b : -9223372036854775808 ≤ t.b ∧ t.b ≤ 9223372036854775807
  c : -9223372036854775808 ≤ t.c ∧ t.c ≤ 9223372036854775807
  x : 0 ≤ t.x ∧ t.x ≤ 18446744073709551615
theorem spot_none {w : World} {a : Addr} {v : Value} (h : w.cell? a = some v) : a.spot = none := by
  unfold World.cell? at h
  split at h
  · split at h
    · cases h
    · rename_i h2; simpa using h2
  · cases h
theorem add_at {a : Addr} (h : a.spot = none) (n : Nat) : a.add n = ⟨a.block, a.off + n, none⟩ := by
  unfold Addr.add
  split
  · rename_i h0; subst h0; cases a; simp_all
  · rfl
/-- Acts that lie in memory. -/
def Acts (W : World) (A : Option Addr) (l : List Ac) : Prop := (l = [] ∨ ∃ b o, A = some ⟨b, o, none⟩ ∧ b < W.heap.size ∧ ∀ (i : Nat) t, l[i]? = some t → t.Ok ∧ ∀ (j : Nat) v, t.val[j]? = some v → W.cell? ⟨b, o + i * 5 + j, none⟩ = some v)
theorem Acts.below {W W' : World} {A : Option Addr} {l : List Ac} (h : Acts W A l) (hb : Below W.heap.size W W') : Acts W' A l := by
  rcases h with h | ⟨b, o, e, hl, h⟩
  · exact Or.inl h
  · exact Or.inr ⟨b, o, e, Nat.lt_of_lt_of_le hl hb.size, fun i t ht => ⟨(h i t ht).1, fun j v hv => (hb.cell (p := ⟨b, o + i * 5 + j, none⟩) hl).trans ((h i t ht).2 j v hv)⟩⟩
section
variable {H : Type} {enc : TypeId × Value → H} {W : World}
set_option maxRecDepth 100000 in
theorem open_five {n : Nat} {cs : List Value} {y : DataW H × List MemPlace} (t : DataW.trod enc Try.prog W 0 (fun _ => true) true n 34 cs = some y) : ∃ ac : Ac, cs = ac.val ∧ ac.Ok := by
  obtain ⟨xs, m, rfl, rfl, hlen, hxl, hf⟩ := DataW.trod_struct Try.underlying34 t
  have c34 : Try.prog.cellsOf 34 = 5 := by kernel_rfl
  rw [c34] at hlen
  match cs, hlen with
  | [a0, a1, a2, a3, a4], _ =>
  match xs, hxl with
  | [y0, y1, y2, y3, y4], _ =>
    have e3 : Try.prog.cellsOf 3 = 1 := by kernel_rfl
    have e32 : Try.prog.cellsOf 32 = 1 := by kernel_rfl
    have t0 : DataW.trod enc Try.prog W 0 (fun _ => true) true m 3 [a0] = some y0 := by have h := hf 0 _ rfl; simpa [e3] using h
    have t1 : DataW.trod enc Try.prog W 0 (fun _ => true) true m 3 [a1] = some y1 := by have h := hf 1 _ rfl; simpa [e3] using h
    have t2 : DataW.trod enc Try.prog W 0 (fun _ => true) true m 3 [a2] = some y2 := by have h := hf 2 _ rfl; simpa [e3] using h
    have t3 : DataW.trod enc Try.prog W 0 (fun _ => true) true m 3 [a3] = some y3 := by have h := hf 3 _ rfl; simpa [e3] using h
    have t4 : DataW.trod enc Try.prog W 0 (fun _ => true) true m 32 [a4] = some y4 := by have h := hf 4 _ rfl; simpa [e32] using h
    obtain ⟨k0, h0, _, w0⟩ := DataW.trod_int Try.underlying3 t0
    obtain ⟨k1, h1, _, w1⟩ := DataW.trod_int Try.underlying3 t1
    obtain ⟨k2, h2, _, w2⟩ := DataW.trod_int Try.underlying3 t2
    obtain ⟨k3, h3, _, w3⟩ := DataW.trod_int Try.underlying3 t3
    obtain ⟨k4, h4, _, w4⟩ := DataW.trod_int Try.underlying32 t4
    simp only [List.cons.injEq, and_true] at h0 h1 h2 h3 h4
    subst h0 h1 h2 h3 h4
    have b0 := bounds_i64 w0
    have b1 := bounds_i64 w1
    have b2 := bounds_i64 w2
    have b3 := bounds_i64 w3
    have b4 := bounds_u64 w4
    exact ⟨⟨k0, k1, k2, k3, k4⟩, rfl, ⟨by omega, by omega, by omega, by omega, b4⟩⟩
theorem open_act {b0 : Nat} {v : Value} {d : DataW H} {p : List MemPlace} (hv : Value.okWide Try.prog W .any b0 34 v) (h : DataW.Trod enc Try.prog W 0 (fun _ => true) true 34 v d p) :
    ∃ ac : Ac, v = .agg #[.int .i64 ac.d, .int .i64 ac.a, .int .i64 ac.b, .int .i64 ac.c, .int .u64 ac.x] ∧ ac.Ok := by
  obtain ⟨cs, rfl, hcs⟩ := okWide_struct Try.underlying34 hv
  obtain ⟨fuel, hf⟩ := h
  obtain ⟨ac, hq, hok⟩ := open_five hf
  refine ⟨ac, ?_, hok⟩
  simp only [Value.cells] at hq
  obtain ⟨l⟩ := cs
  simp only at hq
  rw [hq]
  rfl
theorem open_acts {v : Value} {b0 : Nat} {d : DataW H} {p : List MemPlace} (hv : Value.okWide Try.prog W .any b0 22 v) (h : DataW.Trod enc Try.prog W 0 (fun _ => true) true 22 v d p) :
    ∃ (A : Option Addr) (l : List Ac) (c : Nat), v = .slice A l.length c ∧ Acts W A l ∧ l.length ≤ maxLen := by
  obtain ⟨A, len, cap, rfl⟩ := okWide_slice Try.underlying22 hv
  obtain ⟨fuel, hf⟩ := h
  rcases DataW.trod_slice Try.underlying22 hf with ⟨e, _⟩ | ⟨a, len', cap', elems, rest, m, _, e, _, _, hl, hm, hlen, hel, _, _⟩
  · simp only [Value.cells, List.cons.injEq, Value.slice.injEq, and_true] at e
    obtain ⟨rfl, rfl, rfl⟩ := e
    exact ⟨none, [], 0, rfl, Or.inl rfl, Nat.zero_le _⟩
  · simp only [Value.cells, List.cons.injEq, Value.slice.injEq, and_true] at e
    obtain ⟨rfl, rfl, rfl⟩ := e
    have hcell : Try.prog.cellsOf 34 = 5 := by kernel_rfl
    have each : ∀ i, i < len → ∃ t : Ac, t.Ok ∧ a.spot = none ∧ a.block < W.heap.size ∧ ∀ (j : Nat) v, t.val[j]? = some v → W.cell? ⟨a.block, a.off + i * 5 + j, none⟩ = some v := fun i hi => by
      have h1 := hel i hi
      rw [List.getElem?_eq_getElem (by omega)] at h1
      obtain ⟨cs', c1, c2⟩ := Option.bind_eq_some_iff.1 h1
      rw [hcell] at c1
      obtain ⟨_, cl, cc⟩ := World.cells?_some c1
      obtain ⟨t, rfl, hok⟩ := open_five c2
      have sp : a.spot = none := by
        obtain ⟨k, hk⟩ : ∃ k : Nat, k = 0 := ⟨0, rfl⟩
        have h0 := hel k (by omega)
        rw [List.getElem?_eq_getElem (by omega)] at h0
        obtain ⟨cs0, d1, d2⟩ := Option.bind_eq_some_iff.1 h0
        rw [hcell] at d1
        obtain ⟨_, dl, dc⟩ := World.cells?_some d1
        have e0 := dc k (by omega)
        rw [List.getElem?_eq_getElem (by omega)] at e0
        have s1 := spot_none e0
        subst hk
        simpa [Addr.add] using s1
      have hc : ∀ (j : Nat) v, t.val[j]? = some v → W.cell? ⟨a.block, a.off + i * 5 + j, none⟩ = some v := fun j v hj => by
        have hjl : j < 5 := (List.getElem?_eq_some_iff.1 hj).1
        have := cc j hjl
        rw [Go.Deep.add_add, add_at sp, ← Nat.add_assoc] at this
        rw [this, hj]
      exact ⟨t, hok, sp, cell_lt (p := ⟨a.block, a.off + i * 5 + 0, none⟩) (hc 0 _ rfl), hc⟩
    have hall : ∃ g : Nat → Ac, ∀ i, i < len → (g i).Ok ∧ a.spot = none ∧ a.block < W.heap.size ∧ ∀ (j : Nat) v, (g i).val[j]? = some v → W.cell? ⟨a.block, a.off + i * 5 + j, none⟩ = some v :=
      ⟨fun i => if hi : i < len then (each i hi).choose else ⟨0, 0, 0, 0, 0⟩, fun i hi => by simp only [dif_pos hi]; exact (each i hi).choose_spec⟩
    obtain ⟨g, hg⟩ := hall
    refine ⟨some a, (List.range len).map g, cap, by simp, ?_, by simp; omega⟩
    by_cases h0 : len = 0
    · subst h0; exact Or.inl rfl
    · refine Or.inr ⟨a.block, a.off, ?_, (hg 0 (by omega)).2.2.1, fun i t ht => ?_⟩
      · have := (hg 0 (by omega)).2.1
        cases a
        simp_all
      · have hi : i < len := by have := (List.getElem?_eq_some_iff.1 ht).1; simpa using this
        have et : t = g i := by simp [hi] at ht; exact ht.symm
        subst et
        exact ⟨(hg i hi).1, (hg i hi).2.2.2⟩
theorem below_all0 {P : Program} (hl : laidOutB P = true) {W W' : World} (hb : Below W.heap.size W W') (ts : List TypeId) : ∀ {vs : List Value} {ds : List (DataW H)} {ps : List MemPlace},
    (∀ t ∈ ts, P.readableRec t = true ∧ t < P.types.size) → DataW.TrodAll enc P W 0 (fun _ => true) true ts vs ds ps → (∀ x ∈ ps, x.block < W.heap.size) →
    DataW.TrodAll enc P W' 0 (fun b => decide (b < W.heap.size)) true ts vs ds ps := by
  induction ts with
  | nil =>
    intro vs ds ps _ h _
    obtain ⟨rfl, rfl, rfl⟩ := trodAll_nil h
    exact trodAll_mk0
  | cons t ts ih =>
    intro vs ds ps hr h hlt
    obtain ⟨v, vs', d, ds', p, q, rfl, rfl, rfl, h0, r0⟩ := trodAll_cons h
    have h1 := hr t (by simp)
    exact trodAll_cons_mk (Below.trod hl h1.1 h1.2 h0 hb fun x hx => hlt x (List.mem_append_left _ hx)) (ih (fun t ht => hr t (by simp [ht])) r0 fun x hx => hlt x (List.mem_append_right _ hx))
set_option maxRecDepth 100000 in
theorem below_all {W W' : World} (hb : Below W.heap.size W W') {ts : List TypeId} {vs : List Value} {ds : List (DataW H)} {ps : List MemPlace}
    (hr : (ts.all fun t => Try.prog.readableRec t && decide (t < Try.prog.types.size)) = true) (h : DataW.TrodAll enc Try.prog W 0 (fun _ => true) true ts vs ds ps) (hlt : ∀ x ∈ ps, x.block < W.heap.size) :
    DataW.TrodAll enc Try.prog W' 0 (fun b => decide (b < W.heap.size)) true ts vs ds ps :=
  below_all0 laidOut hb ts (fun t ht => by have := List.all_eq_true.1 hr t ht; simp only [Bool.and_eq_true, decide_eq_true_eq] at this; exact this) h hlt
end
end Go.Proofs.Ytmhbbhlmiinobaa
