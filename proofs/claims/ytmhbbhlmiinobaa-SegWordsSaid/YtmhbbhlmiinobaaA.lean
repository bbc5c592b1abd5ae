/- WHAT IS PLAIN: worlds that keep some blocks; a memory of segments, as lists. -/
import Derived.Test.YtmhbbhlmiinobaaRows
import Derived.WalkKit
import Derived.Laws.Rows
import Derived.Laws.AppendOwn
import Derived.Laws.OwnMore
import Derived.OneCell
import Derived.Lib.Hide
import Derived.Deep.Draws
set_option linter.unusedVariables false
namespace Go.Proofs.Ytmhbbhlmiinobaa
open Go Go.RowKit

/-- The blocks of G lie in w' as they lay in w. -/
structure Keep (G : Nat → Prop) (w w' : World) : Prop where
  os : w'.os = w.os
  tape : w'.tape = w.tape
  output : w'.output = w.output
  size : w.heap.size ≤ w'.heap.size
  block : ∀ k, G k → k < w.heap.size → w'.heap[k]? = w.heap[k]?
section
variable {G G' : Nat → Prop} {w w' w'' : World}
theorem Keep.refl (G : Nat → Prop) (w : World) : Keep G w w := ⟨rfl, rfl, rfl, Nat.le_refl _, fun _ _ _ => rfl⟩
theorem Keep.trans (h : Keep G w w') (k : Keep G w' w'') : Keep G w w'' :=
  ⟨k.os.trans h.os, k.tape.trans h.tape, k.output.trans h.output, Nat.le_trans h.size k.size, fun i hi hl => (k.block i hi (Nat.lt_of_lt_of_le hl h.size)).trans (h.block i hi hl)⟩
theorem Keep.mono (h : Keep G w w') (hg : ∀ k, k < w.heap.size → G' k → G k) : Keep G' w w' := ⟨h.os, h.tape, h.output, h.size, fun k hk hl => h.block k (hg k hl hk) hl⟩
theorem Keep.of_below {B : Nat} (h : Below B w w') : Keep (fun k => k < B) w w' := ⟨h.os, h.tape, h.output, h.size, fun k hk _ => h.block k hk⟩
theorem Keep.any (h : Below w.heap.size w w') : Keep G w w' := ⟨h.os, h.tape, h.output, h.size, fun k _ hl => h.block k hl⟩
theorem Keep.below {B : Nat} (h : Keep G w w') (hB : B ≤ w.heap.size) (hg : ∀ k, k < B → G k) : Below B w w' := ⟨h.os, h.tape, h.output, h.size, fun k hk => h.block k (hg k hk) (by omega)⟩
theorem Keep.drew (h : Keep G w w') : Keep G w w'.drew := ⟨h.os, h.tape, h.output, h.size, h.block⟩
theorem Keep.drewN (h : Keep G w w') (n : Nat) : Keep G w (w'.drewN n) := ⟨h.os, h.tape, h.output, h.size, h.block⟩
theorem Keep.alloc (h : Keep G w w') (o : Obj) : Keep G w (w'.alloc o) := h.trans (Keep.any ((Below.refl _ _).alloc (Nat.le_refl _) _))
theorem Keep.setCell (h : Keep G w w') {p : Addr} (u : Value) (hl : ¬ G p.block ∨ w.heap.size ≤ p.block) : Keep G w (w'.setCell p u) :=
  ⟨h.os, h.tape, h.output, by simpa [World.setCell] using h.size, fun k hk hkl => by
    have hne : k ≠ p.block := by rintro rfl; rcases hl with h1 | h1; exact h1 hk; omega
    exact (Below.heap_setCell _ _ _ _ hne).trans (h.block k hk hkl)⟩
theorem Keep.grown {row : Option Nat} (h : Keep G w w') (hg : w'.grownBy w'' row) (hr : ∀ k, row = some k → ¬ G k ∨ w.heap.size ≤ k) : Keep G w w'' :=
  ⟨hg.os.trans h.os, hg.tape.trans h.tape, hg.output.trans h.output, Nat.le_trans h.size hg.size, fun k hk hl => by
    refine (hg.block k (Nat.lt_of_lt_of_le hl h.size) (fun e => ?_)).trans (h.block k hk hl)
    rcases hr k e.symm with h1 | h1
    · exact h1 hk
    · omega⟩
theorem cell_lt {p : Addr} {v : Value} (h : w.cell? p = some v) : p.block < w.heap.size := by
  rcases Nat.lt_or_ge p.block w.heap.size with h1 | h1
  · exact h1
  · simp [World.cell?, Array.getElem?_eq_none h1] at h
theorem Keep.cell (h : Keep G w w') {p : Addr} {v : Value} (hp : G p.block) (hc : w.cell? p = some v) : w'.cell? p = some v :=
  (World.cell?_of_block (w := w) (h.block p.block hp (cell_lt hc))).trans hc
theorem Keep.frozen (h : Keep G w w') {p : Addr} (hp : G p.block) (hl : p.block < w.heap.size) : w'.frozen? p = w.frozen? p :=
  World.frozen?_of_block (w := w) (h.block p.block hp hl)
theorem Keep.heap (h : Keep G w w') {k : Nat} {o : Obj} (hp : G k) (hc : w.heap[k]? = some o) : w'.heap[k]? = some o :=
  (h.block k hp (Array.getElem?_eq_some_iff.1 hc).1).trans hc
theorem Keep.own (h : Keep G w w') {base : Nat} {e : TypeId} {size : Nat} {v : Value} {n : Nat} {xs : List Value} (ho : w.ownsRow base e size v n xs) (hp : ∀ k, v.ownBlock = some k → G k) : w'.ownsRow base e size v n xs := by
  obtain ⟨h1, h2⟩ := ho
  refine ⟨h1, ?_⟩
  rcases h2 with h2 | ⟨g, cap, cur, rfl, hb, hg, r⟩
  · exact .inl h2
  · exact .inr ⟨g, cap, cur, rfl, hb, h.heap (hp g rfl) hg, r⟩
end

/-! ### A memory of segments -/
/-- What a segment is: its generation, kind, how many words are used, the marks, whether it is taken, its words. -/
structure Sg where
  g : Int
  k : Int
  n : Nat
  c : List Int
  t : Bool
  ws : List Int
structure Sg.Ok (s : Sg) : Prop where
  c : s.c.length = 4
  ws : s.ws.length = 64
  n : s.n ≤ 64
  g : 0 ≤ s.g ∧ s.g ≤ 4
  k : 0 ≤ s.k ∧ s.k ≤ 3
  z : ∀ j x, s.n ≤ j → s.ws[j]? = some x → x = 0
def Sg.cells (s : Sg) : List Value := [.int .i64 s.g, .int .i64 s.k, .int .i64 s.n] ++ (s.c.map (Value.int .i64) ++ ([.bool s.t] ++ s.ws.map (Value.int .u64)))
theorem Sg.len {s : Sg} (h : s.Ok) : s.cells.length = 72 := by simp [Sg.cells, h.c, h.ws]
def flat : List Sg → List Value
  | [] => []
  | s :: S => s.cells ++ flat S
def AllOk (S : List Sg) : Prop := ∀ s ∈ S, s.Ok
theorem AllOk.cons {s : Sg} {S : List Sg} (h : AllOk (s :: S)) : s.Ok ∧ AllOk S := ⟨h s (by simp), fun x hx => h x (by simp [hx])⟩
theorem AllOk.get {S : List Sg} (h : AllOk S) {i : Nat} {s : Sg} (hi : S[i]? = some s) : s.Ok := h s (List.mem_of_getElem? hi)
theorem AllOk.set {S : List Sg} (h : AllOk S) {i : Nat} {s : Sg} (hs : s.Ok) : AllOk (S.set i s) := by
  intro x hx
  rcases List.mem_or_eq_of_mem_set hx with h1 | h1
  · exact h x h1
  · exact h1 ▸ hs
theorem flat_len : ∀ {S : List Sg}, AllOk S → (flat S).length = S.length * 72
  | [], _ => rfl
  | s :: S, h => by
    have h1 := h.cons
    simp only [flat, List.length_append, List.length_cons]
    rw [Sg.len h1.1, flat_len h1.2]; omega
theorem flat_get : ∀ {S : List Sg} {i j : Nat} {s : Sg}, AllOk S → S[i]? = some s → j < 72 → (flat S)[i * 72 + j]? = s.cells[j]?
  | [], i, j, s, _, h, _ => by simp at h
  | x :: S, 0, j, s, ha, h, hj => by
    have h1 := ha.cons
    have : x = s := by simpa using h
    subst this
    rw [Nat.zero_mul, Nat.zero_add, flat, List.getElem?_append_left (by rw [Sg.len h1.1]; exact hj)]
  | x :: S, i + 1, j, s, ha, h, hj => by
    have h1 := ha.cons
    rw [flat, List.getElem?_append_right (by rw [Sg.len h1.1]; omega), Sg.len h1.1, show (i + 1) * 72 + j - 72 = i * 72 + j from by omega]
    exact flat_get h1.2 (by simpa using h) hj
theorem flat_set1 : ∀ {S : List Sg} {i j : Nat} {s s' : Sg} {v : Value}, AllOk S → S[i]? = some s → j < 72 → s'.cells = s.cells.set j v → (flat S).set (i * 72 + j) v = flat (S.set i s')
  | [], i, j, s, _, _, _, h, _, _ => by simp at h
  | x :: S, 0, j, s, s', v, ha, h, hj, e => by
    have h1 := ha.cons
    have : x = s := by simpa using h
    subst this
    rw [Nat.zero_mul, Nat.zero_add, flat, List.set_append_left _ _ (by rw [Sg.len h1.1]; exact hj), ← e]; rfl
  | x :: S, i + 1, j, s, s', v, ha, h, hj, e => by
    have h1 := ha.cons
    rw [flat, List.set_append_right _ _ (by rw [Sg.len h1.1]; omega), Sg.len h1.1, show (i + 1) * 72 + j - 72 = i * 72 + j from by omega, flat_set1 h1.2 (by simpa using h) hj e]; rfl
theorem flat_splice : ∀ {S : List Sg} {i : Nat} {s' : Sg}, AllOk S → i < S.length → (flat S).take (i * 72) ++ s'.cells ++ (flat S).drop (i * 72 + 72) = flat (S.set i s')
  | [], i, _, _, h => by simp at h
  | x :: S, 0, s', ha, h => by
    have h1 := ha.cons
    simp only [Nat.zero_mul, List.take_zero, List.nil_append, Nat.zero_add, flat, List.set_cons_zero]
    rw [List.drop_append_of_le_length (by rw [Sg.len h1.1]; omega), List.drop_of_length_le (by rw [Sg.len h1.1]; omega)]; rfl
  | x :: S, i + 1, s', ha, h => by
    have h1 := ha.cons
    have ih := flat_splice (s' := s') (i := i) h1.2 (by simpa using h)
    have e1 : (i + 1) * 72 = x.cells.length + i * 72 := by rw [Sg.len h1.1]; omega
    simp only [flat, List.set_cons_succ]
    rw [e1, Nat.add_assoc, List.take_append, List.drop_append, List.take_of_length_le (by omega), List.drop_of_length_le (by omega), List.nil_append, List.append_assoc, List.append_assoc]
    rw [show x.cells.length + i * 72 - x.cells.length = i * 72 from by omega, show x.cells.length + (i * 72 + 72) - x.cells.length = i * 72 + 72 from by omega, ← List.append_assoc (List.take _ _), ih]

/-- The cells of a segment, one by one. -/
theorem Sg.at0 (s : Sg) : s.cells[0]? = some (.int .i64 s.g) := rfl
theorem Sg.at1 (s : Sg) : s.cells[1]? = some (.int .i64 s.k) := rfl
theorem Sg.at2 (s : Sg) : s.cells[2]? = some (.int .i64 s.n) := rfl
theorem Sg.at7 {s : Sg} (h : s.Ok) : s.cells[7]? = some (.bool s.t) := by
  obtain ⟨g, k, n, c, t, ws⟩ := s
  obtain ⟨h1, _, _, _, _, _⟩ := h
  match c, h1 with
  | [a, b, d, e], _ => rfl
theorem Sg.atC {s : Sg} (h : s.Ok) {j : Nat} {x : Int} (hx : s.c[j]? = some x) : s.cells[3 + j]? = some (.int .i64 x) := by
  have hj : j < s.c.length := (List.getElem?_eq_some_iff.1 hx).1
  unfold Sg.cells
  rw [List.getElem?_append_right (by simp), List.getElem?_append_left (by simp; omega)]
  simp [hx]
theorem Sg.atW {s : Sg} (h : s.Ok) {j : Nat} {x : Int} (hx : s.ws[j]? = some x) : s.cells[8 + j]? = some (.int .u64 x) := by
  have hc := h.c
  unfold Sg.cells
  rw [List.getElem?_append_right (by simp; omega), List.getElem?_append_right (by simp; omega), List.getElem?_append_right (by simp; omega)]
  simp [hc, show 8 + j - 3 - 4 - 1 = j from by omega, hx]
theorem Sg.setN (s : Sg) (n : Nat) : ({ s with n := n } : Sg).cells = s.cells.set 2 (.int .i64 n) := rfl
theorem Sg.setT {s : Sg} (h : s.Ok) (t : Bool) : ({ s with t := t } : Sg).cells = s.cells.set 7 (.bool t) := by
  obtain ⟨g, k, n, c, t', ws⟩ := s
  obtain ⟨h1, _, _, _, _, _⟩ := h
  match c, h1 with
  | [a, b, d, e], _ => rfl
theorem Sg.setC {s : Sg} (h : s.Ok) {j : Nat} (hj : j < 4) (x : Int) : ({ s with c := s.c.set j x } : Sg).cells = s.cells.set (3 + j) (.int .i64 x) := by
  have hc := h.c
  unfold Sg.cells
  rw [List.set_append_right _ _ (by simp), List.set_append_left _ _ (by simp; omega)]
  simp [List.map_set]
theorem Sg.setW {s : Sg} (h : s.Ok) {j : Nat} (x : Int) : ({ s with ws := s.ws.set j x } : Sg).cells = s.cells.set (8 + j) (.int .u64 x) := by
  have hc := h.c
  unfold Sg.cells
  rw [List.set_append_right _ _ (by simp; omega), List.set_append_right _ _ (by simp; omega), List.set_append_right _ _ (by simp; omega)]
  simp [List.map_set, hc, show 8 + j - 3 - 4 - 1 = j from by omega]

/-- A memory: its segments, those taken, in their order, and a number below which none is free. -/
structure M where
  S : List Sg
  o : List Nat
  l : Nat
/-- how many are taken -/
def cntT : List Sg → Nat
  | [] => 0
  | s :: S => (if s.t then 1 else 0) + cntT S
theorem cntT_le : ∀ S : List Sg, cntT S ≤ S.length
  | [] => Nat.le_refl _
  | s :: S => by have := cntT_le S; simp only [cntT, List.length_cons]; split <;> omega
theorem cntT_set : ∀ {S : List Sg} {i : Nat} {s s' : Sg}, S[i]? = some s → cntT (S.set i s') + (if s.t then 1 else 0) = cntT S + (if s'.t then 1 else 0)
  | [], i, s, s', h => by simp at h
  | x :: S, 0, s, s', h => by
    have : x = s := by simpa using h
    subst this
    simp only [List.set_cons_zero, cntT]; omega
  | x :: S, i + 1, s, s', h => by
    have ih := cntT_set (s' := s') (S := S) (i := i) (s := s) (by simpa using h)
    simp only [List.set_cons_succ, cntT]; omega
theorem cntT_lt : ∀ {S : List Sg} {i : Nat} {s : Sg}, S[i]? = some s → s.t = false → cntT S < S.length
  | [], i, s, h, _ => by simp at h
  | x :: S, 0, s, h, ht => by
    have : x = s := by simpa using h
    subst this
    have := cntT_le S
    simp only [cntT, ht, List.length_cons]; simp; omega
  | x :: S, i + 1, s, h, ht => by
    have ih := cntT_lt (S := S) (i := i) (s := s) (by simpa using h) ht
    simp only [cntT, List.length_cons]; split <;> omega
theorem cntT_none : ∀ {S : List Sg}, (∀ s ∈ S, s.t = false) → cntT S = 0
  | [], _ => rfl
  | x :: S, h => by simp only [cntT, h x (by simp), cntT_none (S := S) (fun s hs => h s (by simp [hs]))]; rfl
structure M.Ok (m : M) : Prop where
  lo : 8 ≤ m.S.length
  hi : m.S.length ≤ 1024
  all : AllOk m.S
  l : m.l ≤ m.S.length
  tk : ∀ i s, i < m.l → m.S[i]? = some s → s.t = true
  nd : m.o.Nodup
  mem : ∀ i, i ∈ m.o ↔ ∃ s, m.S[i]? = some s ∧ s.t = true
  cnt : m.o.length = cntT m.S
def ints (l : List Nat) : List Value := l.map fun (i : Nat) => Value.int .i64 i

/-- The memory m lies in the blocks mb, sb and v's. -/
structure MemIs (w : World) (own : Nat → Prop) (mb sb cp : Nat) (v : Value) (m : M) : Prop where
  hm : w.heap[mb]? = some (.cells #[.slice (some ⟨sb, 0, none⟩) m.S.length cp, v, .int .i64 m.l] 45 (0, 0))
  hs : w.ownsRow 0 72 72 (.slice (some ⟨sb, 0, none⟩) m.S.length cp) m.S.length (flat m.S)
  ho : w.ownsRow 0 3 1 v m.o.length (ints m.o)
  d1 : mb ≠ sb
  d2 : v.ownBlock ≠ some mb
  d3 : v.ownBlock ≠ some sb
  w1 : own mb
  w2 : own sb
  w3 : ∀ k, v.ownBlock = some k → own k
def MemAt (w : World) (own : Nat → Prop) (mb : Nat) (m : M) : Prop := m.Ok ∧ ∃ sb cp v, MemIs w own mb sb cp v m

section
variable {w w' : World} {own own' : Nat → Prop} {mb sb cp : Nat} {v : Value} {m : M}
theorem MemIs.cell0 (h : MemIs w own mb sb cp v m) : w.cell? ⟨mb, 0, none⟩ = some (.slice (some ⟨sb, 0, none⟩) m.S.length cp) := by rw [cell_of_row w mb 0 _ _ _ h.hm]; rfl
theorem MemIs.cell1 (h : MemIs w own mb sb cp v m) : w.cell? ⟨mb, 1, none⟩ = some v := by rw [cell_of_row w mb 1 _ _ _ h.hm]; rfl
theorem MemIs.cell2 (h : MemIs w own mb sb cp v m) : w.cell? ⟨mb, 2, none⟩ = some (.int .i64 m.l) := by rw [cell_of_row w mb 2 _ _ _ h.hm]; rfl
theorem MemIs.free (h : MemIs w own mb sb cp v m) (j : Nat) : w.frozen? ⟨mb, j, none⟩ = false := frozen_of_row w mb j _ _ h.hm
theorem MemIs.sfree (h : MemIs w own mb sb cp v m) (j : Nat) : w.frozen? ⟨sb, j, none⟩ = false := h.hs.frozenAt j
theorem MemIs.seg (h : MemIs w own mb sb cp v m) (hk : m.Ok) {i j : Nat} {s : Sg} {x : Value} (hi : m.S[i]? = some s) (hj : j < 72) (hx : s.cells[j]? = some x) : w.cell? ⟨sb, i * 72 + j, none⟩ = some x := by
  have hl : i < m.S.length := (List.getElem?_eq_some_iff.1 hi).1
  rw [h.hs.cellAt (i * 72 + j) (by omega), flat_get hk.all hi hj, hx]
theorem MemIs.lt (h : MemIs w own mb sb cp v m) : mb < w.heap.size ∧ sb < w.heap.size := ⟨lt_of_block h.hm, (h.hs.lt sb rfl).2⟩
theorem MemIs.kept (h : MemIs w own mb sb cp v m) (hk : Keep own w w') : MemIs w' own mb sb cp v m :=
  ⟨hk.heap h.w1 h.hm, hk.own h.hs (fun k e => by cases e; exact h.w2), hk.own h.ho h.w3, h.d1, h.d2, h.d3, h.w1, h.w2, h.w3⟩
theorem MemIs.mono (h : MemIs w own mb sb cp v m) (hk : ∀ k, own k → own' k) : MemIs w own' mb sb cp v m :=
  ⟨h.hm, h.hs, h.ho, h.d1, h.d2, h.d3, hk _ h.w1, hk _ h.w2, fun k e => hk _ (h.w3 k e)⟩
theorem MemAt.kept (h : MemAt w own mb m) (hk : Keep own w w') : MemAt w' own mb m := by
  obtain ⟨ho, sb, cp, v, h⟩ := h; exact ⟨ho, sb, cp, v, h.kept hk⟩
theorem MemAt.mono (h : MemAt w own mb m) (hk : ∀ k, own k → own' k) : MemAt w own' mb m := by
  obtain ⟨ho, sb, cp, v, h⟩ := h; exact ⟨ho, sb, cp, v, h.mono hk⟩
/-- One cell of a segment is written. -/
theorem MemIs.put (h : MemIs w own mb sb cp v m) (hk : m.Ok) {i j : Nat} {s s' : Sg} {x : Value} (hi : m.S[i]? = some s) (hj : j < 72) (hx : s'.cells = s.cells.set j x) :
    MemIs (w.setCell ⟨sb, i * 72 + j, none⟩ x) own mb sb cp v { m with S := m.S.set i s' } := by
  have hst := (h.hs.stored (i * 72 + j) x).1
  rw [flat_set1 hk.all hi hj hx] at hst
  refine ⟨?_, by simpa using hst, ownsRow_setCell_other h.ho h.d3 x, h.d1, h.d2, h.d3, h.w1, h.w2, h.w3⟩
  rw [heap_setCell_other w _ mb x (by exact h.d1)]
  simpa using h.hm
/-- The number below which none is free. -/
theorem MemIs.low (h : MemIs w own mb sb cp v m) (l : Nat) : MemIs (w.setCell ⟨mb, 2, none⟩ (.int .i64 l)) own mb sb cp v { m with l := l } := by
  refine ⟨?_, ownsRow_setCell_other h.hs (by simpa [Value.ownBlock] using fun e => h.d1 e.symm) _, ownsRow_setCell_other h.ho h.d2 _, h.d1, h.d2, h.d3, h.w1, h.w2, h.w3⟩
  rw [heap_setCell_same w mb 2 _ _ _ h.hm]
  rfl
/-- The order is another row. -/
theorem MemIs.order (h : MemIs w own mb sb cp v m) {v' : Value} {o' : List Nat} (ho : w.ownsRow 0 3 1 v' o'.length (ints o')) (e2 : v'.ownBlock ≠ some mb) (e3 : v'.ownBlock ≠ some sb) (h3 : ∀ k, v'.ownBlock = some k → own k) :
    MemIs (w.setCell ⟨mb, 1, none⟩ v') own mb sb cp v' { m with o := o' } := by
  refine ⟨?_, ownsRow_setCell_other h.hs (by simpa [Value.ownBlock] using fun e => h.d1 e.symm) _, ownsRow_setCell_other ho e2 _, h.d1, e2, e3, h.w1, h.w2, h3⟩
  rw [heap_setCell_same w mb 1 _ _ _ h.hm]
  rfl
end
end Go.Proofs.Ytmhbbhlmiinobaa
