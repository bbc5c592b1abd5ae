/- seg.Take. -/
import Derived.Test.YtmhbbhlmiinobaaE
import Derived.Deep.LoopGhost
import Derived.Deep.RegionHeld3
import Derived.Deep.RegionLaw
import Derived.Deep.MidRow
import Derived.Maps.AppendAt
set_option linter.unusedVariables false
set_option linter.unusedSimpArgs false
namespace Go.Proofs.Ytmhbbhlmiinobaa
open Go Go.RowKit
set_option maxHeartbeats 800000
def kindB (k : Int) : Bool := decide (0 ≤ k ∧ k ≤ 3)
theorem take_arg {w : World} {own : Nat → Prop} {mb : Nat} {m : M} (h : MemAt w own mb m) {g k : Int} (hb : genB g = false ∨ kindB k = false) :
    Calls Try.prog 13 #[.pointer (some ⟨mb, 0, none⟩), .int .i64 g, .int .i64 k] w fun e w' => e = .returned (.tuple #[.int .i64 0, .int .i64 1]) ∧ w = w' := by
  obtain ⟨hk, sb, cp, v, h⟩ := h
  have H := Lib.hid (limit_any _ _ _ _ _ h.cell0)
  have hl := hk.lo
  have hz : ((m.S.length : Int) == 0) = false := beq_eq_false_iff_ne.2 (by omega)
  by_cases hg : genB g = false
  · have G : Hid (Calls Try.prog 28 #[.int .i64 g] w fun e w' => e = .returned (.bool false) ∧ w = w') := by
      have := isgen_any g w
      rw [hg] at this
      exact Lib.hid this
    clear hb hg
    go_enter Try.func13, Try.ntmps13
    go_wp2_with (first | (go_at_call 23; refine H.out.mono ?_; rintro e w' ⟨rfl, rfl⟩) | (go_at_call 28; refine G.out.mono ?_; rintro e w' ⟨rfl, rfl⟩))
    go_ret2
    exact ⟨rfl, rfl⟩
  · have hg' : genB g = true := by simpa using hg
    have G : Hid (Calls Try.prog 28 #[.int .i64 g] w fun e w' => e = .returned (.bool true) ∧ w = w') := by
      have := isgen_any g w
      rw [hg'] at this
      exact Lib.hid this
    have hkk : k < 0 ∨ 3 < k := by
      have := hb.resolve_left hg
      simp [kindB] at this
      omega
    clear hb hg hg'
    by_cases h0 : k < 0
    · clear hkk
      go_enter Try.func13, Try.ntmps13
      go_wp2_with (first | (go_at_call 23; refine H.out.mono ?_; rintro e w' ⟨rfl, rfl⟩) | (go_at_call 28; refine G.out.mono ?_; rintro e w' ⟨rfl, rfl⟩))
      go_ret2
      exact ⟨rfl, rfl⟩
    · have h1 : 0 ≤ k := by omega
      have h3 : 3 < k := by omega
      clear hkk h0
      go_enter Try.func13, Try.ntmps13
      go_wp2_with (first | (go_at_call 23; refine H.out.mono ?_; rintro e w' ⟨rfl, rfl⟩) | (go_at_call 28; refine G.out.mono ?_; rintro e w' ⟨rfl, rfl⟩))
      go_ret2
      exact ⟨rfl, rfl⟩
/-- the least that is free -/
def ff (S : List Sg) : Nat := S.findIdx (fun s => !s.t)
theorem ff_le (S : List Sg) : ff S ≤ S.length := List.findIdx_le_length
theorem ff_below {S : List Sg} {i : Nat} {s : Sg} (h : i < ff S) (hs : S[i]? = some s) : s.t = true := by
  have := List.not_of_lt_findIdx h
  have hl := get_lt hs
  have e : S[i] = s := by simpa [List.getElem?_eq_getElem hl] using hs
  simpa [e] using this
theorem ff_at {S : List Sg} (h : ff S < S.length) : (S[ff S]).t = false := by
  have := List.findIdx_getElem (p := fun s : Sg => !s.t) (xs := S) (w := h)
  have h2 : (!(S[ff S]).t) = true := this
  simpa using h2
theorem ff_ge {m : M} (h : m.Ok) : m.l ≤ ff m.S := by
  rcases Nat.lt_or_ge (ff m.S) m.l with h1 | h1
  · have hl : ff m.S < m.S.length := by have := h.l; omega
    have h2 := h.tk _ _ h1 (List.getElem?_eq_getElem hl)
    rw [ff_at hl] at h2
    cases h2
  · exact h1
theorem low_ok {m : M} (h : m.Ok) {j : Nat} (hj : j ≤ ff m.S) : ({ m with l := j } : M).Ok :=
  ⟨h.lo, h.hi, h.all, Nat.le_trans hj (ff_le _), fun i s hi hs => ff_below (Nat.lt_of_lt_of_le hi hj) hs, h.nd, h.mem, h.cnt⟩
theorem MemIs.drewN {w : World} {own : Nat → Prop} {mb sb cp : Nat} {v : Value} {m : M} (h : MemIs w own mb sb cp v m) (n : Nat) : MemIs (w.drewN n) own mb sb cp v m := h.kept ((Keep.refl _ _).drewN n)
def Inv (w : World) (own : Nat → Prop) (mb sb cp : Nat) (v : Value) (m : M) (j : Nat) (wr : World) : Prop := MemIs wr own mb sb cp v { m with l := j } ∧ Keep (fun k => ¬ own k) w wr
theorem Inv.drewN {w wr : World} {own : Nat → Prop} {mb sb cp : Nat} {v : Value} {m : M} {j : Nat} (h : Inv w own mb sb cp v m j wr) (n : Nat) : Inv w own mb sb cp v m j (wr.drewN n) := ⟨h.1.drewN n, h.2.drewN n⟩
theorem Inv.next {w wr : World} {own : Nat → Prop} {mb sb cp : Nat} {v : Value} {m : M} {j : Nat} (h : Inv w own mb sb cp v m j wr) (j' : Nat) : Inv w own mb sb cp v m j' (wr.setCell ⟨mb, 2, none⟩ (.int .i64 j')) :=
  ⟨by have := h.1.low j'; simpa using this, h.2.setCell _ (Or.inl (by simpa using h.1.w1))⟩
theorem take_full {w : World} {own : Nat → Prop} {mb : Nat} {m : M} (h : MemAt w own mb m) {g k : Int} (hg : genB g = true) (hkk : kindB k = true) (hf : ff m.S = m.S.length) :
    Calls Try.prog 13 #[.pointer (some ⟨mb, 0, none⟩), .int .i64 g, .int .i64 k] w fun e w' => e = .returned (.tuple #[.int .i64 0, .int .i64 2]) ∧ Now own mb { m with l := m.S.length } w w' := by
  obtain ⟨hk, sb, cp, v, h⟩ := h
  have H := Lib.hid (limit_any _ _ _ _ _ h.cell0)
  have hl := hk.lo
  have hl2 := hk.hi
  have hz : ((m.S.length : Int) == 0) = false := beq_eq_false_iff_ne.2 (by omega)
  have G : Hid (Calls Try.prog 28 #[.int .i64 g] w fun e w' => e = .returned (.bool true) ∧ w = w') := by
    have := isgen_any g w
    rw [hg] at this
    exact Lib.hid this
  have hk1 : 0 ≤ k ∧ k ≤ 3 := by simpa [kindB] using hkk
  obtain ⟨k0, k3⟩ := hk1
  have HF := Lib.hid hf
  have HG := ff_ge hk
  have HL := ff_le m.S
  have HI : Hid (Inv w own mb sb cp v m m.l w) := Lib.hid ⟨h, Keep.refl _ _⟩
  have HGK := Lib.hid (And.intro hg hkk)
  clear hg hkk hf
  go_enter Try.func13, Try.ntmps13
  go_wp2_with (first | (go_at_call 23; refine H.out.mono ?_; rintro e w' ⟨rfl, rfl⟩) | (go_at_call 28; refine G.out.mono ?_; rintro e w' ⟨rfl, rfl⟩))
  go_loopg [] (m.S.length + 1) (fun gk wr => ∃ j : Nat, j ≤ ff m.S ∧ m.S.length - j < gk ∧ Hid (Inv w own mb sb cp v m j wr))
  case atStart => exact ⟨m.l, HG, by omega, HI⟩
  case round =>
    obtain ⟨j, hj, hgk, hI⟩ := hrel
    obtain ⟨gk', rfl⟩ : ∃ g', gk = g' + 1 := ⟨gk - 1, by omega⟩
    obtain ⟨V, hV⟩ : ∃ V, V = wr := ⟨_, rfl⟩
    rw [← hV] at hI ⊢
    clear hV
    have hI' := hI.out
    have hok := low_ok hk hj
    have c0 := hI'.1.cell0
    have c2 := hI'.1.cell2
    have f2 := hI'.1.free 2
    by_cases hlt : j < ff m.S
    · have hjl : j < m.S.length := by omega
      have hs : m.S[j]? = some m.S[j] := List.getElem?_eq_getElem hjl
      have ht := ff_below hlt hs
      have c7 := hI'.1.seg7 hok hs
      rw [ht] at c7
      clear ht hs
      go_wp2
      go_quiet (fail)
      go_wp2
      go_roundg gk'
      case measure => omega
      case rel => exact ⟨j + 1, by omega, by omega, Lib.hid (by have := (hI'.drewN nq).next (j + 1); exact this)⟩
    · obtain rfl : j = m.S.length := by have hq := HF.out; omega
      have hn : ¬ m.S.length < m.S.length := by omega
      go_wp2
      go_quiet (fail)
      go_wp2
      go_quiet (fail)
      go_wp2
      go_ret2
      exact ⟨rfl, ⟨hok, sb, cp, v, (hI'.1.drewN _).drewN _⟩, (hI'.2.drewN _).drewN _⟩

/-- The segment that is put. -/
def Sg.fresh (g k : Int) : Sg := ⟨g, k, 0, [5, 5, 5, 5], true, List.replicate 64 0⟩
theorem fresh_ok {g k : Int} (hg : genB g = true) (hk : kindB k = true) : (Sg.fresh g k).Ok := ⟨rfl, by simp [Sg.fresh], by simp [Sg.fresh], by simpa [genB, Sg.fresh] using hg, by simpa [kindB, Sg.fresh] using hk, fun j x _ h => by have := List.mem_of_getElem? h; simp [Sg.fresh] at this; exact this⟩
def M.taken (m : M) (g k : Int) : M := ⟨m.S.set (ff m.S) (Sg.fresh g k), m.o ++ [ff m.S], ff m.S⟩
/-! Several cells of a row are written. -/
theorem own_setCells {b0 : Nat} {e : TypeId} {sz g n c : Nat} : ∀ (vs : List Value) (o : Nat) (w : World) (xs : List Value), w.ownsRow b0 e sz (.slice (some ⟨g, 0, none⟩) n c) n xs → o + vs.length ≤ xs.length →
    (w.setCells g o vs).ownsRow b0 e sz (.slice (some ⟨g, 0, none⟩) n c) n (xs.take o ++ vs ++ xs.drop (o + vs.length))
  | [], o, w, xs, h, _ => by simpa [World.setCells] using h
  | v :: r, o, w, xs, h, hl => by
    have hl' : o + (r.length + 1) ≤ xs.length := by simpa using hl
    have ih := own_setCells r (o + 1) (w.setCell ⟨g, o, none⟩ v) (xs.set o v) (h.stored o v).1 (by rw [List.length_set]; omega)
    have e1 : (xs.set o v).take (o + 1) = xs.take o ++ [v] := by
      rw [List.take_add_one, List.take_set_of_le (Nat.le_refl _), List.getElem?_set_self (by omega)]; rfl
    have e2 : (xs.set o v).drop (o + 1 + r.length) = xs.drop (o + (r.length + 1)) := by
      rw [List.drop_set_of_lt (by omega)]; congr 1; omega
    rw [e1, e2] at ih
    simpa [World.setCells] using ih
theorem keep_setCells {G : Nat → Prop} {g : Nat} (hg : ¬ G g) : ∀ (vs : List Value) (o : Nat) (w w' : World), Keep G w w' → Keep G w (w'.setCells g o vs)
  | [], _, _, _, h => h
  | v :: r, o, w, w', h => keep_setCells hg r (o + 1) w _ (h.setCell v (Or.inl hg))
theorem block_setCells {g k : Nat} (hg : k ≠ g) : ∀ (vs : List Value) (o : Nat) (w : World), (w.setCells g o vs).heap[k]? = w.heap[k]?
  | [], _, _ => rfl
  | v :: r, o, w => (block_setCells hg r (o + 1) _).trans (heap_setCell_other w _ k v (by exact hg))
theorem size_setCells {g : Nat} : ∀ (vs : List Value) (o : Nat) (w : World), (w.setCells g o vs).heap.size = w.heap.size
  | [], _, _ => rfl
  | v :: r, o, w => (size_setCells r (o + 1) _).trans (by simp [World.setCell])
theorem own_block {w w' : World} {base : Nat} {e : TypeId} {size : Nat} {v : Value} {n : Nat} {xs : List Value} (ho : w.ownsRow base e size v n xs) (hb : ∀ k, v.ownBlock = some k → w'.heap[k]? = w.heap[k]?) : w'.ownsRow base e size v n xs := by
  obtain ⟨h1, h2⟩ := ho
  refine ⟨h1, ?_⟩
  rcases h2 with h2 | ⟨g, cap, cur, rfl, h3, hg, r⟩
  · exact .inl h2
  · exact .inr ⟨g, cap, cur, rfl, h3, (hb g rfl).trans hg, r⟩
theorem MemIs.putAll {w : World} {own : Nat → Prop} {mb sb cp : Nat} {v : Value} {m : M} (h : MemIs w own mb sb cp v m) (hk : m.Ok) {i : Nat} {s' : Sg} (hi : i < m.S.length) (hs : s'.Ok) :
    MemIs (w.setCells sb (i * 72) s'.cells) own mb sb cp v { m with S := m.S.set i s' } := by
  have hst := own_setCells s'.cells (i * 72) w _ h.hs (by rw [Sg.len hs, flat_len hk.all]; omega)
  rw [Sg.len hs, flat_splice hk.all hi] at hst
  refine ⟨?_, by simpa using hst, own_block h.ho (fun k e => block_setCells (fun e' => h.d3 (by rw [e, e'])) _ _ _), h.d1, h.d2, h.d3, h.w1, h.w2, h.w3⟩
  rw [block_setCells h.d1]
  simpa using h.hm
theorem MemIs.there {w : World} {own : Nat → Prop} {mb sb cp : Nat} {v : Value} {m : M} (h : MemIs w own mb sb cp v m) (hk : m.Ok) {i : Nat} (hi : i < m.S.length) : w.there sb (i * 72) 72 := by
  intro j hj
  have hs : m.S[i]? = some m.S[i] := List.getElem?_eq_getElem hi
  have hl : j < m.S[i].cells.length := by rw [Sg.len (hk.all.get hs)]; exact hj
  refine ⟨?_, h.sfree _⟩
  rw [h.seg hk hs hj (List.getElem?_eq_getElem hl)]; rfl
theorem fresh_one (g k : Int) : ∀ v ∈ (Sg.fresh g k).cells, v.oneCell' = true := by
  intro v hv
  simp [Sg.cells, Sg.fresh] at hv
  rcases hv with h | h | h | h | h | h | h | h | h
  all_goals first | (subst h; rfl) | (rw [h.2]; rfl) | rfl
theorem Try.info3 : (Try.prog.info? 3).map (fun i => (i.zero, i.size, i.bytes)) = some (some (.int .i64 0), 1, 8) := by kernel_rfl
theorem Try.under43 : Try.prog.underlying 43 = some (.slice 3) := by kernel_rfl
/-- One number is appended to a row of numbers. -/
theorem wp_append_int {o : Oper} {a : Act} {w : World} {K : Act → World → Prop} {Q : Exit → Act → World → Prop} (s x : Operand)
    (ho : o.op = .call { callee := .builtin .append, args := #[s, x], argTypes := #[43, 43] })
    (v : Value) (n : Nat) (xs : List Value) (hs : a.eval s = v) (hown : w.ownsRow 0 3 1 v n xs)
    (B : Nat) (u : Int) (hx : a.eval x = .slice (some ⟨B, 0, none⟩) 1 1) (hc : w.cell? ⟨B, 0, none⟩ = some (.int .i64 u)) (hn : n ≤ 1000000)
    (h : ∀ v' w', w'.ownsRow 0 3 1 v' (n + 1) (xs ++ [.int .i64 u]) → w.grownBy w' v.ownBlock → (v'.ownBlock = v.ownBlock ∨ v'.ownBlock = some w.heap.size) → K (a.put o.dst v') w') : o.wp Try.prog a w K Q := by
  obtain ⟨i0, hi, hz0, hz1, hz2⟩ := info_parts Try.info3
  obtain ⟨v', w', hr, h2, h3, _, h5⟩ := run_append_own_at (P := Try.prog) w 0 43 o.type 3 i0 _ 1 8 Try.under43 hi hz0 hz1 hz2 rfl (by decide) v n xs hown ⟨B, 0, none⟩ 1 1 [.int .i64 u] rfl (by
    intro j u' hj
    match j with
    | 0 => simp at hj; subst hj; exact hc
    | j + 1 => simp at hj) (by simp [Value.oneCell']) (by unfold maxLen; omega) (by omega) (Nat.zero_le _)
  unfold Oper.wp execOp
  simp only [ho, resolve, invoke, builtin, Sem.run_bind, Sem.run_pure, Result.andThen_ok, List.map_toArray, List.map_cons, List.map_nil, hs, hx, hr]
  exact h v' w' h2 h3 h5
theorem own_slice {w : World} {base : Nat} {e : TypeId} {size : Nat} {v : Value} {n : Nat} {xs : List Value} (h : w.ownsRow base e size v n xs) : ∃ A c, v = .slice A n c := by
  rcases h.2 with ⟨rfl, rfl⟩ | ⟨g, cap, cur, rfl, _⟩
  · exact ⟨none, 0, rfl⟩
  · exact ⟨_, _, rfl⟩
theorem MemIs.appended {A w2 : World} {own : Nat → Prop} {mb sb cp : Nat} {v v' : Value} {m : M} {o' : List Nat} (h : MemIs A own mb sb cp v m) (hgr : A.grownBy w2 v.ownBlock) (hown : w2.ownsRow 0 3 1 v' o'.length (ints o')) (hat : v'.ownBlock = v.ownBlock ∨ v'.ownBlock = some A.heap.size) :
    MemIs (w2.setCell ⟨mb, 1, none⟩ v') (fun k => own k ∨ A.heap.size ≤ k) mb sb cp v' { m with o := o' } := by
  have hl := h.lt
  have e2 : v'.ownBlock ≠ some mb := by
    rcases hat with e | e
    · rw [e]; exact h.d2
    · rw [e]; intro e'; cases e'; omega
  have e3 : v'.ownBlock ≠ some sb := by
    rcases hat with e | e
    · rw [e]; exact h.d3
    · rw [e]; intro e'; cases e'; omega
  refine ⟨?_, ownsRow_setCell_other (own_block h.hs (fun k e => ?_)) (by simpa [Value.ownBlock] using fun e => h.d1 e.symm) _, ownsRow_setCell_other hown e2 _, h.d1, e2, e3, Or.inl h.w1, Or.inl h.w2, fun k e => ?_⟩
  · rw [heap_setCell_same w2 mb 1 _ _ _ ((hgr.block mb hl.1 (fun e => h.d2 e.symm)).trans h.hm)]
    rfl
  · cases e
    exact hgr.block sb hl.2 (fun e => h.d3 e.symm)
  · rcases hat with e' | e'
    · exact Or.inl (h.w3 k (e' ▸ e))
    · rw [e'] at e; cases e; exact Or.inr (Nat.le_refl _)
theorem ints_append (a b : List Nat) : ints (a ++ b) = ints a ++ ints b := by simp [ints]
theorem taken_ok {m : M} (h : m.Ok) {g k : Int} (hg : genB g = true) (hkk : kindB k = true) (hf : ff m.S < m.S.length) : (m.taken g k).Ok := by
  have hs : m.S[ff m.S]? = some m.S[ff m.S] := List.getElem?_eq_getElem hf
  have ht := ff_at hf
  have hn : ff m.S ∉ m.o := by
    intro hm
    obtain ⟨s, e, e'⟩ := (h.mem _).1 hm
    rw [hs] at e
    cases e
    rw [ht] at e'
    cases e'
  refine ⟨by simpa [M.taken] using h.lo, by simpa [M.taken] using h.hi, h.all.set (fresh_ok hg hkk), by simpa [M.taken] using ff_le m.S, ?_, ?_, ?_, ?_⟩
  · intro i s hi hx
    simp only [M.taken] at hi hx
    rw [List.getElem?_set_ne (by omega)] at hx
    exact ff_below hi hx
  · simp only [M.taken]
    rw [List.nodup_append]
    exact ⟨h.nd, by simp, fun a ha b hb => by simp at hb; subst hb; intro e; exact hn (e ▸ ha)⟩
  · intro i
    simp only [M.taken, List.mem_append, List.mem_singleton, h.mem i]
    constructor
    · rintro (⟨s, e, e'⟩ | e)
      · refine ⟨s, ?_, e'⟩
        rw [List.getElem?_set_ne (by rintro rfl; rw [hs] at e; cases e; rw [ht] at e'; cases e')]
        exact e
      · subst e
        exact ⟨Sg.fresh g k, List.getElem?_set_self hf, rfl⟩
    · rintro ⟨s, e, e'⟩
      by_cases hi : ff m.S = i
      · exact Or.inr hi.symm
      · rw [List.getElem?_set_ne hi] at e
        exact Or.inl ⟨s, e, e'⟩
  · have := cntT_set (s' := Sg.fresh g k) hs
    rw [ht] at this
    have h1 := h.cnt
    simp only [M.taken, List.length_append, List.length_singleton]
    simp [Sg.fresh] at this ⊢
    omega
def z72 : Array Value := Sg.zero.cells.toArray
theorem zero72 (w : World) : (zeroValue 72).run Try.prog w = .ok (.agg z72) w := by kernel_rfl
theorem info72s : (Try.prog.info? 72).map (·.size) = some (Sg.fresh 0 0).cells.toArray.size := by kernel_rfl
theorem size72 : z72.size = 72 := by have := Sg.len zero_ok; simpa [z72] using this
theorem fresh72 (g k : Int) : ((((((((z72.setIfInBounds 0 (.int .i64 g)).setIfInBounds 1 (.int .i64 k)).setIfInBounds 2 (.int .i64 0)).setIfInBounds 3 (.int .i64 5)).setIfInBounds 4 (.int .i64 5)).setIfInBounds 5 (.int .i64 5)).setIfInBounds 6 (.int .i64 5)).setIfInBounds 7 (.bool true)) = (Sg.fresh g k).cells.toArray := rfl
theorem take_yes {w : World} {own : Nat → Prop} {mb : Nat} {m : M} (h : MemAt w own mb m) {g k : Int} (hg : genB g = true) (hkk : kindB k = true) (hf : ff m.S < m.S.length) :
    Calls Try.prog 13 #[.pointer (some ⟨mb, 0, none⟩), .int .i64 g, .int .i64 k] w fun e w' => e = .returned (.tuple #[.int .i64 (ff m.S), .int .i64 0]) ∧ MemAt w' (fun k => own k ∨ w.heap.size ≤ k) mb (m.taken g k) ∧ Keep (fun k => ¬ own k) w w' := by
  obtain ⟨hk, sb, cp, v, h⟩ := h
  have H := Lib.hid (limit_any _ _ _ _ _ h.cell0)
  have hl := hk.lo
  have hl2 := hk.hi
  have hz : ((m.S.length : Int) == 0) = false := beq_eq_false_iff_ne.2 (by omega)
  have G : Hid (Calls Try.prog 28 #[.int .i64 g] w fun e w' => e = .returned (.bool true) ∧ w = w') := by
    have := isgen_any g w
    rw [hg] at this
    exact Lib.hid this
  have hk1 : 0 ≤ k ∧ k ≤ 3 := by simpa [kindB] using hkk
  obtain ⟨k0, k3⟩ := hk1
  have HF := Lib.hid hf
  have HG := ff_ge hk
  have HL := ff_le m.S
  have HI : Hid (Inv w own mb sb cp v m m.l w) := Lib.hid ⟨h, Keep.refl _ _⟩
  have HGK := Lib.hid (And.intro hg hkk)
  clear hg hkk hf
  go_enter Try.func13, Try.ntmps13
  go_wp2_with (first | (go_at_call 23; refine H.out.mono ?_; rintro e w' ⟨rfl, rfl⟩) | (go_at_call 28; refine G.out.mono ?_; rintro e w' ⟨rfl, rfl⟩))
  go_loopg [] (m.S.length + 1) (fun gk wr => ∃ j : Nat, j ≤ ff m.S ∧ m.S.length - j < gk ∧ Hid (Inv w own mb sb cp v m j wr))
  case atStart => exact ⟨m.l, HG, by omega, HI⟩
  case round =>
    obtain ⟨j, hj, hgk, hI⟩ := hrel
    obtain ⟨gk', rfl⟩ : ∃ g', gk = g' + 1 := ⟨gk - 1, by omega⟩
    obtain ⟨V, hV⟩ : ∃ V, V = wr := ⟨_, rfl⟩
    rw [← hV] at hI ⊢
    clear hV
    have hI' := hI.out
    have hok := low_ok hk hj
    have c0 := hI'.1.cell0
    have c2 := hI'.1.cell2
    have f2 := hI'.1.free 2
    by_cases hlt : j < ff m.S
    · have hjl : j < m.S.length := by omega
      have hs : m.S[j]? = some m.S[j] := List.getElem?_eq_getElem hjl
      have ht := ff_below hlt hs
      have c7 := hI'.1.seg7 hok hs
      rw [ht] at c7
      clear ht hs
      go_wp2
      go_quiet (fail)
      go_wp2
      go_roundg gk'
      case measure => omega
      case rel => exact ⟨j + 1, by omega, by omega, Lib.hid (by have := (hI'.drewN nq).next (j + 1); exact this)⟩
    · obtain rfl : j = ff m.S := by omega
      obtain ⟨s0, hs, ht⟩ : ∃ s0, m.S[ff m.S]? = some s0 ∧ s0.t = false := ⟨_, List.getElem?_eq_getElem HF.out, ff_at HF.out⟩
      have c7 := hI'.1.seg7 hok hs
      have hlt := HF.out
      rw [ht] at c7
      have bF : ((ff m.S : Int) == (m.S.length : Int)) = false := beq_eq_false_iff_ne.2 (by omega)
      clear ht hs
      go_wp2
      go_quiet (fail)
      have hI1 := hI'.drewN nq
      generalize V.drewN nq = X1 at hI1 ⊢
      clear c0 c2 f2 c7
      have c0 := hI1.1.cell0
      have c2 := hI1.1.cell2
      go_wp2
      go_quiet (fail)
      have hI2 := hI1.drewN nq
      generalize X1.drewN nq = X at hI2 ⊢
      clear c0 c2 hI1 hI' hI
      have c0 := hI2.1.cell0
      have c2 := hI2.1.cell2
      have HX := Lib.hid hI2
      have HOK := Lib.hid hok
      have hlm := hI2.1.lt.1
      clear hI2 hok h HI H G
      have KS : ∀ Y, Below X.heap.size X Y → Y.cell? ⟨mb, 0, none⟩ = some (.slice (some ⟨sb, 0, none⟩) m.S.length cp) ∧ Y.cell? ⟨mb, 2, none⟩ = some (.int .i64 (ff m.S)) := fun Y hb => ⟨(hb.cell hlm).trans c0, (hb.cell hlm).trans c2⟩
      go_wp2
      refine wp_region_held_drew (S := fun Y => Y.cell? ⟨mb, 0, none⟩ = some (.slice (some ⟨sb, 0, none⟩) m.S.length cp) ∧ Y.cell? ⟨mb, 2, none⟩ = some (.int .i64 (ff m.S))) (by kernel_rfl) ?_ (fun hHeld => ?_)
      · exact KS _ (Below.refl _ _).drew
      refine wpAnyH_take (i := 0) (v := ?_) rfl (by kernel_rfl) (by kernel_rfl) (by kernel_rfl) (fun _ _ _ h => h) (Or.inl ⟨by rfl, ?_⟩) (by assumption) ?_
      rotate_left
      · intro w hSw
        (try dsimp only at hSw)
        go_simp
        all_goals with_reducible rfl
      try simp only [Act.put, List.setIfInBounds_toArray, List.set_cons_zero, List.set_cons_succ]
      refine wpAnyH_take (i := 1) (v := ?_) rfl (by kernel_rfl) (by kernel_rfl) (by kernel_rfl) (fun _ _ _ h => h) (Or.inl ⟨by rfl, ?_⟩) (by assumption) ?_
      rotate_left
      · intro w hSw
        (try dsimp only at hSw)
        go_simp
        all_goals with_reducible rfl
      try simp only [Act.put, List.setIfInBounds_toArray, List.set_cons_zero, List.set_cons_succ]
      refine wpAnyH_take (i := 2) (v := ?_) rfl (by kernel_rfl) (by kernel_rfl) (by kernel_rfl) (fun _ _ _ h => h) (Or.inl ⟨by rfl, ?_⟩) (by assumption) ?_
      rotate_left
      · intro w hSw
        (try dsimp only at hSw)
        go_simp
        all_goals with_reducible rfl
      try simp only [Act.put, List.setIfInBounds_toArray, List.set_cons_zero, List.set_cons_succ]
      refine wpAnyH_take (i := 3) (v := ?_) rfl (by kernel_rfl) (by kernel_rfl) (by kernel_rfl) (fun _ _ _ h => h) (Or.inl ⟨by rfl, ?_⟩) (by assumption) ?_
      rotate_left
      · intro w hSw
        (try dsimp only at hSw)
        go_simp
        all_goals with_reducible rfl
      try simp only [Act.put, List.setIfInBounds_toArray, List.set_cons_zero, List.set_cons_succ]
      refine wpAnyH_take (i := 4) (v := ?_) rfl (by kernel_rfl) (by kernel_rfl) (by kernel_rfl) (fun _ _ _ h => h) (Or.inl ⟨by rfl, ?_⟩) (by assumption) ?_
      rotate_left
      · intro w hSw
        (try dsimp only at hSw)
        go_simp
        all_goals with_reducible rfl
      try simp only [Act.put, List.setIfInBounds_toArray, List.set_cons_zero, List.set_cons_succ]
      refine wpAnyH_take (i := 5) (v := ?_) rfl (by kernel_rfl) (by kernel_rfl) (by kernel_rfl) (fun _ _ _ h => h) (Or.inl ⟨by rfl, ?_⟩) (by assumption) ?_
      rotate_left
      · intro w hSw
        (try dsimp only at hSw)
        go_simp
        all_goals with_reducible rfl
      try simp only [Act.put, List.setIfInBounds_toArray, List.set_cons_zero, List.set_cons_succ]
      refine wpAnyH_take (i := 6) (v := ?_) rfl (by kernel_rfl) (by kernel_rfl) (by kernel_rfl) (fun _ _ _ h => h) (Or.inl ⟨by rfl, ?_⟩) (by assumption) ?_
      rotate_left
      · intro w hSw
        (try dsimp only at hSw)
        go_simp
        all_goals with_reducible rfl
      try simp only [Act.put, List.setIfInBounds_toArray, List.set_cons_zero, List.set_cons_succ]
      refine wpAnyH_take (i := 7) (v := ?_) rfl (by kernel_rfl) (by kernel_rfl) (by kernel_rfl) (fun _ _ _ h => h) (Or.inl ⟨by rfl, ?_⟩) (by assumption) ?_
      rotate_left
      · intro w hSw
        (try dsimp only at hSw)
        go_simp
        all_goals with_reducible rfl
      try simp only [Act.put, List.setIfInBounds_toArray, List.set_cons_zero, List.set_cons_succ]
      refine wpAnyH_take (i := 8) (v := ?_) rfl (by kernel_rfl) (by kernel_rfl) (by kernel_rfl) (fun _ _ _ h => h) (Or.inl ⟨by rfl, ?_⟩) (by assumption) ?_
      rotate_left
      · intro w hSw
        (try dsimp only at hSw)
        go_simp
        all_goals with_reducible rfl
      try simp only [Act.put, List.setIfInBounds_toArray, List.set_cons_zero, List.set_cons_succ]
      refine wpAnyH_take (i := 9) (v := ?_) rfl (by kernel_rfl) (by kernel_rfl) (by kernel_rfl) (fun _ _ _ h => h) (Or.inl ⟨by rfl, ?_⟩) (by assumption) ?_
      rotate_left
      · intro w hSw
        (try dsimp only at hSw)
        go_simp
        all_goals with_reducible rfl
      try simp only [Act.put, List.setIfInBounds_toArray, List.set_cons_zero, List.set_cons_succ]
      refine wpAnyH_ready (rs := [10]) (by kernel_rfl) (by simp) ?_
      refine AllReadyH.cons rfl (fun K hK => ?_) AllReadyH.nil
      go_simp
      go_at_call 29
      with_reducible refine (unused_any g k _).mono ?_
      rintro e w' ⟨rfl, bb⟩
      go_wp2_with fail
      have hb1 : Below X.heap.size X w' := (Below.refl _ _).drew.trans bb
      refine hK.out _ _ ?_ (fun hH2 => ?_)
      · (try dsimp only)
        exact KS _ hb1
      clear hK K hHeld
      have hHeld := hH2
      clear hH2
      try simp only [Act.put, List.setIfInBounds_toArray, List.set_cons_zero, List.set_cons_succ]
      have hz72 := zero72
      have hs72 := size72
      refine wpAnyH_take (i := 11) (v := ?_) rfl (by kernel_rfl) (by kernel_rfl) (by kernel_rfl) (fun _ _ _ h => h) (Or.inl ⟨by rfl, ?_⟩) (by assumption) ?_
      rotate_left
      · intro w hSw
        (try dsimp only at hSw)
        go_simp
        all_goals with_reducible rfl
      try simp only [Act.put, List.setIfInBounds_toArray, List.set_cons_zero, List.set_cons_succ]
      rw [fresh72]
      clear hz72 hs72
      refine wpAnyH_take (i := 12) (v := ?_) rfl (by kernel_rfl) (by kernel_rfl) (by kernel_rfl) (fun _ _ _ h => h) (Or.inl ⟨by rfl, ?_⟩) (by assumption) ?_
      rotate_left
      · intro w hSw
        (try dsimp only at hSw)
        go_simp
        all_goals with_reducible rfl
      try simp only [Act.put, List.setIfInBounds_toArray, List.set_cons_zero, List.set_cons_succ]
      refine wpAnyH_ready (rs := [13]) (by kernel_rfl) (by simp) ?_
      refine AllReadyH.cons rfl (fun K hK => ?_) AllReadyH.nil
      rw [if_pos (by rfl)]
      have hb2 := hb1
      have HX1 : Inv w own mb sb cp v m (ff m.S) w' := ⟨HX.out.1.kept (Keep.any hb1), HX.out.2.trans (Keep.any hb1)⟩
      have hok2 := HOK.out
      have hth := HX1.1.there hok2 hlt
      have hY0 := HX1.1.putAll hok2 hlt (fresh_ok HGK.out.1 HGK.out.2)
      have hK0 : Keep (fun k => ¬ own k) w (w'.setCells sb (ff m.S * 72) (Sg.fresh g k).cells) := keep_setCells (by simpa using HX1.1.w2) _ _ _ _ HX1.2
      have hS0 : w.heap.size ≤ (w'.setCells sb (ff m.S * 72) (Sg.fresh g k).cells).heap.size := hK0.size
      refine wp_store_mid 72 _ _ rfl sb (ff m.S * 72) (Sg.fresh g k).cells.toArray rfl rfl hth info72s (all_oneCell_toArray (fresh_one g k)) ?_
      rw [show (Sg.fresh g k).cells.toArray.toList = (Sg.fresh g k).cells from rfl]
      generalize w'.setCells sb (ff m.S * 72) (Sg.fresh g k).cells = Y at hY0 hK0 hS0 ⊢
      refine hK.out _ _ ?_ (fun hH2 => ?_)
      · (try dsimp only)
        refine ⟨?_, hY0.cell2⟩
        have hh := hY0.cell0
        rw [show ({ S := m.S.set (ff m.S) (Sg.fresh g k), o := m.o, l := ff m.S } : M).S.length = m.S.length from by simp] at hh
        exact hh
      clear hK K hHeld hH2
      try simp only [Act.put, List.setIfInBounds_toArray, List.set_cons_zero, List.set_cons_succ]
      refine wpAnyH_done (by kernel_rfl) ?_ _
      go_wp2
      clear c0 c2 KS HX HOK hth HX1
      have c1 := hY0.cell1
      have c2 := hY0.cell2
      have f1 := hY0.free 1
      have hlm := hY0.lt.1
      have hol : m.o.length ≤ 1024 := by have h1 := cntT_le m.S; have h2 := hk.cnt; omega
      refine wp_region_held_drew (S := fun Z => Z.cell? ⟨mb, 2, none⟩ = some (.int .i64 (ff m.S))) (by kernel_rfl) ?_ (fun hHeld => ?_)
      · exact c2
      refine wpAnyH_take (i := 0) (v := ?_) rfl (by kernel_rfl) (by kernel_rfl) (by kernel_rfl) (fun _ _ _ h => h) (Or.inl ⟨by rfl, ?_⟩) (by assumption) ?_
      rotate_left
      · intro w hSw
        (try dsimp only at hSw)
        go_simp
        all_goals with_reducible rfl
      try simp only [Act.put, List.setIfInBounds_toArray, List.set_cons_zero, List.set_cons_succ]
      refine wpAnyH_take (i := 1) (v := ?_) rfl (by kernel_rfl) (by kernel_rfl) (by kernel_rfl) (fun _ _ _ h => h) (Or.inl ⟨by rfl, ?_⟩) (by assumption) ?_
      rotate_left
      · intro w hSw
        (try dsimp only at hSw)
        go_simp
        all_goals with_reducible rfl
      try simp only [Act.put, List.setIfInBounds_toArray, List.set_cons_zero, List.set_cons_succ]
      refine wpAnyH_take (i := 2) (v := ?_) rfl (by kernel_rfl) (by kernel_rfl) (by kernel_rfl) (fun _ _ _ h => h) (Or.inl ⟨by rfl, ?_⟩) (by assumption) ?_
      rotate_left
      · intro w hSw
        (try dsimp only at hSw)
        go_simp
        all_goals with_reducible rfl
      try simp only [Act.put, List.setIfInBounds_toArray, List.set_cons_zero, List.set_cons_succ]
      refine wpAnyH_take (i := 3) (v := ?_) rfl (by kernel_rfl) (by kernel_rfl) (by kernel_rfl) (fun _ _ _ h => h) (Or.inl ⟨by rfl, ?_⟩) (by assumption) ?_
      rotate_left
      · intro w hSw
        (try dsimp only at hSw)
        go_simp
        all_goals with_reducible rfl
      try simp only [Act.put, List.setIfInBounds_toArray, List.set_cons_zero, List.set_cons_succ]
      refine wpAnyH_take (i := 5) (v := ?_) rfl (by kernel_rfl) (by kernel_rfl) (by kernel_rfl) (fun _ _ _ h => h) (Or.inl ⟨by rfl, ?_⟩) (by assumption) ?_
      rotate_left
      · intro w hSw
        (try dsimp only at hSw)
        go_simp
        all_goals with_reducible rfl
      try simp only [Act.put, List.setIfInBounds_toArray, List.set_cons_zero, List.set_cons_succ]
      refine wpAnyH_take (i := 6) (v := ?_) rfl (by kernel_rfl) (by kernel_rfl) (by kernel_rfl) (fun _ _ _ h => h) (Or.inl ⟨by rfl, ?_⟩) (by assumption) ?_
      rotate_left
      · intro w hSw
        (try dsimp only at hSw)
        go_simp
        all_goals with_reducible rfl
      try simp only [Act.put, List.setIfInBounds_toArray, List.set_cons_zero, List.set_cons_succ]
      refine wpAnyH_take (i := 7) (v := ?_) rfl (by kernel_rfl) (by kernel_rfl) (by kernel_rfl) (fun _ _ _ h => h) (Or.inl ⟨by rfl, ?_⟩) (by assumption) ?_
      rotate_left
      · intro w hSw
        (try dsimp only at hSw)
        go_simp
        all_goals with_reducible rfl
      try simp only [Act.put, List.setIfInBounds_toArray, List.set_cons_zero, List.set_cons_succ]
      refine wpAnyH_take (i := 8) (v := ?_) rfl (by kernel_rfl) (by kernel_rfl) (by kernel_rfl) (fun _ _ _ h => h) (Or.inl ⟨by rfl, ?_⟩) (by assumption) ?_
      rotate_left
      · intro w hSw
        (try dsimp only at hSw)
        go_simp
        all_goals with_reducible rfl
      try simp only [Act.put, List.setIfInBounds_toArray, List.set_cons_zero, List.set_cons_succ]
      refine wpAnyH_ready (rs := [4, 9]) (by kernel_rfl) (by simp) ?_
      refine AllReadyH.cons rfl (fun K hK => ?_) (AllReadyH.cons rfl (fun K hK => ?_) AllReadyH.nil)
      · go_simp
        refine hK.out _ _ ?_ (fun hH2 => ?_)
        · exact hHeld
        clear hK K hHeld
        have hHeld := hH2
        clear hH2
        try simp only [Act.put, List.setIfInBounds_toArray, List.set_cons_zero, List.set_cons_succ]
        refine wpAnyH_ready (rs := [9]) (by kernel_rfl) (by simp) ?_
        refine AllReadyH.cons rfl (fun K hK => ?_) AllReadyH.nil
        go_simp
        have hbA : Below Y.heap.size Y ((Y.alloc (.cells #[.int .i64 (ff m.S)] 3)).drew) := ((Below.refl _ _).alloc (by simp) _).drew
        have hAA : ((Y.alloc (.cells #[.int .i64 (ff m.S)] 3)).drew).cell? ⟨Y.heap.size, 0, none⟩ = some (.int .i64 (ff m.S)) := by
          rw [cell_of_row _ _ 0 _ _ _ (by rw [heap_drew]; exact heap_alloc_new Y _)]; rfl
        have hYA := hY0.kept (Keep.any hbA)
        have hKA := hK0.trans (Keep.any hbA)
        have hsA : Y.heap.size ≤ ((Y.alloc (.cells #[.int .i64 (ff m.S)] 3)).drew).heap.size := hbA.size
        generalize (Y.alloc (.cells #[.int .i64 (ff m.S)] 3)).drew = A at hbA hAA hYA hKA hsA ⊢
        clear c1 f1
        have c1 := hYA.cell1
        refine hK.out _ _ ?_ (fun hH2 => ?_)
        · exact hYA.cell2
        clear hK K hHeld
        have hHeld := hH2
        clear hH2
        try simp only [Act.put, List.setIfInBounds_toArray, List.set_cons_zero, List.set_cons_succ]
        refine wpAnyH_ready (rs := [10]) (by kernel_rfl) (by simp) ?_
        refine AllReadyH.cons rfl (fun K hK => ?_) AllReadyH.nil
        rw [if_pos (by rfl)]
        refine wp_append_int _ _ rfl v m.o.length (ints m.o) rfl (by exact hYA.ho) Y.heap.size (ff m.S) rfl hAA (by omega) ?_
        intro v' w2 hown2 hgr2 hat2
        obtain ⟨vA, vc, rfl⟩ := own_slice hown2
        have hl1 := hYA.lt.1
        have e1 : w2.heap[mb]? = A.heap[mb]? := hgr2.block mb hl1 (fun e => hYA.d2 e.symm)
        have c12 : w2.cell? ⟨mb, 1, none⟩ = some v := (World.cell?_of_block (w := A) e1).trans c1
        have c22 : w2.cell? ⟨mb, 2, none⟩ = some (.int .i64 (ff m.S)) := (World.cell?_of_block (w := A) e1).trans hYA.cell2
        have f12 : w2.frozen? ⟨mb, 1, none⟩ = false := (World.frozen?_of_block (w := A) e1).trans (hYA.free 1)
        have hZ : MemIs (w2.setCell ⟨mb, 1, none⟩ (.slice vA (m.o.length + 1) vc)) (fun k => own k ∨ A.heap.size ≤ k) mb sb cp (.slice vA (m.o.length + 1) vc) (m.taken g k) := by
          have := hYA.appended (o' := m.o ++ [ff m.S]) hgr2 (by rw [ints_append]; simpa [ints] using hown2) hat2
          exact this
        have hZ' := hZ.mono (own' := fun k => own k ∨ w.heap.size ≤ k) (fun k => by rintro (e | e); exact Or.inl e; exact Or.inr (by omega))
        have hKZ : Keep (fun k => ¬ own k) w (w2.setCell ⟨mb, 1, none⟩ (.slice vA (m.o.length + 1) vc)) := (hKA.grown hgr2 (fun k e => Or.inl (by simpa using hYA.w3 k e.symm.symm))).setCell _ (Or.inl (by simpa using hYA.w1))
        have HZ := Lib.hid hZ'
        have HKZ := Lib.hid hKZ
        clear hZ hZ' hKZ hown2 hgr2 hat2
        refine hK.out _ _ ?_ (fun hH2 => ?_)
        · exact c22
        clear hK K hHeld
        have hHeld := hH2
        clear hH2
        try simp only [Act.put, List.setIfInBounds_toArray, List.set_cons_zero, List.set_cons_succ]
        refine wpAnyH_take (i := 11) (v := ?_) rfl (by kernel_rfl) (by kernel_rfl) (by kernel_rfl) (fun _ _ _ h => h) (Or.inl ⟨by rfl, ?_⟩) (by assumption) ?_
        rotate_left
        · intro w hSw
          (try dsimp only at hSw)
          go_simp
          all_goals with_reducible rfl
        try simp only [Act.put, List.setIfInBounds_toArray, List.set_cons_zero, List.set_cons_succ]
        refine wpAnyH_take (i := 12) (v := ?_) rfl (by kernel_rfl) (by kernel_rfl) (by kernel_rfl) (fun _ _ _ h => h) (Or.inl ⟨by rfl, ?_⟩) (by assumption) ?_
        rotate_left
        · intro w hSw
          (try dsimp only at hSw)
          go_simp
          all_goals with_reducible rfl
        try simp only [Act.put, List.setIfInBounds_toArray, List.set_cons_zero, List.set_cons_succ]
        refine wpAnyH_ready (rs := [13]) (by kernel_rfl) (by simp) ?_
        refine AllReadyH.cons rfl (fun K hK => ?_) AllReadyH.nil
        go_simp
        refine hK.out _ _ ?_ (fun hH2 => ?_)
        · exact HZ.out.cell2
        clear hK K hHeld
        have hHeld := hH2
        clear hH2
        try simp only [Act.put, List.setIfInBounds_toArray, List.set_cons_zero, List.set_cons_succ]
        refine wpAnyH_done (by kernel_rfl) ?_ _
        have c23 := HZ.out.cell2
        go_wp2
        go_ret2
        exact ⟨rfl, ⟨taken_ok hk HGK.out.1 HGK.out.2 hlt, sb, cp, _, HZ.out⟩, HKZ.out⟩
      · go_simp
        have hbA : Below Y.heap.size Y ((Y.alloc (.cells #[.int .i64 (ff m.S)] 3)).drew) := ((Below.refl _ _).alloc (by simp) _).drew
        have hAA : ((Y.alloc (.cells #[.int .i64 (ff m.S)] 3)).drew).cell? ⟨Y.heap.size, 0, none⟩ = some (.int .i64 (ff m.S)) := by
          rw [cell_of_row _ _ 0 _ _ _ (by rw [heap_drew]; exact heap_alloc_new Y _)]; rfl
        have hYA := hY0.kept (Keep.any hbA)
        have hKA := hK0.trans (Keep.any hbA)
        have hsA : Y.heap.size ≤ ((Y.alloc (.cells #[.int .i64 (ff m.S)] 3)).drew).heap.size := hbA.size
        generalize (Y.alloc (.cells #[.int .i64 (ff m.S)] 3)).drew = A at hbA hAA hYA hKA hsA ⊢
        clear c1 f1
        have c1 := hYA.cell1
        refine hK.out _ _ ?_ (fun hH2 => ?_)
        · exact hYA.cell2
        clear hK K hHeld
        have hHeld := hH2
        clear hH2
        try simp only [Act.put, List.setIfInBounds_toArray, List.set_cons_zero, List.set_cons_succ]
        refine wpAnyH_ready (rs := [4]) (by kernel_rfl) (by simp) ?_
        refine AllReadyH.cons rfl (fun K hK => ?_) AllReadyH.nil
        go_simp
        refine hK.out _ _ ?_ (fun hH2 => ?_)
        · exact hHeld
        clear hK K hHeld
        have hHeld := hH2
        clear hH2
        try simp only [Act.put, List.setIfInBounds_toArray, List.set_cons_zero, List.set_cons_succ]
        refine wpAnyH_ready (rs := [10]) (by kernel_rfl) (by simp) ?_
        refine AllReadyH.cons rfl (fun K hK => ?_) AllReadyH.nil
        rw [if_pos (by rfl)]
        refine wp_append_int _ _ rfl v m.o.length (ints m.o) rfl (by exact hYA.ho) Y.heap.size (ff m.S) rfl hAA (by omega) ?_
        intro v' w2 hown2 hgr2 hat2
        obtain ⟨vA, vc, rfl⟩ := own_slice hown2
        have hl1 := hYA.lt.1
        have e1 : w2.heap[mb]? = A.heap[mb]? := hgr2.block mb hl1 (fun e => hYA.d2 e.symm)
        have c12 : w2.cell? ⟨mb, 1, none⟩ = some v := (World.cell?_of_block (w := A) e1).trans c1
        have c22 : w2.cell? ⟨mb, 2, none⟩ = some (.int .i64 (ff m.S)) := (World.cell?_of_block (w := A) e1).trans hYA.cell2
        have f12 : w2.frozen? ⟨mb, 1, none⟩ = false := (World.frozen?_of_block (w := A) e1).trans (hYA.free 1)
        have hZ : MemIs (w2.setCell ⟨mb, 1, none⟩ (.slice vA (m.o.length + 1) vc)) (fun k => own k ∨ A.heap.size ≤ k) mb sb cp (.slice vA (m.o.length + 1) vc) (m.taken g k) := by
          have := hYA.appended (o' := m.o ++ [ff m.S]) hgr2 (by rw [ints_append]; simpa [ints] using hown2) hat2
          exact this
        have hZ' := hZ.mono (own' := fun k => own k ∨ w.heap.size ≤ k) (fun k => by rintro (e | e); exact Or.inl e; exact Or.inr (by omega))
        have hKZ : Keep (fun k => ¬ own k) w (w2.setCell ⟨mb, 1, none⟩ (.slice vA (m.o.length + 1) vc)) := (hKA.grown hgr2 (fun k e => Or.inl (by simpa using hYA.w3 k e.symm.symm))).setCell _ (Or.inl (by simpa using hYA.w1))
        have HZ := Lib.hid hZ'
        have HKZ := Lib.hid hKZ
        clear hZ hZ' hKZ hown2 hgr2 hat2
        refine hK.out _ _ ?_ (fun hH2 => ?_)
        · exact c22
        clear hK K hHeld
        have hHeld := hH2
        clear hH2
        try simp only [Act.put, List.setIfInBounds_toArray, List.set_cons_zero, List.set_cons_succ]
        refine wpAnyH_take (i := 11) (v := ?_) rfl (by kernel_rfl) (by kernel_rfl) (by kernel_rfl) (fun _ _ _ h => h) (Or.inl ⟨by rfl, ?_⟩) (by assumption) ?_
        rotate_left
        · intro w hSw
          (try dsimp only at hSw)
          go_simp
          all_goals with_reducible rfl
        try simp only [Act.put, List.setIfInBounds_toArray, List.set_cons_zero, List.set_cons_succ]
        refine wpAnyH_take (i := 12) (v := ?_) rfl (by kernel_rfl) (by kernel_rfl) (by kernel_rfl) (fun _ _ _ h => h) (Or.inl ⟨by rfl, ?_⟩) (by assumption) ?_
        rotate_left
        · intro w hSw
          (try dsimp only at hSw)
          go_simp
          all_goals with_reducible rfl
        try simp only [Act.put, List.setIfInBounds_toArray, List.set_cons_zero, List.set_cons_succ]
        refine wpAnyH_ready (rs := [13]) (by kernel_rfl) (by simp) ?_
        refine AllReadyH.cons rfl (fun K hK => ?_) AllReadyH.nil
        go_simp
        refine hK.out _ _ ?_ (fun hH2 => ?_)
        · exact HZ.out.cell2
        clear hK K hHeld
        have hHeld := hH2
        clear hH2
        try simp only [Act.put, List.setIfInBounds_toArray, List.set_cons_zero, List.set_cons_succ]
        refine wpAnyH_done (by kernel_rfl) ?_ _
        have c23 := HZ.out.cell2
        go_wp2
        go_ret2
        exact ⟨rfl, ⟨taken_ok hk HGK.out.1 HGK.out.2 hlt, sb, cp, _, HZ.out⟩, HKZ.out⟩
end Go.Proofs.Ytmhbbhlmiinobaa
