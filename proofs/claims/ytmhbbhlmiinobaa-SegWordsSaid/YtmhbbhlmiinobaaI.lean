/- seg.Taken; Limit, Free; on a memory. -/
import Derived.Test.YtmhbbhlmiinobaaH
set_option linter.unusedVariables false
set_option linter.unusedSimpArgs false
namespace Go.Proofs.Ytmhbbhlmiinobaa
open Go Go.RowKit
set_option maxHeartbeats 800000
theorem limit_at {w : World} {own : Nat → Prop} {mb : Nat} {m : M} (h : MemAt w own mb m) : Calls Try.prog 23 #[.pointer (some ⟨mb, 0, none⟩)] w fun e w' => e = .returned (.int .i64 m.S.length) ∧ w = w' := by
  obtain ⟨hk, sb, cp, v, h⟩ := h
  exact limit_any _ _ _ _ _ h.cell0
theorem M.Ok.olen {m : M} (h : m.Ok) : m.o.length ≤ m.S.length := by have h1 := cntT_le m.S; have h2 := h.cnt; omega
theorem free_at {w : World} {own : Nat → Prop} {mb : Nat} {m : M} (h : MemAt w own mb m) : Calls Try.prog 22 #[.pointer (some ⟨mb, 0, none⟩)] w fun e w' => e = .returned (.int .i64 (m.S.length - m.o.length)) ∧ Below w.heap.size w w' := by
  obtain ⟨hk, sb, cp, v, h⟩ := h
  obtain ⟨A, c, rfl⟩ := own_slice h.ho
  refine (free_any _ _ _ _ _ _ _ _ h.cell0 h.cell1 hk.hi hk.olen).mono ?_
  rintro e w' ⟨rfl, j, rfl⟩
  exact ⟨rfl, ⟨rfl, rfl, rfl, Nat.le_refl _, fun _ _ => rfl⟩⟩
/-- which generations are named -/
def nmL (gs : List Int) : List Value := (List.range 5).map fun (k : Nat) => Value.bool (gs.contains (k : Int))
theorem nml_get (gs : List Int) {k : Nat} (hk : k < 5) : (nmL gs)[k]? = some (.bool (gs.contains (k : Int))) := by simp [nmL, hk]
theorem nml_snoc_in (gs : List Int) {k : Nat} (hk : k < 5) : (nmL gs).set k (.bool true) = nmL (gs ++ [(k : Int)]) := by
  apply List.ext_getElem?
  intro j
  rw [List.getElem?_set]
  by_cases h : k = j
  · subst h
    rw [if_pos rfl, nml_get _ hk]
    simp [nmL, hk]
  · rw [if_neg h]
    by_cases hj : j < 5
    · rw [nml_get _ hj, nml_get _ hj]
      simp; omega
    · simp [nmL, hj]
theorem nml_snoc_out (gs : List Int) {x : Int} (hx : genB x = false) : nmL (gs ++ [x]) = nmL gs := by
  apply List.ext_getElem?
  intro j
  by_cases hj : j < 5
  · rw [nml_get _ hj, nml_get _ hj]
    simp [genB] at hx
    simp
    omega
  · simp [nmL, hj]
/-- Numbers that are handed in. -/
def Gens (w : World) (gs : List Int) (A : Option Addr) : Prop := (gs = [] ∨ ∃ gb, A = some ⟨gb, 0, none⟩ ∧ gb < w.heap.size ∧ ∀ j x, gs[j]? = some x → w.cell? ⟨gb, j, none⟩ = some (.int .i64 x))
theorem Gens.below {w w' : World} {gs : List Int} {A : Option Addr} (h : Gens w gs A) (hb : Below w.heap.size w w') : Gens w' gs A := by
  rcases h with h | ⟨gb, e, hl, h⟩
  · exact Or.inl h
  · exact Or.inr ⟨gb, e, Nat.lt_of_lt_of_le hl hb.size, fun j x hx => (hb.cell (p := ⟨gb, j, none⟩) hl).trans (h j x hx)⟩
structure AInv (w : World) (gs : List Int) (A : Option Addr) (n c j : Nat) (wr : World) : Prop where
  g : wr.heap[w.heap.size]? = some (.cells #[.slice A n c] 43 (0, 0))
  nm : wr.heap[w.heap.size + 1]? = some (.cells (nmL (gs.take j)).toArray 86 (0, 0))
  below : Below w.heap.size w wr
theorem AInv.store {w wr : World} {gs : List Int} {A : Option Addr} {n c j k : Nat} (h : AInv w gs A n c j wr) (hx : gs[j]? = some (k : Int)) (hk : k < 5) : AInv w gs A n c (j + 1) (wr.setCell ⟨w.heap.size + 1, k, none⟩ (.bool true)) := by
  refine ⟨?_, ?_, h.below.setCell (by simp) _⟩
  · rw [heap_setCell_other _ _ _ _ (by simp)]; exact h.g
  · rw [heap_setCell_same _ _ _ _ _ _ h.nm, List.take_add_one, hx]
    have := nml_snoc_in (gs.take j) hk
    simp only [Option.toList]
    rw [← this]
    simp
theorem AInv.skip {w wr : World} {gs : List Int} {A : Option Addr} {n c j : Nat} {x : Int} (h : AInv w gs A n c j wr) (hx : gs[j]? = some x) (hg : genB x = false) : AInv w gs A n c (j + 1) wr := by
  refine ⟨h.g, ?_, h.below⟩
  rw [List.take_add_one, hx]
  have := nml_snoc_out (gs.take j) hg
  simp only [Option.toList]
  rw [this]
  exact h.nm
def Picks (w : World) (gs : List Int) (A : Option Addr) (n c : Nat) (w' : World) (e : Ending) : Prop := e = .returned (.func (.func 44) #[] #[.pointer (some ⟨w.heap.size, 0, none⟩), .pointer (some ⟨w.heap.size + 1, 0, none⟩)]) ∧ AInv w gs A n c gs.length w'
set_option maxHeartbeats 1600000 in
theorem among_any (gs : List Int) (A : Option Addr) (c : Nat) (w : World) (h : Gens w gs A) (hn : gs.length ≤ 1000000) :
    Calls Try.prog 40 #[.slice A gs.length c] w fun e w' => Picks w gs A gs.length c w' e := by
  have HI : Hid (AInv w gs A gs.length c 0 ((w.alloc (.cells #[.slice A gs.length c] 43)).alloc (.cells #[.bool false, .bool false, .bool false, .bool false, .bool false] 86))) := by
    refine Lib.hid ⟨?_, ?_, ((Below.refl _ _).alloc (Nat.le_refl _) _).alloc (by simp) _⟩
    · rw [heap_alloc2_old]
    · rw [heap_alloc2_new]; rfl
  have HG := Lib.hid h
  obtain ⟨n, hgn⟩ : ∃ n, n = gs.length := ⟨_, rfl⟩
  rw [← hgn] at HI ⊢
  rw [← hgn] at hn
  have HN := Lib.hid hgn
  clear h hgn
  go_enter Try.func40, Try.ntmps40
  go_wp2
  generalize (w.alloc (.cells #[.slice A n c] 43)).alloc (.cells #[.bool false, .bool false, .bool false, .bool false, .bool false] 86) = W at HI ⊢
  go_loopw [8] (fun i wr => ∃ j : Nat, j ≤ n ∧ i = .int .i64 j ∧ Hid (AInv w gs A n c j wr)) (fun i _ => n - (intOf i).toNat)
  case atStart => exact ⟨0, by omega, rfl, HI⟩
  case round =>
    obtain ⟨j, hj, rfl, hI⟩ := hrel
    obtain ⟨V, hV⟩ : ∃ V, V = wr := ⟨_, rfl⟩
    rw [← hV] at hI ⊢
    clear hV
    by_cases hlt : j < n
    · have hjl : j < gs.length := by have := HN.out; omega
      obtain ⟨x, hx⟩ : ∃ x, gs[j]? = some x := ⟨_, List.getElem?_eq_getElem hjl⟩
      rcases HG.out with h0 | ⟨ga, rfl, hga, hc⟩
      · rw [h0] at hjl; simp at hjl
      have hcx : V.cell? ⟨ga, j, none⟩ = some (.int .i64 x) := (hI.out.below.cell (p := ⟨ga, j, none⟩) hga).trans (hc j x hx)
      clear hc
      have hlV : w.heap.size + 1 < V.heap.size := lt_of_block hI.out.nm
      by_cases hg : genB x = true
      · have hb : 0 ≤ x ∧ x ≤ 4 := by simpa [genB] using hg
        obtain ⟨k, rfl⟩ : ∃ k : Nat, x = (k : Int) := ⟨x.toNat, by omega⟩
        have hk : k < 5 := by omega
        have H : Hid (Calls Try.prog 28 #[.int .i64 k] V fun e w' => e = .returned (.bool true) ∧ V = w') := by
          have := isgen_any (k : Int) V
          rw [hg] at this
          exact Lib.hid this
        have hcn : V.cell? ⟨w.heap.size + 1, k, none⟩ = some (.bool ((gs.take j).contains (k : Int))) := by
          rw [cell_of_row _ _ _ _ _ _ hI.out.nm]
          simpa using nml_get (gs.take j) hk
        have hfn : V.frozen? ⟨w.heap.size + 1, k, none⟩ = false := frozen_of_row _ _ _ _ _ hI.out.nm
        have HS := Lib.hid (hI.out.store hx hk)
        clear hg hb hx
        go_wp2_with (go_at_call 28; refine H.out.mono ?_; rintro e w' ⟨rfl, rfl⟩)
        go_roundw
        case rel => exact ⟨j + 1, by omega, by go_num, HS⟩
        case measure => simp [intOf]; omega
      · have hg' : genB x = false := by simpa using hg
        have H : Hid (Calls Try.prog 28 #[.int .i64 x] V fun e w' => e = .returned (.bool false) ∧ V = w') := by
          have := isgen_any x V
          rw [hg'] at this
          exact Lib.hid this
        have HS := Lib.hid (hI.out.skip hx hg')
        clear hg hg' hx
        go_wp2_with (go_at_call 28; refine H.out.mono ?_; rintro e w' ⟨rfl, rfl⟩)
        go_roundw
        case rel => exact ⟨j + 1, by omega, by go_num, HS⟩
        case measure => simp [intOf]; omega
    · obtain rfl : j = n := by omega
      go_wp2
      go_ret
      exact ⟨rfl, HN.out ▸ hI.out⟩
end Go.Proofs.Ytmhbbhlmiinobaa
