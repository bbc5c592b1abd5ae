/- seg.Give. -/
import Derived.Test.YtmhbbhlmiinobaaG
set_option linter.unusedVariables false
set_option linter.unusedSimpArgs false
namespace Go.Proofs.Ytmhbbhlmiinobaa
open Go Go.RowKit
set_option maxHeartbeats 800000
theorem give_none {w : World} {own : Nat → Prop} {mb : Nat} {m : M} (h : MemAt w own mb m) {i : Int} (hi : ∀ (j : Nat) s, i = (j : Int) → ¬ Has m j s) :
    Calls Try.prog 15 #[.pointer (some ⟨mb, 0, none⟩), .int .i64 i] w fun e w' => e = .returned (.int .i64 19) ∧ Below w.heap.size w w' := by
  obtain ⟨hk, sb, cp, v, h⟩ := h
  have H := Lib.hid (fun (V : World) (hb : Below w.heap.size w V) => find_no (h.kept (Keep.any hb)) hk hi)
  clear hi
  go_enter Try.func15, Try.ntmps15
  go_wp2_with (go_at_call 31; refine (H.out _ (by exact (Below.refl _ _).alloc (Nat.le_refl _) _)).mono ?_; rintro e w' ⟨rfl, rfl⟩)
  go_ret
  exact ⟨rfl, (Below.refl _ _).alloc (Nat.le_refl _) _⟩
theorem give_nil {w : World} {i : Int} :
    Calls Try.prog 15 #[.pointer none, .int .i64 i] w fun e w' => e = .returned (.int .i64 19) ∧ Below w.heap.size w w' := by
  have H := Lib.hid (fun (V : World) => find_nil i V)
  go_enter Try.func15, Try.ntmps15
  go_wp2_with (go_at_call 31; refine (H.out _).mono ?_; rintro e w' ⟨rfl, rfl⟩)
  go_ret
  exact ⟨rfl, (Below.refl _ _).alloc (Nat.le_refl _) _⟩
def Sg.off (s : Sg) : Sg := { s with t := false }
def M.given (m : M) (i : Nat) (s : Sg) : M := ⟨m.S.set i s.off, m.o.erase i, min m.l i⟩
theorem off_ok {s : Sg} (h : s.Ok) : s.off.Ok := ⟨h.c, h.ws, h.n, h.g, h.k, h.z⟩
theorem MemIs.swap {X X2 : World} {own : Nat → Prop} {mb sb cp b n c n' : Nat} {m : M} {o' : List Nat} (h : MemIs X own mb sb cp (.slice (some ⟨b, 0, none⟩) n c) m) (hk : Keep (fun k => k ≠ b) X X2) (hn : o'.length = n')
    (ho : X2.ownsRow 0 3 1 (.slice (some ⟨b, 0, none⟩) n' c) n' (ints o')) : MemIs (X2.setCell ⟨mb, 1, none⟩ (.slice (some ⟨b, 0, none⟩) n' c)) own mb sb cp (.slice (some ⟨b, 0, none⟩) n' c) { m with o := o' } := by
  have e2 : mb ≠ b := fun e => h.d2 (by simp [Value.ownBlock, e])
  have e3 : sb ≠ b := fun e => h.d3 (by simp [Value.ownBlock, e])
  refine ⟨?_, ownsRow_setCell_other (hk.own h.hs (fun k e => by cases e; exact e3)) (by simpa [Value.ownBlock] using fun e => h.d1 e.symm) _, ownsRow_setCell_other (by rw [hn]; exact ho) (by simpa [Value.ownBlock] using fun e => e2 e.symm) _, h.d1, by simpa [Value.ownBlock] using fun e => e2 e.symm, by simpa [Value.ownBlock] using fun e => e3 e.symm, h.w1, h.w2, fun k e => h.w3 k (by simpa [Value.ownBlock] using e)⟩
  rw [heap_setCell_same X2 mb 1 _ _ _ (hk.heap e2 h.hm)]
  rfl
theorem given_ok {m : M} (h : m.Ok) {i : Nat} {s : Sg} (hi : Has m i s) : (m.given i s).Ok := by
  have hl := get_lt hi.1
  refine ⟨by simpa [M.given] using h.lo, by simpa [M.given] using h.hi, h.all.set (off_ok (h.all.get hi.1)), by have := h.l; simp [M.given]; omega, ?_, h.nd.erase _, ?_, ?_⟩
  · intro j x hj hx
    simp only [M.given] at hj hx
    rw [List.getElem?_set_ne (by omega)] at hx
    exact h.tk j x (by omega) hx
  · intro j
    simp only [M.given, h.nd.mem_erase_iff, h.mem j]
    constructor
    · rintro ⟨hn, y, hy, e⟩
      exact ⟨y, by rw [List.getElem?_set_ne (fun e => hn e.symm)]; exact hy, e⟩
    · rintro ⟨y, hy, e⟩
      by_cases hij : i = j
      · subst hij
        rw [List.getElem?_set_self hl] at hy
        cases hy
        cases e
      · rw [List.getElem?_set_ne hij] at hy
        exact ⟨fun e => hij e.symm, y, hy, e⟩
  · have := cntT_set (s' := s.off) hi.1
    have h1 := h.cnt
    have hm : i ∈ m.o := (h.mem i).2 ⟨s, hi⟩
    have h2 : 0 < m.o.length := List.length_pos_of_mem hm
    simp only [M.given, List.length_erase_of_mem hm]
    rw [hi.2] at this
    simp [Sg.off] at this ⊢
    omega
set_option maxHeartbeats 1600000 in
theorem give_yes {w : World} {own : Nat → Prop} {mb : Nat} {m : M} (h : MemAt w own mb m) {i : Nat} {s : Sg} (hi : Has m i s) :
    Calls Try.prog 15 #[.pointer (some ⟨mb, 0, none⟩), .int .i64 i] w fun e w' => e = .returned (.int .i64 0) ∧ Now own mb (m.given i s) w w' := by
  obtain ⟨hk, sb, cp, v, h⟩ := h
  have hmem : i ∈ m.o := (hk.mem i).2 ⟨s, hi⟩
  have hnil : m.o ≠ [] := List.ne_nil_of_mem hmem
  obtain ⟨b, c, rfl⟩ : ∃ b c, v = .slice (some ⟨b, 0, none⟩) m.o.length c := by
    rcases h.ho.2 with ⟨_, h0⟩ | ⟨g, cap, cur, e, _⟩
    · exact absurd (List.eq_nil_of_length_eq_zero h0) hnil
    · exact ⟨g, cap, e⟩
  have hbl : b < w.heap.size := (h.ho.lt b rfl).2
  obtain ⟨W, hW⟩ : ∃ W, W = w.alloc (.cells #[.int .i64 i] 3) := ⟨_, rfl⟩
  have hb : Below w.heap.size w W := by rw [hW]; exact (Below.refl _ _).alloc (Nat.le_refl _) _
  have cP : W.cell? ⟨w.heap.size, 0, none⟩ = some (.int .i64 i) := by rw [hW, cell_of_row _ _ 0 _ _ _ (heap_alloc_new w _)]; rfl
  have h1 := h.kept (Keep.any hb)
  have hl := h1.lt
  have hl0 := h.lt
  have H := Lib.hid (find_yes h1 hk hi)
  have c7 := h1.seg7 hk hi.1
  have f7 := h1.sfree (i * 72 + 7)
  have hput := h1.put hk hi.1 (j := 7) (s' := s.off) (by omega) (Sg.setT (hk.all.get hi.1) false)
  have hkp : Keep (fun k => ¬ own k) w (W.setCell ⟨sb, i * 72 + 7, none⟩ (.bool false)) := (Keep.any hb).setCell _ (Or.inl (by simpa using h.w2))
  have cP2 : (W.setCell ⟨sb, i * 72 + 7, none⟩ (.bool false)).cell? ⟨w.heap.size, 0, none⟩ = some (.int .i64 i) := by
    rw [World.cell?_setCell_far _ _ _ _ (by simp; omega)]; exact cP
  have HW := Lib.hid hW
  have hol : m.o.length ≤ 1024 := by have h1 := cntT_le m.S; have h2 := hk.cnt; have h3 := hk.hi; omega
  have hp : m.o.idxOf i < m.o.length := List.idxOf_lt_length_of_mem hmem
  have hget : m.o[m.o.idxOf i]? = some i := by rw [List.getElem?_eq_getElem hp, List.getElem_idxOf hp]
  have hne : ∀ (j x : Nat), j ≠ m.o.idxOf i → m.o[j]? = some x → (x : Int) ≠ (i : Int) := by
    intro j x hj hx e
    have e' : x = i := by omega
    subst e'
    exact hj ((List.getElem?_inj (List.getElem?_eq_some_iff.1 hx).1 hk.nd).1 (hx.trans hget.symm))
  have HD := Lib.hid (delete_at b c w.heap.size (m.o.idxOf i) i m.o (W.setCell ⟨sb, i * 72 + 7, none⟩ (.bool false)) hput.ho cP2 (by omega) hol hp
    (Lib.hid (fun j x hj hx => hne j x (by omega) hx)) (Lib.hid (fun x hx => by rw [hget] at hx; cases hx; rfl)) (Lib.hid (fun j x hj hx => hne j x (by omega) hx)))
  have c1 := h1.cell1
  have HPUT := Lib.hid hput
  have HK := Lib.hid hkp
  have HER : Hid (m.o.eraseIdx (m.o.idxOf i) = m.o.erase i) := Lib.hid (by rw [List.erase_eq_eraseIdx_of_idxOf rfl])
  have HLE : Hid ((m.o.erase i).length = m.o.length - 1) := Lib.hid (List.length_erase_of_mem hmem)
  have hml := hk.l
  have hll := hk.hi
  have hil := get_lt hi.1
  clear hW hput hkp hne hget
  go_enter Try.func15, Try.ntmps15
  go_wp2_with fail
  rw [show w.alloc (.cells #[.int .i64 i] 3) = W from HW.out.symm]
  go_at_call 31
  refine H.out.mono ?_
  rintro e w' ⟨rfl, rfl⟩
  go_wp2_with fail
  go_at_call 32
  refine HD.out.mono ?_
  rintro e X2 ⟨rfl, hrow, hkx⟩
  rw [HER.out] at hrow
  have hsw := HPUT.out.swap (o' := m.o.erase i) hkx HLE.out hrow
  have hbm : mb ≠ b := fun e => h.d2 (by simp [Value.ownBlock, e])
  have hk0 := HPUT.out
  have d1 : X2.cell? ⟨mb, 1, none⟩ = some (.slice (some ⟨b, 0, none⟩) m.o.length c) := hkx.cell (p := ⟨mb, 1, none⟩) hbm hk0.cell1
  have d2 : X2.cell? ⟨mb, 2, none⟩ = some (.int .i64 m.l) := hkx.cell (p := ⟨mb, 2, none⟩) hbm hk0.cell2
  have g1 : X2.frozen? ⟨mb, 1, none⟩ = false := (hkx.frozen (p := ⟨mb, 1, none⟩) hbm hk0.lt.1).trans (hk0.free 1)
  have g2 : X2.frozen? ⟨mb, 2, none⟩ = false := (hkx.frozen (p := ⟨mb, 2, none⟩) hbm hk0.lt.1).trans (hk0.free 2)
  have dP : X2.cell? ⟨w.heap.size, 0, none⟩ = some (.int .i64 i) := hkx.cell (p := ⟨w.heap.size, 0, none⟩) (by simp; omega) cP2
  have hkk : Keep (fun k => ¬ own k) w X2 := HK.out.trans (hkx.mono (fun k _ hn e => hn (by rw [e]; exact h.w3 b rfl)))
  have HSW := Lib.hid hsw
  have HKK := Lib.hid hkk
  clear hrow hkx hsw hk0 hkk
  have dP2 : (X2.setCell ⟨mb, 1, none⟩ (.slice (some ⟨b, 0, none⟩) (m.o.length - 1) c)).cell? ⟨w.heap.size, 0, none⟩ = some (.int .i64 i) := by
    rw [World.cell?_setCell_far _ _ _ _ (by simp; omega)]; exact dP
  have hky : Keep (fun k => ¬ own k) w (X2.setCell ⟨mb, 1, none⟩ (.slice (some ⟨b, 0, none⟩) (m.o.length - 1) c)) := HKK.out.setCell _ (Or.inl (by simpa using h.w1))
  have HKY := Lib.hid hky
  clear hky
  go_wp2_with fail
  generalize X2.setCell ⟨mb, 1, none⟩ (.slice (some ⟨b, 0, none⟩) (m.o.length - 1) c) = Y at HSW HKY dP2 ⊢
  clear d1 d2 g1 g2 dP HKK
  have d2 := HSW.out.cell2
  have g2 := HSW.out.free 2
  have fin : ∀ l : Nat, l = min m.l i → Now own mb (m.given i s) w (Y.setCell ⟨mb, 2, none⟩ (.int .i64 l)).drew := by
    intro l hlm
    have hlow := HSW.out.low l
    refine ⟨⟨given_ok hk hi, sb, cp, .slice (some ⟨b, 0, none⟩) (m.o.length - 1) c, ?_⟩, (HKY.out.setCell (p := ⟨mb, 2, none⟩) (.int .i64 l) (Or.inl (by simpa using h.w1))).drew⟩
    have := hlow.kept ((Keep.refl own (Y.setCell ⟨mb, 2, none⟩ (.int .i64 l))).drew)
    rw [hlm] at this ⊢
    exact this
  have FIN := Lib.hid fin
  clear fin
  by_cases hlt : i < m.l
  · go_region
    go_wp2
    go_ret
    exact ⟨rfl, FIN.out i (by omega)⟩
  · have hge : m.l ≤ i := by omega
    go_region
    go_wp2
    go_ret
    exact ⟨rfl, FIN.out m.l (by omega)⟩
end Go.Proofs.Ytmhbbhlmiinobaa
