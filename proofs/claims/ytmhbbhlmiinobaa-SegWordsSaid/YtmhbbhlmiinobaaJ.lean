/- seg.Taken. -/
import Derived.Test.YtmhbbhlmiinobaaI
set_option linter.unusedVariables false
set_option linter.unusedSimpArgs false
namespace Go.Proofs.Ytmhbbhlmiinobaa
open Go Go.RowKit
set_option maxHeartbeats 800000
def genL (gs : List Int) (g : Int) : Bool := gs.isEmpty || gs.contains g
theorem pick_any {w V : World} {gs : List Int} {A : Option Addr} {n c : Nat} {g : Int} (h : AInv w gs A n c gs.length V) (hn : n = gs.length) (h0 : 0 ≤ g) (h4 : g ≤ 4) (hl : n ≤ 1000000) :
    Calls Try.prog 44 #[.int .i64 g, .pointer (some ⟨w.heap.size, 0, none⟩), .pointer (some ⟨w.heap.size + 1, 0, none⟩)] V fun e w' => e = .returned (.bool (genL gs g)) ∧ V = w' := by
  obtain ⟨k, rfl⟩ : ∃ k : Nat, g = (k : Int) := ⟨g.toNat, by omega⟩
  have hk : k < 5 := by omega
  have hc1 : V.cell? ⟨w.heap.size, 0, none⟩ = some (.slice A n c) := by rw [cell_of_row _ _ _ _ _ _ h.g]; rfl
  have hc2 : V.cell? ⟨w.heap.size + 1, k, none⟩ = some (.bool (gs.contains (k : Int))) := by
    have := h.nm
    rw [List.take_length] at this
    rw [cell_of_row _ _ _ _ _ _ this]
    simpa using nml_get gs hk
  by_cases hz : n = 0
  · have hg : gs = [] := List.eq_nil_of_length_eq_zero (by omega)
    have e1 : Hid (genL gs (k : Int) = true) := Lib.hid (by rw [hg]; rfl)
    clear hn hg
    subst hz
    go_enter Try.func44, Try.ntmps44
    go_wp2
    go_ret
    exact ⟨by rw [e1.out]; rfl, rfl⟩
  · have hg : gs.isEmpty = false := by
      cases gs with
      | nil => simp at hn; omega
      | cons a r => rfl
    have e1 : Hid (genL gs (k : Int) = gs.contains (k : Int)) := Lib.hid (by unfold genL; rw [hg]; rfl)
    have hb : ((n : Int) == 0) = false := beq_eq_false_iff_ne.2 (by omega)
    clear hn hg hz
    generalize gs.contains (k : Int) = B at e1 hc2
    go_enter Try.func44, Try.ntmps44
    go_wp2
    go_ret
    exact ⟨by rw [e1.out]; rfl, rfl⟩
def genOf (m : M) (i : Nat) : Int := match m.S[i]? with | some s => s.g | none => 0
def M.pick (m : M) (gs : List Int) (l : List Nat) : List Nat := l.filter fun i => genL gs (genOf m i)
structure TInv (w : World) (m : M) (gs : List Int) (A : Option Addr) (n c j : Nat) (v : Value) (wr : World) : Prop where
  a : AInv w gs A n c gs.length wr
  row : wr.ownsRow (w.heap.size + 2) 3 1 v (m.pick gs (m.o.take j)).length (ints (m.pick gs (m.o.take j)))
def TSaid (w : World) (xs : List Nat) (w' : World) (e : Ending) : Prop := ∃ v, e = .returned v ∧ w'.ownsRow w.heap.size 3 1 v xs.length (ints xs) ∧ Below w.heap.size w w'
set_option maxHeartbeats 1600000 in
theorem taken_any {w : World} {own : Nat → Prop} {mb : Nat} {m : M} (h : MemAt w own mb m) (gs : List Int) (A : Option Addr) (c : Nat) (hgs : Gens w gs A) (hn : gs.length ≤ 1000000) :
    Calls Try.prog 21 #[.pointer (some ⟨mb, 0, none⟩), .slice A gs.length c] w fun e w' => TSaid w (m.pick gs m.o) w' e := by
  obtain ⟨hk, sb, cp, v, h⟩ := h
  have HA := Lib.hid (among_any gs A c w hgs hn)
  obtain ⟨i0, hi, hz0, hz1, hz2⟩ := info_parts Try.info3
  have H0 := Lib.hid h
  have c1 := h.cell1
  have hol := hk.olen
  have hhi := hk.hi
  obtain ⟨oA, oc, rfl⟩ := own_slice h.ho
  obtain ⟨n, hgn⟩ : ∃ n, n = gs.length := ⟨_, rfl⟩
  rw [← hgn] at HA ⊢
  have HN := Lib.hid hgn
  rw [← hgn] at hn
  clear hgn hgs
  go_enter Try.func21, Try.ntmps21
  go_wp2_with fail
  go_at_call 40
  refine HA.out.mono ?_
  rintro e W ⟨rfl, hA⟩
  have d1 := (h.kept (Keep.any hA.below)).cell1
  have HI : Hid (TInv w m gs A n c 0 (.slice none 0 0) W) := Lib.hid ⟨hA, by simpa [M.pick, ints] using World.ownsRow_nil W _ _ _⟩
  clear c1 h hA
  go_wp2_with fail
  go_loopw [6, 18] (fun lv iv wr => ∃ j : Nat, j ≤ m.o.length ∧ iv = .int .i64 j ∧ Hid (TInv w m gs A n c j lv wr)) (fun _ iv _ => m.o.length - (intOf iv).toNat)
  case atStart => exact ⟨0, by omega, rfl, HI⟩
  case round =>
    obtain ⟨j, hj, rfl, hI⟩ := hrel
    obtain ⟨V, hV⟩ : ∃ V, V = wr := ⟨_, rfl⟩
    rw [← hV] at hI ⊢
    clear hV
    by_cases hlt : j < m.o.length
    · obtain ⟨x, hx⟩ : ∃ x, m.o[j]? = some x := ⟨_, List.getElem?_eq_getElem hlt⟩
      have hb := hI.out.a.below
      have hV := H0.out.kept (Keep.any hb)
      obtain ⟨b, rfl⟩ : ∃ b, oA = some ⟨b, 0, none⟩ := by
        rcases hV.ho.2 with ⟨e, h0⟩ | ⟨g, cap, cur, e, _⟩
        · omega
        · injection e with e1 e2 e3; exact ⟨g, e1⟩
      have e0 : V.cell? ⟨b, j, none⟩ = some (.int .i64 x) := by rw [hV.ho.cellAt j (by omega)]; exact ints_get hx
      obtain ⟨s, hs, ht⟩ := (hk.mem x).1 (List.mem_of_getElem? hx)
      have e1 := hV.cell0
      have e2 := hV.seg (j := 0) hk hs (by omega) (Sg.at0 s)
      rw [Nat.add_zero] at e2
      have hxl := get_lt hs
      have hg := (hk.all.get hs).g
      have hlV : w.heap.size + 1 < V.heap.size := lt_of_block hI.out.a.nm
      have HC := Lib.hid (pick_any hI.out.a HN.out hg.1 hg.2 hn)
      have hgo : genOf m x = s.g := by simp [genOf, hs]
      obtain ⟨lA, lc, rfl⟩ := own_slice hI.out.row
      by_cases hp : genL gs s.g = true
      · rw [hp] at HC
        have hpk : m.pick gs (m.o.take (j + 1)) = m.pick gs (m.o.take j) ++ [x] := by
          rw [List.take_add_one, hx]; simp [M.pick, hgo, hp]
        have hle : (m.pick gs (m.o.take j)).length ≤ 1024 := by
          have h1 : (m.pick gs (m.o.take j)).length ≤ (m.o.take j).length := List.length_filter_le _ _
          have h2 : (m.o.take j).length ≤ m.o.length := List.length_take_le' _ _
          omega
        have HPK := Lib.hid hpk
        have hown := hI.out.row
        generalize hK : (m.pick gs (m.o.take j)).length = K at hown hle
        have HKK := Lib.hid hK
        clear hx hs ht hg hgo hp hpk hV hK
        go_wp2_with (first | (go_at_call 44; refine HC.out.mono ?_; rintro e w' ⟨rfl, rfl⟩) | (at_builtin; refine wpList_append_own _ rfl _ _ 43 rfl (w.heap.size + 2) 3 i0 (.int .i64 0) 1 8 Try.under43 hi hz0 hz1 hz2 rfl (by decide) _ K _ rfl (hown.alloc _) ⟨V.heap.size, 0, none⟩ 1 1 [.int .i64 x] rfl rfl ?c1 ?c2 ?c3 ?c4 ?c5 ?_))
        case c1 =>
          intro j' u hj'
          match j' with
          | 0 => simp at hj'; subst hj'; rw [show (⟨V.heap.size, 0, none⟩ : Addr).add 0 = ⟨V.heap.size, 0, none⟩ from rfl, cell_of_row _ _ _ _ _ _ (heap_alloc_new V _)]; rfl
          | j' + 1 => simp at hj'
        case c2 => simp [Value.oneCell']
        case c3 => unfold maxLen; omega
        case c4 => omega
        case c5 => simp; omega
        intro v' w2 hown2 hgr2 _
        have hT : TInv w m gs A n c (j + 1) v' w2 := by
          have hob := hI.out.row.lt
          have hne : ∀ k, k ≤ w.heap.size + 1 → k < V.heap.size ∧ some k ≠ (Value.slice lA K lc).ownBlock := by
            intro k hk
            refine ⟨by omega, fun e => ?_⟩
            have := (hown.lt k e.symm).1
            omega
          refine ⟨⟨?_, ?_, ?_⟩, ?_⟩
          · rw [hgr2.block _ (by have := (hne w.heap.size (by omega)).1; simp; omega) (hne w.heap.size (by omega)).2, Below.heap_alloc _ _ _ ((hne w.heap.size (by omega)).1)]; exact hI.out.a.g
          · rw [hgr2.block _ (by have := (hne (w.heap.size + 1) (by omega)).1; simp; omega) (hne (w.heap.size + 1) (by omega)).2, Below.heap_alloc _ _ _ ((hne (w.heap.size + 1) (by omega)).1)]; exact hI.out.a.nm
          · exact (hI.out.a.below.alloc (by omega) _).grown hgr2 (by simp; omega) (fun k e => by have := (hown.lt k e).1; omega)
          · rw [HPK.out, ints_append, List.length_append, HKK.out]; exact hown2
        have HT := Lib.hid hT
        obtain ⟨vA', vc', rfl⟩ := own_slice hown2
        clear hT hown2 hgr2 hown
        go_wp2_with fail
        go_roundw
        case rel => exact ⟨j + 1, by omega, by go_num, HT⟩
        case measure => simp [intOf]; omega
      · have hp' : genL gs s.g = false := by simpa using hp
        rw [hp'] at HC
        have hpk : m.pick gs (m.o.take (j + 1)) = m.pick gs (m.o.take j) := by
          rw [List.take_add_one, hx]; simp [M.pick, hgo, hp']
        have HT : Hid (TInv w m gs A n c (j + 1) (.slice lA (m.pick gs (m.o.take j)).length lc) V) := Lib.hid ⟨hI.out.a, by rw [hpk]; exact hI.out.row⟩
        clear hx hs ht hg hgo hp hp' hpk hV
        go_wp2_with (go_at_call 44; refine HC.out.mono ?_; rintro e w' ⟨rfl, rfl⟩)
        go_roundw
        case rel => exact ⟨j + 1, by omega, by go_num, HT⟩
        case measure => simp [intOf]; omega
    · obtain rfl : j = m.o.length := by omega
      go_wp2
      go_ret
      have hr := hI.out.row
      rw [List.take_length] at hr
      exact ⟨_, rfl, ⟨hr.1, by
        rcases hr.2 with h | ⟨g, cap, cur, e, h1, h2⟩
        · exact Or.inl h
        · exact Or.inr ⟨g, cap, cur, e, by omega, h2⟩⟩, hI.out.a.below⟩
end Go.Proofs.Ytmhbbhlmiinobaa
