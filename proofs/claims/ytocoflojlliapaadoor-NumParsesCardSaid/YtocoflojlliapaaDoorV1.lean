/- The document's number of a text. -/
import Derived.Test.YtocoflojlliapaaDoorU2
import Derived.Deep.DeepCutAuto
set_option linter.unusedVariables false
namespace Go.Proofs.YtocoflojlliapaaDoor
open Go.RowKit
theorem head_at (s : ByteArray) (h : 0 < s.size) : s.data.toList.head? = some (s[0]) := by
  rw [Lib.size_eq] at h
  rw [List.head?_eq_getElem?, List.getElem?_eq_getElem h]
  rfl
theorem drop_at (s : ByteArray) (k : Nat) (h : k < s.size) : s.data.toList.drop k = s[k] :: s.data.toList.drop (k + 1) := by
  rw [Lib.size_eq] at h
  rw [List.drop_eq_getElem_cons h]
  rfl
theorem take_at (s : ByteArray) (a k : Nat) (h : k < s.size) (ha : a ≤ k) : (s.data.toList.drop a).take (k + 1 - a) = (s.data.toList.drop a).take (k - a) ++ [s[k]] := by
  have hl : k - a < (s.data.toList.drop a).length := by rw [List.length_drop, ← Lib.size_eq]; omega
  rw [show k + 1 - a = (k - a) + 1 by omega, List.take_succ_eq_append_getElem hl]
  congr 2
  rw [List.getElem_drop]
  have : a + (k - a) = k := by omega
  simp only [this]
  rfl
theorem decVal_take (l : List UInt8) (k : Nat) : decVal (l.take k) ≤ decVal l := by
  have h := decVal_append (l.take k) (l.drop k)
  rw [List.take_append_drop] at h
  rw [h]
  have : 1 ≤ 10 ^ (l.drop k).length := Nat.pow_pos (by decide)
  have := Nat.mul_le_mul_left (decVal (l.take k)) this
  omega
/-- where the digits begin -/
def Begins (s : ByteArray) (a : Nat) : Prop := (∃ h : 0 < s.size, a = 1 ∧ (s[0]).toNat = 45) ∨ (∃ h : 0 < s.size, a = 1 ∧ (s[0]).toNat = 43) ∨ (∃ h : 0 < s.size, a = 0 ∧ (((s[0]).toNat : Int) == 45) = false ∧ (((s[0]).toNat : Int) == 43) = false)
theorem Begins.le {s : ByteArray} {a : Nat} (h : Begins s a) : a ≤ s.size ∧ 0 < s.size ∧ a ≤ 1 := by
  rcases h with ⟨h, rfl, _⟩ | ⟨h, rfl, _⟩ | ⟨h, rfl, _⟩ <;> omega
set_option maxHeartbeats 3200000 in
set_option maxRecDepth 100000 in
theorem refparse_form (s : ByteArray) (a : Nat) (w : World) (hs : s.size ≤ 1000) (hb : Hid (Begins s a)) (hd : Hid (¬ (s.data.toList.drop a ≠ [] ∧ isDig (s.data.toList.drop a)))) :
    Calls Tryd.prog 49 #[.string s] w fun e w' => e = .returned (.tuple #[.agg #[.bool false, .slice none 0 0], .int .i64 9]) ∧ Below w.heap.size w w' := by
  obtain ⟨W, hW⟩ : ∃ W, W = w.alloc (.cells #[.bool false, .slice none 0 0] 30) := ⟨_, rfl⟩
  have hbW : Below w.heap.size w W := by rw [hW]; exact below_al (Below.refl _ _) _
  have t1 : Two W w.heap.size 30 (.bool false) (.slice none 0 0) := by rw [hW]; exact Two.made w 30 _ _
  have hal := hb.out.le.1
  have hpos := hb.out.le.2.1
  have ha1 := hb.out.le.2.2
  have k1 := t1.fst
  have k2 := t1.snd
  have k3 := t1.free 0
  have k4 := t1.free 1
  have RF : Two ((W.setCell ⟨w.heap.size, 0, none⟩ (.bool false)).setCell ⟨w.heap.size, 1, none⟩ (.slice none 0 0)) w.heap.size 30 (.bool false) (.slice none 0 0) := t1.set2
  have f0 := Lib.hid RF.fst
  have f1 := Lib.hid RF.snd
  have bb := Lib.hid (below_two (g := w.heap.size) (a := .bool false) (b := .slice none 0 0) hbW (Nat.le_refl _))
  have HK : Hid (∀ (_ : ∀ (j : Nat) (h : j < s.size), a ≤ j → dg1 (s[j])), s.size = a) := Lib.hid (fun hall => by
    rcases Nat.lt_or_ge a s.size with hlt | hge
    · exfalso
      refine hd.out ⟨?_, ?_⟩
      · rw [drop_at s a hlt]; simp
      · intro c hc
        obtain ⟨j, hj, rfl⟩ := List.getElem_of_mem hc
        rw [List.length_drop, ← Lib.size_eq] at hj
        have := hall (a + j) (by omega) (by omega)
        unfold dg1 at this
        rw [List.getElem_drop]
        exact this
    · omega)
  rcases hb.out with ⟨h, ha, h0⟩ | ⟨h, ha, h0⟩ | ⟨h, ha, h0, h1⟩
  all_goals
    have HA := Lib.hid ha
    clear ha
    go_enter Tryd.func49, Tryd.ntmps49
    go_wp2_with fail
    rw [← hW]
    have HW := Lib.hid hW
    try have KK1 := Lib.hid h0
    try have KK2 := Lib.hid h1
    clear hW RF
    try clear h0
    try clear h1
    go_loop [5] (fun i => ∃ k : Nat, a ≤ k ∧ k ≤ s.size ∧ i = .int .i64 k ∧ Hid (∀ (j : Nat) (h : j < s.size), a ≤ j → j < k → dg1 (s[j]))) (fun i => s.size - (intOf i).toNat)
    case atStart => exact ⟨a, Nat.le_refl _, hal, by rw [HA.out]; rfl, Lib.hid (fun j _ h1 h2 => absurd h2 (by omega))⟩
    case round =>
      obtain ⟨k, hak, hk, rfl, hF⟩ := hrel
      by_cases hlt : k < s.size
      · by_cases hg : dg1 (s[k])
        · have h2 := hg.1
          have h3 := hg.2
          have HF : Hid (∀ (j : Nat) (h : j < s.size), a ≤ j → j < k + 1 → dg1 (s[j])) := Lib.hid (fun j h hj1 hj => by
            by_cases e : j = k
            · subst e
              exact hg
            · exact hF.out j h hj1 (by omega))
          clear hg
          go_wp2
          all_goals
            go_round
            case rel => exact ⟨k + 1, by omega, by omega, by go_num, HF⟩
            case measure => simp [intOf]; omega
        · have HG := Lib.hid hg
          clear hg
          by_cases h48 : 48 ≤ (s[k]).toNat
          · have h57 : 57 < (s[k]).toNat := by
              have := HG.out
              unfold dg1 at this
              omega
            go_wp2
            refine bodyPost_ret (v := .tuple #[.agg #[.bool false, .slice none 0 0], .int .i64 9]) (by simp [results, Tryd.results49, go_sem, f0.out, f1.out]) rfl ⟨rfl, bb.out⟩
          · have h48' : (s[k]).toNat < 48 := by omega
            clear h48
            go_wp2
            refine bodyPost_ret (v := .tuple #[.agg #[.bool false, .slice none 0 0], .int .i64 9]) (by simp [results, Tryd.results49, go_sem, f0.out, f1.out]) rfl ⟨rfl, bb.out⟩
      · have hz : Hid (s.size = a) := Lib.hid (HK.out (fun j h h1 => hF.out j h h1 (by omega)))
        have e9 : ((1 : Int) == (s.size : Int)) = true := by
          have h1 := hz.out
          have h2 := HA.out
          rw [beq_iff_eq]
          omega
        by_cases hA0 : a = 0
        · exfalso
          have := hz.out
          omega
        · have HA0 := Lib.hid hA0
          clear hA0
          first
            | (exfalso; have h1 := HA.out; have h2 := HA0.out; omega)
            | (go_wp2
               refine bodyPost_ret (v := .tuple #[.agg #[.bool false, .slice none 0 0], .int .i64 9]) (by simp [results, Tryd.results49, go_sem, f0.out, f1.out]) rfl ⟨rfl, bb.out⟩)
end Go.Proofs.YtocoflojlliapaaDoor
