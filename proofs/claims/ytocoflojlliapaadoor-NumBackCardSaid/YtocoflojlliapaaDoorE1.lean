import Derived.Test.YtocoflojlliapaaDoorD5
import Derived.Test.YtocoflojlliapaaDoorC5
set_option linter.unusedVariables false
namespace Go.Proofs.YtocoflojlliapaaDoor
open Go.RowKit
theorem toList_full (s : ByteArray) (h : 0 < s.size) : s.toList.isEmpty = false := by
  rw [Lib.toList_data]
  have : s.data.toList.length = s.size := (Lib.size_eq s).symm
  cases hd : s.data.toList
  · rw [hd] at this
    simp at this
    omega
  · rfl
theorem toList_void (s : ByteArray) (h : s.size = 0) : s.toList.isEmpty = true := by
  rw [Lib.toList_data]
  have : s.data.toList.length = s.size := (Lib.size_eq s).symm
  rw [List.isEmpty_iff]
  exact List.length_eq_zero_iff.1 (by omega)
def dg1 (c : UInt8) : Prop := 48 ≤ c.toNat ∧ c.toNat ≤ 57
set_option maxHeartbeats 800000 in
theorem areDigits_yes (s : ByteArray) (w : World) (hs : s.size ≤ 1000000) (h0 : 0 < s.size) (hd : isDig s.data.toList) :
    Calls Tryd.prog 76 #[.string s] w fun e w' => e = .returned (.bool true) ∧ w = w' := by
  have HD := Lib.hid hd
  clear hd
  go_enter Tryd.func76, Tryd.ntmps76
  go_wp2
  go_loop [6] (fun i => ∃ k : Nat, k ≤ s.size ∧ i = .int .i64 k) (fun i => s.size - (intOf i).toNat)
  case atStart => exact ⟨0, Nat.zero_le _, rfl⟩
  case round =>
    obtain ⟨k, hk, rfl⟩ := hrel
    by_cases hlt : k < s.size
    · have h1 : 48 ≤ (s[k]).toNat ∧ (s[k]).toNat ≤ 57 := HD.out _ (by simp [ByteArray.getElem_eq_getElem_data])
      have h2 := h1.1
      have h3 := h1.2
      go_wp2
      all_goals
        go_round
        case rel => exact ⟨k + 1, by omega, by go_num⟩
        case measure => simp [intOf]; omega
    · go_wp2
      go_ret
      rw [toList_full s h0]
      exact ⟨rfl, rfl⟩
set_option maxHeartbeats 800000 in
theorem areDigits_no (s : ByteArray) (w : World) (hs : s.size ≤ 1000000) (hd : Hid (¬ (s.data.toList ≠ [] ∧ isDig s.data.toList))) :
    Calls Tryd.prog 76 #[.string s] w fun e w' => e = .returned (.bool false) ∧ w = w' := by
  go_enter Tryd.func76, Tryd.ntmps76
  go_wp2
  go_loop [6] (fun i => ∃ k : Nat, k ≤ s.size ∧ i = .int .i64 k ∧ Hid (∀ (j : Nat) (h : j < s.size), j < k → dg1 (s[j]))) (fun i => s.size - (intOf i).toNat)
  case atStart => exact ⟨0, Nat.zero_le _, rfl, Lib.hid (fun j _ h => absurd h (by omega))⟩
  case round =>
    obtain ⟨k, hk, rfl, hF⟩ := hrel
    by_cases hlt : k < s.size
    · by_cases hg : dg1 (s[k])
      · have h2 := hg.1
        have h3 := hg.2
        have HF : Hid (∀ (j : Nat) (h : j < s.size), j < k + 1 → dg1 (s[j])) := Lib.hid (fun j h hj => by
          by_cases e : j = k
          · subst e
            exact hg
          · exact hF.out j h (by omega))
        clear hg
        go_wp2
        all_goals
          go_round
          case rel => exact ⟨k + 1, by omega, by go_num, HF⟩
          case measure => simp [intOf]; omega
      · have HG := Lib.hid hg
        clear hg
        by_cases h48 : 48 ≤ (s[k]).toNat
        · have h57 : 57 < (s[k]).toNat := by
            have := HG.out
            unfold dg1 at this
            omega
          go_wp2
          go_ret
          exact ⟨rfl, rfl⟩
        · have h48' : (s[k]).toNat < 48 := by omega
          clear h48
          go_wp2
          go_ret
          exact ⟨rfl, rfl⟩
    · have hz : s.size = 0 := by
        rcases Nat.eq_zero_or_pos s.size with h0 | h0
        · exact h0
        · exfalso
          refine hd.out ⟨fun e => ?_, fun c hc => ?_⟩
          · have := Lib.size_eq s
            rw [e] at this
            simp only [List.length_nil] at this
            omega
          · obtain ⟨j, hj, rfl⟩ := List.getElem_of_mem hc
            have hj' : j < s.size := by rw [Lib.size_eq]; exact hj
            have := hF.out j hj' (by omega)
            unfold dg1 at this
            simpa [ByteArray.getElem_eq_getElem_data] using this
      have HZ := Lib.hid hz
      clear hz
      go_wp2
      go_ret
      rw [toList_void s HZ.out]
      exact ⟨rfl, rfl⟩
end Go.Proofs.YtocoflojlliapaaDoor
