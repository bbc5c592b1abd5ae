import Derived.Test.YtocoflojlliapaaDoorC2
import Derived.Test.YtocoflojlliapaaDoorD2
import Derived.Test.YtocoflojlliapaaDoorM4
set_option linter.unusedVariables false
namespace Go.Proofs.YtocoflojlliapaaDoor
open Go.RowKit
/-- the limbs of a row, the other way round -/
def Flip (n k : Nat) (xs zs : List Nat) : Prop := zs.length = n ∧ ∀ i, i < k → zs[i]? = xs[n - 1 - i]?
theorem Flip.done {n : Nat} {xs zs : List Nat} (h : Flip n n xs zs) (hx : xs.length = n) : zs = xs.reverse := by
  apply List.ext_getElem?
  intro i
  rcases Nat.lt_or_ge i n with hi | hi
  · rw [h.2 i hi, List.getElem?_reverse (by omega), hx]
  · rw [List.getElem?_eq_none (by rw [h.1]; exact hi), List.getElem?_eq_none (by simp [hx]; exact hi)]
theorem Flip.set {n k X : Nat} {xs zs : List Nat} (h : Flip n k xs zs) (hk : k < n) (hX : xs[n - 1 - k]? = some X) : Flip n (k + 1) xs (zs.set k X) := by
  refine ⟨by simp [h.1], fun i hi => ?_⟩
  by_cases e : i = k
  · subst e
    rw [List.getElem?_set_self (by rw [h.1]; exact hk), hX]
  · rw [List.getElem?_set_ne (by omega)]
    exact h.2 i (by omega)
set_option maxHeartbeats 1600000 in
theorem turned_at (A : Option Addr) (xs : List Nat) (n c : Nat) (w : World) (h1 : Lim .u32 w.heap.size w A xs) (l1 : Hid (xs.length = n)) (hl : n ≤ 1000000) :
    Calls Tryd.prog 68 #[.slice A n c] w fun e w' => e = .returned (.slice (some ⟨w.heap.size, 0, none⟩) n n) ∧ Nums .u32 43 w' w.heap.size xs.reverse ∧ Below w.heap.size w w' := by
  have hmk := make32 n (n : Int) rfl (by omega)
  go_enter Tryd.func68, Tryd.ntmps68
  go_wp2_with fail
  go_loopw [10] (fun i wr => ∃ (k : Nat) (zs : List Nat), k ≤ n ∧ i = .int .i64 k ∧ Hid (Flip n k xs zs) ∧ Nums .u32 43 wr w.heap.size zs ∧ Below w.heap.size w wr) (fun i _ => n - (intOf i).toNat)
  case atStart => exact ⟨0, zer n, Nat.zero_le _, rfl, Lib.hid ⟨zer_len n, fun i hi => absurd hi (by omega)⟩, Nums.new _ _ _ _, (Below.refl _ _).alloc (Nat.le_refl _) _⟩
  case round =>
    obtain ⟨k, zs, hk, rfl, hF, hN, hbel⟩ := hrel
    by_cases hlt : k < n
    · have hp : n - 1 - k < n := by omega
      have he : (n : Int) - 1 - k = ((n - 1 - k : Nat) : Int) := by omega
      have KP : Hid (n - 1 - k = n - 1 - k) := Lib.hid rfl
      have hxl : n - 1 - k < xs.length := by rw [l1.out]; exact hp
      have hzl : k < zs.length := by rw [hF.out.1]; exact hlt
      obtain ⟨a1, rfl, hab, cell1⟩ := (h1.below hbel).at hxl
      have KX : Hid (xs[n - 1 - k]? = some (xs[n - 1 - k])) := Lib.hid (List.getElem?_eq_getElem hxl)
      generalize xs[n - 1 - k] = X at cell1 KX
      generalize hpe : n - 1 - k = p at *
      have KPE := Lib.hid hpe
      clear hpe
      have hcell := hN.at hzl
      have hfree := hN.free k
      go_wp2
      go_roundw
      case rel => exact ⟨k + 1, zs.set k X, by omega, by go_num, Lib.hid (hF.out.set hlt (by rw [KPE.out]; exact KX.out)), hN.set _ _, hbel.setCell (p := ⟨w.heap.size, k, none⟩) (Nat.le_refl _) _⟩
      case measure => simp [intOf]; omega
    · obtain rfl : n = k := by omega
      have e : Hid (zs = xs.reverse) := Lib.hid (hF.out.done l1.out)
      go_wp2
      go_ret
      rw [← e.out]
      exact ⟨rfl, hN, hbel⟩
end Go.Proofs.YtocoflojlliapaaDoor
