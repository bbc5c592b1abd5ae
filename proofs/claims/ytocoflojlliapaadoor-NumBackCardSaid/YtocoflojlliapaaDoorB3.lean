import Derived.Test.YtocoflojlliapaaDoorB2
set_option linter.unusedVariables false
namespace Go.Proofs.YtocoflojlliapaaDoor
open Go.RowKit
set_option maxHeartbeats 1600000 in
theorem minus_at (A1 A2 : Option Addr) (xs ys : List Nat) (c1 c2 m n : Nat) (w : World) (h1 : Lim .u32 w.heap.size w A1 xs) (h2 : Lim .u32 w.heap.size w A2 ys) (hx : Low 4294967296 xs) (hy : Low 4294967296 ys)
    (l1 : Hid (xs.length = m)) (l2 : Hid (ys.length = n)) (l3 : n ≤ m) (hm : m ≤ 1000000) (hge : Hid (val 4294967296 ys ≤ val 4294967296 xs)) :
    Calls Tryd.prog 63 #[.slice A1 m c1, .slice A2 n c2] w fun e w' => e = .returned (.slice (some ⟨w.heap.size, 0, none⟩) m m) ∧ Made w w' m (val 4294967296 xs - val 4294967296 ys) := by
  have hmk := make32 m (m : Int) rfl (by omega)
  have HX := Lib.hid hx
  have HY := Lib.hid hy
  clear hx hy
  go_enter Tryd.func63, Tryd.ntmps63
  go_wp2_with fail
  go_loopw [6, 13] (fun cv i wr => ∃ (k c : Nat) (zs : List Nat), k ≤ m ∧ i = .int .i64 k ∧ cv = .int .u32 c ∧ c ≤ 1 ∧ Hid (∃ v, Fill m k v zs ∧ v + val 4294967296 (ys.take k) = val 4294967296 (xs.take k) + 4294967296 ^ k * c) ∧
      Nums .u32 43 wr w.heap.size zs ∧ Below w.heap.size w wr) (fun _ i _ => m - (intOf i).toNat)
  case atStart => exact ⟨0, 0, zer m, Nat.zero_le _, rfl, rfl, by omega, Lib.hid ⟨0, Fill.zero _, by simp [val]⟩, Nums.new _ _ _ _, (Below.refl _ _).alloc (Nat.le_refl _) _⟩
  case round =>
    obtain ⟨k, c, zs, hk, rfl, rfl, hc, hF, hN, hbel⟩ := hrel
    by_cases hlt : k < m
    · have hzl : k < zs.length := by
        obtain ⟨v, hf, _⟩ := hF.out
        rw [hf.1]
        omega
      have hxl : k < xs.length := by rw [l1.out]; exact hlt
      have hcell := hN.at hzl
      have hfree := hN.free k
      have k1 : xs[k] < 4294967296 := HX.out.at hxl
      have k2 : lmb ys k < 4294967296 := lmb_lt HY.out k
      have hlim2 := h2.below hbel
      obtain ⟨a1, rfl, hab, cell1⟩ := (h1.below hbel).at hxl
      obtain ⟨X, hX⟩ : ∃ X, X = xs[k] := ⟨_, rfl⟩
      rw [← hX] at cell1 k1
      have KX := Lib.hid (hX.trans (lmb_in hxl).symm)
      clear hX
      go_wp2_with fail
      have hst : ∀ v : Value, (wr.setCell ⟨w.heap.size, k, none⟩ v).cell? (a1.add k) = some (.int .u32 X) := fun v =>
        (World.cell?_setCell_other wr _ _ v (fun e => by have := congrArg Addr.block e; rw [add_block] at this; simp at this; omega)).trans cell1
      go_region_held3 (fun w' => w'.cell? (a1.add k) = some (.int .u32 X)) (first | go_keep | exact hst _)
        (first
          | (go_at_call 56; refine (limb_at A2 ys n c2 k _ _ (by exact hlim2) l2 (by omega) (by omega)).mono ?_; rintro e w' ⟨rfl, rfl⟩)
          | (go_at_call 82; refine (sub32 _ _ _ k1 k2 hc _).mono ?_; rintro e w' ⟨rfl, rfl⟩))
      all_goals go_wp2
      go_roundw
      case rel => exact ⟨k + 1, subHi X (lmb ys k) c, zs.set k (subLo X (lmb ys k) c), by omega, by go_num, rfl, subHi_le _ _ _, Lib.hid (by
        obtain ⟨v, hf, he⟩ := hF.out
        refine ⟨_, hf.set (subLo_lt _ _ _ k1 k2 hc) hlt, ?_⟩
        rw [val_take_lmb, val_take_lmb, Nat.pow_succ, ← KX.out]
        exact sub_step he (sub_eq _ _ _ k1 k2 hc)), hN.set _ _, (hbel.setCell (p := ⟨w.heap.size, k, none⟩) (Nat.le_refl _) _).drew⟩
      case measure => simp [intOf]; omega
    · obtain rfl : m = k := by omega
      go_wp2
      go_ret
      refine ⟨rfl, ?_⟩
      obtain ⟨v, hf, he⟩ := hF.out
      have hf2 := hf.full
      refine ⟨_, hf2.1, hf2.2.1, ?_, hN, hbel⟩
      rw [List.take_of_length_le (l := xs) (by rw [l1.out]; omega), List.take_of_length_le (l := ys) (by rw [l2.out]; omega)] at he
      have h3 := hge.out
      have h4 := val_lt (by decide) HX.out
      rw [l1.out] at h4
      rw [hf2.2.2]
      have hc0 : c = 0 := by
        rcases Nat.eq_zero_or_pos c with h0 | h0
        · exact h0
        · obtain rfl : c = 1 := by omega
          have h5 := val_lt (by decide) hf2.2.1
          rw [hf2.1, hf2.2.2] at h5
          omega
      subst hc0
      omega
end Go.Proofs.YtocoflojlliapaaDoor
