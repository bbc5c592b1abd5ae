import Derived.Test.YtocoflojlliapaaDoorB2
set_option linter.unusedVariables false
namespace Go.Proofs.YtocoflojlliapaaDoor
open Go.RowKit
/-- a quotient by a limb that is filled from its end: p limbs are still to come -/
def Down (n p y L : Nat) (xs zs : List Nat) : Prop := zs.length = n ∧ Low 4294967296 zs ∧ val 4294967296 (xs.drop p) = y * val 4294967296 (zs.drop p) + L
theorem Down.zero (n y : Nat) (xs : List Nat) (h : xs.length = n) : Down n n y 0 xs (zer n) := by
  refine ⟨zer_len n, Low.rep (by decide) n, ?_⟩
  rw [List.drop_of_length_le (by omega), List.drop_of_length_le (by rw [zer_len]; exact Nat.le_refl n)]
  simp [val]
theorem Down.set {n p y L X : Nat} {xs zs : List Nat} (h : Down n (p + 1) y L xs zs) (hp : p < n) (hxl : p < xs.length) (hx : xs[p] = X) (hy : L < y) (hX : X < 4294967296) :
    Down n p y (divHi L X y) xs (zs.set p (divLo L X y)) := by
  obtain ⟨hl, hlow, hv⟩ := h
  have hq : divLo L X y < 4294967296 := by
    unfold divLo
    rw [Nat.div_lt_iff_lt_mul (by omega)]
    have : (L + 1) * 4294967296 ≤ y * 4294967296 := Nat.mul_le_mul_right _ hy
    rw [Nat.mul_comm y] at this
    omega
  refine ⟨by simp [hl], hlow.set hq, ?_⟩
  have e : (zs.set p (divLo L X y)).drop p = divLo L X y :: zs.drop (p + 1) := by
    rw [List.drop_eq_getElem_cons (by simp [hl, hp]), List.getElem_set_self, List.drop_set_of_lt (by omega)]
  rw [List.drop_eq_getElem_cons hxl, e]
  simp only [val]
  rw [hx]
  refine div_step hv ?_
  unfold divLo divHi
  rw [Nat.div_add_mod]
theorem divHi_lt (h l y : Nat) (hy : h < y) : divHi h l y < y := Nat.mod_lt _ (by omega)
/-- what a function that answers a magnitude, trimmed, leaves -/
def Gave (w w' : World) (A : Option Addr) (n : Nat) : Prop := Lim .u32 w'.heap.size w' A (digs 4294967296 n) ∧ Below w.heap.size w w'
theorem trim_at (A : Option Addr) (xs : List Nat) (n c : Nat) (B : Nat) (w : World) (hn : Hid (xs.length = n)) (hx : Lim .u32 B w A xs) (hc : n ≤ c) (hl : n ≤ 140737488355328) :
    Calls Tryd.prog 54 #[.slice A n c] w fun e w' => e = .returned (.slice A (trimL xs).length c) ∧ w = w' := by
  have h := hn.out
  subst h
  exact trim_any A xs c B w hx hc hl
set_option maxHeartbeats 1600000 in
theorem byLimb_at (A : Option Addr) (xs : List Nat) (c n y : Nat) (w : World) (h1 : Lim .u32 w.heap.size w A xs) (hx : Low 4294967296 xs) (l1 : Hid (xs.length = n)) (hl : n ≤ 1000000) (y0 : 0 < y) (y1 : y < 4294967296) :
    Calls Tryd.prog 66 #[.slice A n c, .int .u32 y] w fun e w' => e = .returned (.tuple #[.slice (some ⟨w.heap.size, 0, none⟩) (digs 4294967296 (val 4294967296 xs / y)).length n, .int .u32 (val 4294967296 xs % y : Nat)]) ∧
      Gave w w' (some ⟨w.heap.size, 0, none⟩) (val 4294967296 xs / y) := by
  have hmk := make32 n (n : Int) rfl (by omega)
  have HX := Lib.hid hx
  clear hx
  go_enter Tryd.func66, Tryd.ntmps66
  go_wp2_with fail
  go_loopw [5, 13] (fun lv i wr => ∃ (k L : Nat) (zs : List Nat), k ≤ n ∧ i = .int .i64 k ∧ lv = .int .u32 L ∧ L < y ∧ Hid (Down n (n - k) y L xs zs) ∧
      Nums .u32 43 wr w.heap.size zs ∧ Below w.heap.size w wr) (fun _ i _ => n - (intOf i).toNat)
  case atStart => exact ⟨0, 0, zer n, Nat.zero_le _, rfl, rfl, y0, Lib.hid (Down.zero n y xs l1.out), Nums.new _ _ _ _, (Below.refl _ _).alloc (Nat.le_refl _) _⟩
  case round =>
    obtain ⟨k, L, zs, hk, rfl, rfl, hL, hF, hN, hbel⟩ := hrel
    by_cases hlt : k < n
    · have HK : Hid (n - (k + 1) = n - 1 - k) := Lib.hid (by omega)
      have HF : Hid (Down n (n - 1 - k + 1) y L xs zs) := Lib.hid (by rw [show n - 1 - k + 1 = n - k by omega]; exact hF.out)
      clear hF
      have hp : n - 1 - k < n := by omega
      have he : (n : Int) - 1 - k = ((n - 1 - k : Nat) : Int) := by omega
      generalize hpe : n - 1 - k = p at *
      have KP := Lib.hid hpe
      clear hpe
      have hzl : p < zs.length := by
        rw [HF.out.1]
        exact hp
      have hxl : p < xs.length := by rw [l1.out]; exact hp
      have hcell := hN.at hzl
      have hfree := hN.free p
      have k1 : xs[p] < 4294967296 := HX.out.at hxl
      obtain ⟨a1, rfl, hab, cell1⟩ := (h1.below hbel).at hxl
      obtain ⟨X, hX⟩ : ∃ X, X = xs[p] := ⟨_, rfl⟩
      rw [← hX] at cell1 k1
      have KX := Lib.hid hX.symm
      clear hX
      go_wp2_with (go_at_call 83; refine (div32 L X y hL y1 k1 _).mono ?_; rintro e w' ⟨rfl, m, rfl⟩)
      go_roundw
      case rel => exact ⟨k + 1, divHi L X y, zs.set p (divLo L X y), by omega, by go_num, rfl, divHi_lt _ _ _ hL, Lib.hid (by
        rw [HK.out]
        exact HF.out.set hp hxl KX.out hL k1), (hN.drewN m).set _ _, (below_drewN hbel m).setCell (p := ⟨w.heap.size, p, none⟩) (Nat.le_refl _) _⟩
      case measure => simp [intOf]; omega
    · obtain rfl : n = k := by omega
      have hlen : Hid (zs.length = n) := Lib.hid hF.out.1
      have hlow := Lib.hid hF.out.2.1
      have hv : Hid (val 4294967296 xs = y * val 4294967296 zs + L) := Lib.hid (by
        have := hF.out.2.2
        rw [Nat.sub_self] at this
        simpa using this)
      have hq : Hid (trimL zs = digs 4294967296 (val 4294967296 xs / y)) := Lib.hid (by
        rw [hv.out, Nat.mul_add_div y0, Nat.div_eq_of_lt hL, Nat.add_zero, digs_of (by decide) hlow.out])
      have hr : Hid (L = val 4294967296 xs % y) := Lib.hid (by rw [hv.out, Nat.mul_add_mod, Nat.mod_eq_of_lt hL])
      clear hF
      have hlim := hN.lim
      go_wp2_with (go_at_call 54; refine (trim_at _ zs n n _ _ hlen hlim (Nat.le_refl _) (by omega)).mono ?_; rintro e w' ⟨rfl, rfl⟩)
      go_ret2
      rw [← hq.out, ← hr.out]
      exact ⟨rfl, by rw [Gave, ← hq.out]; exact ⟨hlim.trim, hbel⟩⟩
end Go.Proofs.YtocoflojlliapaaDoor
