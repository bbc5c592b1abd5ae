/- By is taken off a window, so many times. -/
import Derived.Test.YtocoflojlliapaaDoorW1
set_option linter.unusedVariables false
namespace Go.Proofs.YtocoflojlliapaaDoor
open Go.RowKit
/-- taken off by now -/
def Tk (zs0 ys : List Nat) (p o i cc bb : Nat) (zs : List Nat) : Prop := zs.length = zs0.length ∧ Low 4294967296 zs ∧ cc < 4294967296 ∧ bb ≤ 1 ∧ (∀ j, j < o ∨ o + i ≤ j → lmb zs j = lmb zs0 j) ∧ sv zs o i + p * val 4294967296 (ys.take i) = sv zs0 o i + 4294967296 ^ i * (cc + bb)
theorem Tk.zero {zs ys : List Nat} (h : Low 4294967296 zs) (p o : Nat) : Tk zs ys p o 0 0 0 zs := ⟨rfl, h, by decide, by omega, fun _ _ => rfl, by simp [sv, val]⟩
theorem Tk.next {zs0 ys zs : List Nat} {p o i cc bb y x hi lo lo2 ov d b' c' : Nat} (h : Tk zs0 ys p o i cc bb zs) (hy : lmb ys i = y) (hy1 : y < 4294967296) (hp1 : p < 4294967296) (h0 : Low 4294967296 zs0) (hp : o + i < zs0.length)
    (hx : x = lmb zs (o + i)) (hhi : hi = mulHi y p) (hlo : lo = mulLo y p) (hl2 : lo2 = addLo lo cc 0) (hov : ov = addHi lo cc 0) (hd : d = subLo x lo2 bb) (hb : b' = subHi x lo2 bb) (hc : c' = hi + ov) :
    Tk zs0 ys p o (i + 1) c' b' (zs.set (o + i) d) := by
  obtain ⟨e1, e2, e3, e4, e5, e6⟩ := h
  have hlo1 : lo < 4294967296 := by rw [hlo]; exact mulLo_lt _ _
  have hl21 : lo2 < 4294967296 := by rw [hl2]; exact addLo_lt _ _ _
  have hx1 : x < 4294967296 := by rw [hx]; exact lmb_lt e2 _
  have hov1 : ov ≤ 1 := by rw [hov]; exact addHi_le _ _ _ hlo1 e3 (by omega)
  have hhi1 : hi < 4294967295 := by rw [hhi]; exact mulHi_lt _ _ hy1 hp1
  have h5 := e5 (o + i) (by omega)
  refine ⟨by simp [e1], e2.set (by rw [hd]; exact subLo_lt _ _ _ hx1 hl21 e4), by omega, by rw [hb]; exact subHi_le _ _ _, fun j hj => ?_, ?_⟩
  · rw [lmb_set_ne (by omega)]
    exact e5 j (by omega)
  · rw [sv_succ, sv_succ, val_take_lmb, lmb_set_same (by omega), hy, sv_congr (zs := zs) (fun j h1 h2 => lmb_set_ne (by omega)), Nat.pow_succ, ← h5, ← hx]
    have m1 := mul_eq y p
    have m2 := add_eq lo cc 0
    have m3 := sub_eq x lo2 bb hx1 hl21 e4
    rw [← hhi, ← hlo] at m1
    rw [← hl2, ← hov] at m2
    rw [← hd, ← hb] at m3
    refine off_step e6 ?_
    rw [Nat.mul_comm p y, hc]
    omega
theorem add320 (x y : Nat) (x1 : x < 4294967296) (y1 : y < 4294967296) (w : World) :
    Calls Tryd.prog 91 #[.int .u32 x, .int .u32 y, .int .u32 0] w fun e w' => e = .returned (.tuple #[.int .u32 (addLo x y 0 : Nat), .int .u32 (addHi x y 0 : Nat)]) ∧ w = w' := add32 x y 0 x1 y1 (by decide) w
set_option maxHeartbeats 1600000 in
theorem takeOff_at (g o n m cw c2 p : Nat) (A2 : Option Addr) (zs ys : List Nat) (w : World) (hz : Nums .u32 43 w g zs) (hlow : Hid (Low 4294967296 zs)) (hy : Lim .u32 w.heap.size w A2 ys) (hyl : Hid (ys.length = n)) (hylow : Hid (Low 4294967296 ys)) (hoff : Off A2 n g)
    (hin : o + m ≤ zs.length) (hnm : n < m) (hl : zs.length ≤ 100000) (hp : p < 4294967296) (x : Nat) (hx : Hid (lmb zs (o + n) = x)) :
    Calls Tryd.prog 94 #[.slice (some ⟨g, o, none⟩) m cw, .slice A2 n c2, .int .u32 p] w fun e w' => ∃ zs' cc bb, e = .returned (.bool (decide (x < cc + bb))) ∧ Nums .u32 43 w' g zs' ∧ Tk zs ys p o n cc bb zs' ∧ Save g (g + 1) w w' := by
  have HO := Lib.hid hoff
  clear hoff
  go_enter Tryd.func94, Tryd.ntmps94
  go_wp2
  go_loopw [7, 8, 16] (fun kv bv iv wr => ∃ (i cc bb : Nat) (xs : List Nat), i ≤ n ∧ iv = .int .i64 i ∧ kv = .int .u32 cc ∧ bv = .int .u32 bb ∧ cc < 4294967296 ∧ bb ≤ 1 ∧ Nums .u32 43 wr g xs ∧ Hid (Tk zs ys p o i cc bb xs) ∧ Save g (g + 1) w wr) (fun _ _ iv _ => n - (intOf iv).toNat)
  case atStart => exact ⟨0, 0, 0, zs, Nat.zero_le _, rfl, rfl, rfl, by omega, by omega, hz, Lib.hid (Tk.zero hlow.out p o), Save.refl _ _ _⟩
  case round =>
    obtain ⟨i, cc, bb, xs, hi, rfl, rfl, rfl, hcc, hbb, hN, HP, hS⟩ := hrel
    by_cases hlt : i < n
    · have hil : i < ys.length := by rw [hyl.out]; exact hlt
      obtain ⟨ad, rfl, hab, cell⟩ := (hy.save (Nat.le_refl _) hS (by rw [hyl.out]; exact HO.out)).at hil
      have hy1 := hylow.out.at hil
      obtain ⟨y, hyy⟩ : ∃ y, y = ys[i] := ⟨_, rfl⟩
      rw [← hyy] at cell hy1
      have KY : Hid (lmb ys i = y) := Lib.hid (by rw [hyy]; exact lmb_in hil)
      have hp2 : o + i < xs.length := by rw [HP.out.1]; omega
      have c1 := hN.lmb hp2
      have f1 := hN.free (o + i)
      have hx1 := lmb_lt HP.out.2.1 (o + i)
      obtain ⟨u, hx'⟩ : ∃ u, u = lmb xs (o + i) := ⟨_, rfl⟩
      rw [← hx'] at c1 hx1
      have hlo1 := mulLo_lt y p
      have hl21 := addLo_lt (mulLo y p) cc 0
      have hov1 := addHi_le (mulLo y p) cc 0 hlo1 hcc (by omega)
      have hhi1 := mulHi_lt y p hy1 hp
      have HNX := Lib.hid (HP.out.next KY.out hy1 hp hlow.out (by rw [← HP.out.1]; exact hp2) hx' rfl rfl rfl rfl rfl rfl rfl)
      have M1 := fun V => Lib.hid (mul32 y p hy1 hp V)
      have M2 := fun V => Lib.hid (add320 (mulLo y p) cc hlo1 hcc V)
      have M3 := fun V => Lib.hid (sub32 u (addLo (mulLo y p) cc 0) bb hx1 hl21 hbb V)
      generalize mulHi y p = hi' at *
      generalize hlo : mulLo y p = lo at *
      clear hlo
      generalize hlo2 : addLo lo cc 0 = lo2 at *
      generalize hov : addHi lo cc 0 = ov at *
      clear hlo2 hov
      generalize hd : subLo u lo2 bb = d at *
      generalize hb' : subHi u lo2 bb = b' at *
      clear hd hb' hyy hx'
      obtain ⟨c', hc'⟩ : ∃ c', c' = hi' + ov := ⟨_, rfl⟩
      rw [← hc'] at HNX
      have ec : (hi' : Int) + ov = (c' : Int) := by omega
      have hc1 : c' < 4294967296 := by omega
      have hb1 := HNX.out.2.2.2.1
      clear hc'
      go_wp2_with (first
        | (go_at_call 101; refine ((M1 _).out).mono ?_; rintro e w' ⟨rfl, rfl⟩)
        | (go_at_call 91; refine ((M2 _).out).mono ?_; rintro e w' ⟨rfl, rfl⟩)
        | (go_at_call 82; refine ((M3 _).out).mono ?_; rintro e w' ⟨rfl, rfl⟩))
      go_roundw
      case rel => exact ⟨i + 1, c', b', _, by omega, by go_num, rfl, rfl, hc1, hb1, hN.set _ _, HNX, hS.set _ _⟩
      case measure => simp [intOf]; omega
    · obtain rfl : n = i := by omega
      have hp2 : o + n < xs.length := by rw [HP.out.1]; omega
      have c1 := hN.lmb hp2
      rw [HP.out.2.2.2.2.1 (o + n) (by omega)] at c1
      have hx1 := lmb_lt hlow.out (o + n)
      rw [hx.out] at c1 hx1
      have M3 := fun V => Lib.hid (sub32 x cc bb hx1 hcc hbb V)
      have HP2 : Hid (∃ zs' cc' bb', decide (x < cc + bb) = decide (x < cc' + bb') ∧ Nums .u32 43 wr g zs' ∧ Tk zs ys p o n cc' bb' zs') := Lib.hid ⟨xs, cc, bb, rfl, hN, HP.out⟩
      by_cases hlt2 : x < cc + bb
      · have e1 : subHi x cc bb = 1 := by unfold subHi; rw [if_pos hlt2]
        have e2 := Lib.hid (decide_eq_true hlt2)
        rw [e1] at M3
        clear e1 hlt2
        go_wp2_with (go_at_call 82; refine ((M3 _).out).mono ?_; rintro e w' ⟨rfl, rfl⟩)
        go_ret
        exact ⟨xs, cc, bb, by rw [e2.out]; rfl, hN, HP.out, hS⟩
      · have e1 : subHi x cc bb = 0 := by unfold subHi; rw [if_neg hlt2]
        have e2 := Lib.hid (decide_eq_false hlt2)
        rw [e1] at M3
        clear e1 hlt2
        go_wp2_with (go_at_call 82; refine ((M3 _).out).mono ?_; rintro e w' ⟨rfl, rfl⟩)
        go_ret
        exact ⟨xs, cc, bb, by rw [e2.out]; rfl, hN, HP.out, hS⟩
end Go.Proofs.YtocoflojlliapaaDoor
