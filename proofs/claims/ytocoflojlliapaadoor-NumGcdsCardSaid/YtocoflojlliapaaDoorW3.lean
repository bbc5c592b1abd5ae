/- How often by goes into a window, guessed. -/
import Derived.Test.YtocoflojlliapaaDoorW2
set_option linter.unusedVariables false
namespace Go.Proofs.YtocoflojlliapaaDoor
open Go.RowKit
/-- what the guess stands on: h, nx by's last limbs, t the window's last two, w3 the one ahead -/
structure Gs (Y W h nx t w3 q k w1 w2 : Nat) : Prop where
  h1 : h < 4294967296
  n1 : nx < 4294967296
  v1 : w1 < 4294967296
  v2 : w2 < 4294967296
  v3 : w3 < 4294967296
  h0 : 0 < h
  ht : t = w1 * 4294967296 + w2
  hle : w1 ≤ h
  lowY : h * 4294967296 * 4294967296 ^ k + nx * 4294967296 ^ k ≤ Y
  highY : Y < (h * 4294967296 + nx + 1) * 4294967296 ^ k
  lowW : (t * 4294967296 + w3) * 4294967296 ^ k ≤ W
  highW : W < (t * 4294967296 + w3 + 1) * 4294967296 ^ k
  qlow : q * Y ≤ W
  qhigh : W < (q + 1) * Y
  qB : q < 4294967296
theorem Gs.bY {Y W h nx t w3 q k w1 w2 : Nat} (G : Gs Y W h nx t w3 q k w1 w2) : 4294967296 * 4294967296 ^ k ≤ Y := by
  have := G.lowY
  have h1 : 1 * (4294967296 * 4294967296 ^ k) ≤ h * (4294967296 * 4294967296 ^ k) := Nat.mul_le_mul_right _ G.h0
  have h2 : h * 4294967296 * 4294967296 ^ k = h * (4294967296 * 4294967296 ^ k) := Nat.mul_assoc _ _ _
  omega
theorem Gs.pP (k : Nat) : 0 < 4294967296 ^ k := Nat.pow_pos (by decide)
theorem Gs.start {Y W h nx t w3 q k w1 w2 : Nat} (G : Gs Y W h nx t w3 q k w1 w2) : t / h * h + t % h = t ∧ q ≤ t / h := by
  refine ⟨by rw [Nat.mul_comm]; exact Nat.div_add_mod t h, ?_⟩
  have h1 := guess_low (Gs.pP k) G.lowY G.highW G.qlow
  have h2 := guess_top G.v3 h1
  exact (Nat.le_div_iff_mul_le G.h0).2 h2
theorem Gs.down {Y W h nx t w3 q k w1 w2 p l : Nat} (G : Gs Y W h nx t w3 q k w1 w2) (hp : p * h + l = t ∧ q ≤ p) (hd : 4294967296 ≤ p ∨ l * 4294967296 + w3 < p * nx) : 1 ≤ p ∧ (p - 1) * h + (l + h) = t ∧ q ≤ p - 1 := by
  have hq : q < p := by
    rcases hd with hd | hd
    · have := G.qB; omega
    · exact guess_down (guess_low (Gs.pP k) G.lowY G.highW G.qlow) hp.1 hd
  refine ⟨by omega, ?_, by omega⟩
  obtain ⟨r, rfl⟩ : ∃ r, p = r + 1 := ⟨p - 1, by omega⟩
  have e : (r + 1) * h = r * h + h := by grind
  rw [Nat.add_sub_cancel]
  omega
theorem Gs.end1 {Y W h nx t w3 q k w1 w2 p l : Nat} (G : Gs Y W h nx t w3 q k w1 w2) (hp : p * h + l = t ∧ q ≤ p) (hl : 4294967296 ≤ l) : p < 4294967296 ∧ q ≤ p ∧ p ≤ q + 1 := by
  have h1 := guess_part G.ht G.hle G.v2 hp.1 hl
  have h2 := guess_up2 (Gs.pP k) G.n1 G.highY G.lowW h1 hp.1 hl G.qhigh
  exact ⟨h1, hp.2, by omega⟩
theorem Gs.end2 {Y W h nx t w3 q k w1 w2 p l : Nat} (G : Gs Y W h nx t w3 q k w1 w2) (hp : p * h + l = t ∧ q ≤ p) (hpB : p < 4294967296) (hd : p * nx ≤ l * 4294967296 + w3) : p < 4294967296 ∧ q ≤ p ∧ p ≤ q + 1 :=
  ⟨hpB, hp.2, guess_up1 (Gs.pP k) G.highY G.lowW G.bY hpB hp.1 hd G.qhigh⟩
theorem or_join (a b : Nat) (ha : a < 4294967296) (hb : b < 4294967296) : bits .or .u64 ((a : Int) * 4294967296) b = ((a * 4294967296 + b : Nat) : Int) := by
  have eo : bits .or .u64 ((a : Int) * 4294967296) b = (a : Int) * 4294967296 + b := bits_join .u64 64 (by decide) wraps_u64 32 _ _ (by omega) (by omega) (by omega) (by omega) (by omega) (by omega)
  rw [eo]
  omega
set_option maxHeartbeats 3200000 in
theorem guess_at (g o n m cw c2 k k1 Y W h nx t w3 q w1 w2 : Nat) (A2 : Option Addr) (zs ys : List Nat) (w : World) (hz : Nums .u32 43 w g zs) (hy : Lim .u32 w.heap.size w A2 ys) (hyl : Hid (ys.length = n)) (hin : o + m ≤ zs.length) (hm : n < m) (hn : n ≤ 100000) (hl : zs.length ≤ 100000)
    (hk1 : Hid (n = k1 + 1)) (hk : Hid (k1 = k + 1)) (H1 : Hid (lmb ys k1 = h)) (H2 : Hid (lmb ys k = nx)) (H3 : Hid (lmb zs (o + n) = w1)) (H4 : Hid (lmb zs (o + k1) = w2)) (H5 : Hid (lmb zs (o + k) = w3)) (HG : Hid (Gs Y W h nx t w3 q k w1 w2)) :
    Calls Tryd.prog 93 #[.slice (some ⟨g, o, none⟩) m cw, .slice A2 n c2] w fun e w' => ∃ p, e = .returned (.int .u32 (p : Nat)) ∧ (p < 4294967296 ∧ q ≤ p ∧ p ≤ q + 1) ∧ ∃ d, w' = w.drewN d := by
  have i1 : k1 < ys.length := by have := hyl.out; have := hk1.out; omega
  have i2 : k < ys.length := by have := hyl.out; have := hk1.out; have := hk.out; omega
  obtain ⟨ad, rfl, hab, c1⟩ := hy.at i1
  obtain ⟨ad', e', _, c2'⟩ := hy.at i2
  injection e' with e'
  subst e'
  rw [← lmb_in i1, H1.out] at c1
  rw [← lmb_in i2, H2.out] at c2'
  have c3 := hz.lmb (i := o + n) (by omega)
  have c4 := hz.lmb (i := o + k1) (by have := hk1.out; omega)
  have c5 := hz.lmb (i := o + k) (by have := hk1.out; have := hk.out; omega)
  rw [H3.out] at c3
  rw [H4.out] at c4
  rw [H5.out] at c5
  have b1 := HG.out.h1
  have b2 := HG.out.n1
  have b3 := HG.out.v1
  have b4 := HG.out.v2
  have b5 := HG.out.v3
  have b6 := HG.out.h0
  have ht : t = w1 * 4294967296 + w2 := HG.out.ht
  have eo := or_join w1 w2 b3 b4
  rw [← ht] at eo
  have t64 : t ≤ 18446744073709551615 := by omega
  have HT := Lib.hid ht
  have n1 : (n : Int) - 1 = (k1 : Int) := by have := hk1.out; omega
  have n2 : (n : Int) - 2 = (k : Int) := by have := hk1.out; have := hk.out; omega
  have n3 : IntKind.i64.wrap ((n : Int) - 1) = (k1 : Int) := by rw [IntKind.wrap_i64]; omega
  have n4 : IntKind.i64.wrap ((n : Int) - 2) = (k : Int) := by rw [IntKind.wrap_i64]; omega
  have j1 : (k1 : Int) < n := by have := hk1.out; omega
  have j2 : (k : Int) < n := by have := hk1.out; have := hk.out; omega
  have j3 : (n : Int) < m := by omega
  have j4 : k1 < n := by omega
  have j5 : k < n := by omega
  have e0 : ((h : Int) == 0) = false := beq_eq_false_iff_ne.2 (by omega)
  have e1 : ((h : Int) != 0) = true := by simp; omega
  obtain ⟨p0, hp0⟩ : ∃ p0, p0 = t / h := ⟨_, rfl⟩
  obtain ⟨l0, hl0⟩ : ∃ l0, l0 = t % h := ⟨_, rfl⟩
  have HS : Hid (p0 * h + l0 = t ∧ q ≤ p0) := Lib.hid (by rw [hp0, hl0]; exact HG.out.start)
  have q1 : (t : Int) / h = (p0 : Int) := by rw [hp0]; omega
  have q2 : (t : Int) % h = (l0 : Int) := by rw [hl0]; omega
  have q3 : p0 ≤ t := by rw [hp0]; exact Nat.div_le_self _ _
  have q4 : l0 < h := by rw [hl0]; exact Nat.mod_lt _ b6
  clear ht i1 i2 hp0 hl0
  go_enter Tryd.func93, Tryd.ntmps93
  go_wp2
  go_quiet (fail)
  go_wp2
  go_quiet (fail)
  go_wp2
  go_quiet (fail)
  go_wp2_with fail
  go_loopw [9, 10] (fun pv lv wr => ∃ p l d : Nat, pv = .int .u64 p ∧ lv = .int .u64 l ∧ p ≤ 18446744073709551615 ∧ l < 8589934592 ∧ Hid (p * h + l = t ∧ q ≤ p) ∧ wr = w.drewN d) (fun pv _ _ => (intOf pv).toNat)
  case atStart => exact ⟨p0, l0, _, (by first | rfl | rw [q1]), (by first | rfl | rw [q2]), by omega, by omega, HS, by rw [World.drewN_drewN, World.drewN_drewN]⟩
  case round =>
    obtain ⟨p, l, d, rfl, rfl, hp, hl2, HP, rfl⟩ := hrel
    by_cases hlB : l < 4294967296
    · have f1 : ((l : Int) / 4294967296 == 0) = true := beq_iff_eq.2 (by omega)
      by_cases hpB : p < 4294967296
      · have f2 : ((p : Int) / 4294967296 != 0) = false := by simp; omega
        have eo2 := or_join l w3 hlB b5
        obtain ⟨S, hS⟩ : ∃ S, S = l * 4294967296 + w3 := ⟨_, rfl⟩
        rw [← hS] at eo2
        have S64 : S ≤ 18446744073709551615 := by omega
        have m0 := mul_sq hpB b2
        have m1 : (p : Int) * nx ≤ 18446744065119617025 := by rw [← Int.natCast_mul]; omega
        have m2 : 0 ≤ (p : Int) * nx := by rw [← Int.natCast_mul]; omega
        have HSS := Lib.hid hS
        have m3 : (p : Int) * nx = ((p * nx : Nat) : Int) := (Int.natCast_mul _ _).symm
        by_cases hgt : S < p * nx
        · have f3 : decide ((S : Int) < (p : Int) * nx) = true := decide_eq_true (by omega)
          have HD := Lib.hid (HG.out.down HP.out (.inr (by rw [← HSS.out]; exact hgt)))
          have hp1 : 1 ≤ p := HD.out.1
          clear hgt hS m0 m3 hpB
          go_wp2
          go_roundw
          case rel => exact ⟨p - 1, l + h, d, by go_num, by go_num, by omega, by omega, Lib.hid HD.out.2, rfl⟩
          case measure => simp [intOf]; omega
        · have f3 : decide ((S : Int) < (p : Int) * nx) = false := decide_eq_false (by omega)
          have HE := Lib.hid (HG.out.end2 HP.out hpB (by rw [← HSS.out]; omega))
          clear hgt hS m0 m3
          go_wp2
          go_ret
          exact ⟨p, rfl, HE.out, _, rfl⟩
      · have f2 : ((p : Int) / 4294967296 != 0) = true := by simp; omega
        have HD := Lib.hid (HG.out.down HP.out (.inl (by omega)))
        have hp1 : 1 ≤ p := HD.out.1
        clear hpB
        go_wp2
        go_roundw
        case rel => exact ⟨p - 1, l + h, d, by go_num, by go_num, by omega, by omega, Lib.hid HD.out.2, rfl⟩
        case measure => simp [intOf]; omega
    · have f1 : ((l : Int) / 4294967296 == 0) = false := beq_eq_false_iff_ne.2 (by omega)
      have HE := Lib.hid (HG.out.end1 HP.out (by omega))
      have hpB := HE.out.1
      clear hlB
      go_wp2
      go_ret
      exact ⟨p, rfl, HE.out, _, rfl⟩
end Go.Proofs.YtocoflojlliapaaDoor
