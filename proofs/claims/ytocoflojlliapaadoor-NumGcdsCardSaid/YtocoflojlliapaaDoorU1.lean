/- The document's small values, and its quotient and rest of rows of bits. -/
import Derived.Test.YtocoflojlliapaaDoorS4
set_option linter.unusedVariables false
namespace Go.Proofs.YtocoflojlliapaaDoor
open Go.RowKit
set_option maxHeartbeats 1600000 in
theorem smallB (n : Nat) (w : World) (hn : n ≤ 1000000) :
    Calls Tryd.prog 73 #[.int .i64 n] w fun e w' => ∃ B d, e = .returned (.slice B (bl n) d) ∧ Bit w' B (bl n) d n ∧ Fro w.heap.size B (bl n) ∧ Below w.heap.size w w' := by
  go_enter Tryd.func73, Tryd.ntmps73
  go_wp2
  go_loopw [0, 3] (fun nv ov wr => ∃ (m : Nat) (os : List Nat) (B : Option Addr) (k d : Nat), m ≤ n ∧ nv = .int .i64 m ∧ ov = .slice B k d ∧ k + m ≤ n ∧ wr.ownsRow w.heap.size 5 1 (.slice B k d) k (cl .u8 os) ∧ Hid (os.length = k ∧ Low 2 os ∧ os ++ digs 2 m = digs 2 n) ∧ Below w.heap.size w wr) (fun nv _ _ => (intOf nv).toNat)
  case atStart => exact ⟨n, [], none, 0, 0, Nat.le_refl _, rfl, rfl, by omega, own_nil, Lib.hid ⟨rfl, Low.nil, rfl⟩, Below.refl _ _⟩
  case round =>
    obtain ⟨m, os, B, k, d, hm, rfl, rfl, hk, hown, hP, hbel⟩ := hrel
    by_cases h0 : 0 < m
    · obtain ⟨D, hD⟩ : ∃ D, D = m % 2 := ⟨_, rfl⟩
      obtain ⟨M, hM⟩ : ∃ M, M = m / 2 := ⟨_, rfl⟩
      have d1 : D < 2 := by omega
      have e2 : (m : Int) % 2 = (D : Int) := by omega
      have e3 : (m : Int) / 2 = (M : Int) := by omega
      have e4 : (D : Int) % 256 = (D : Int) := by omega
      have HN : Hid ((os ++ [D]).length = k + 1 ∧ Low 2 (os ++ [D]) ∧ (os ++ [D]) ++ digs 2 M = digs 2 n) := Lib.hid ⟨by simp [hP.out.1], hP.out.2.1.append (Low.cons d1 Low.nil), by
        rw [← hP.out.2.2, digs_pos (n := m) (by decide) (by omega), hD, hM]
        simp⟩
      have hml : M < m := by omega
      have hmm : M + 1 ≤ m := by omega
      clear hD hM
      go_wp2_with (at_builtin; refine app_any (k := .u8) 28 5 1 Tryd.underlying28 u8_info (by decide) _ rfl _ _ rfl rfl w.heap.size (.slice B k d) k _ rfl (hown.alloc _) _ (some ⟨wr.heap.size, 0, none⟩) 1 1 [D] rfl (one_lim .u8 wr 5 D) (Lib.hid rfl) (by omega) (by have := hbel.size; simp; omega) ?_; intro v3 w3 hown3 hgr3; refine Hid.out ?_)
      refine Lib.hid ?_
      obtain ⟨B3, d3, rfl⟩ := own_slice hown3
      have hb3 : Below w.heap.size w w3 := (below_al hbel _).grown hgr3 (below_al hbel _).size (own_ge hown)
      clear hgr3
      go_wp2
      go_roundw
      case rel => exact ⟨M, os ++ [D], B3, k + 1, d3, by omega, rfl, rfl, by omega, hown3, HN, hb3⟩
      case measure => simp [intOf]; omega
    · obtain rfl : m = 0 := by omega
      have HV : Hid (os = digs 2 n ∧ k = bl n) := Lib.hid (by
        have h := hP.out.2.2
        rw [digs_zero, List.append_nil] at h
        exact ⟨h, by rw [← hP.out.1, h]; rfl⟩)
      go_wp2
      go_ret
      rw [HV.out.2] at hown ⊢
      rw [HV.out.1] at hown
      exact ⟨B, d, rfl, ⟨digs 2 n, Lim.of_own hown, digs_low (by decide) n, rfl, digs_val (by decide) n, own_cap hown⟩, Fro.of_own hown, hbel⟩
/-- quotient and rest by now -/
def Qr (xs qs : List Nat) (b n k r : Nat) : Prop := qs.length = n ∧ Low 2 qs ∧ r < b ∧ val 2 (xs.drop k) = b * val 2 (qs.drop k) + r ∧ ∀ j, j < k → lmb qs j = 0
theorem Qr.start {xs : List Nat} {b n : Nat} (hx : xs.length = n) (hb : 0 < b) : Qr xs (zer n) b n n 0 := by
  refine ⟨zer_len n, Low.rep (by decide) n, hb, ?_, ?_⟩
  · rw [List.drop_of_length_le (by omega), List.drop_of_length_le (by rw [zer_len]; exact Nat.le_refl _)]
    simp [val]
  · intro j hj
    unfold lmb zer
    rw [List.getD_eq_getElem?_getD, List.getElem?_replicate]
    split <;> rfl
theorem val_drop {l : List Nat} {p : Nat} (h : p < l.length) : val 2 (l.drop p) = lmb l p + 2 * val 2 (l.drop (p + 1)) := by
  rw [List.drop_eq_getElem_cons h, lmb_in h]
  simp [val]
theorem Qr.low {xs qs : List Nat} {b n p r : Nat} (h : Qr xs qs b n (p + 1) r) (hx : xs.length = n) (hp : p < n) (hlt : lmb xs p + 2 * r < b) : Qr xs qs b n p (lmb xs p + 2 * r) := by
  obtain ⟨e1, e2, e3, e4, e5⟩ := h
  refine ⟨e1, e2, hlt, ?_, fun j hj => e5 j (by omega)⟩
  rw [val_drop (by omega), val_drop (l := qs) (by omega), e4, e5 p (by omega)]
  grind
theorem Qr.high {xs qs : List Nat} {b n p r : Nat} (h : Qr xs qs b n (p + 1) r) (hx : xs.length = n) (lx : Low 2 xs) (hp : p < n) (hlt : b ≤ lmb xs p + 2 * r) : Qr xs (qs.set p 1) b n p (lmb xs p + 2 * r - b) := by
  obtain ⟨e1, e2, e3, e4, e5⟩ := h
  have hb := bit_lt lx p
  refine ⟨by simp [e1], e2.set (by decide), by omega, ?_, fun j hj => ?_⟩
  · have hs : lmb (qs.set p 1) p = 1 := by rw [lmb_in (by simp; omega)]; simp
    rw [val_drop (by omega), val_drop (l := qs.set p 1) (by simp; omega), e4, hs, List.drop_set_of_lt (by omega)]
    have : b * (1 + 2 * val 2 (qs.drop (p + 1))) = b + 2 * (b * val 2 (qs.drop (p + 1))) := by grind
    omega
  · have h2 := e5 j (by omega)
    unfold lmb at h2 ⊢
    rw [List.getD_eq_getElem?_getD, List.getElem?_set_ne (by omega)]
    rw [List.getD_eq_getElem?_getD] at h2
    exact h2
theorem Qr.done {xs qs : List Nat} {b n r : Nat} (h : Qr xs qs b n 0 r) : val 2 qs = val 2 xs / b ∧ r = val 2 xs % b := by
  obtain ⟨e1, e2, e3, e4, e5⟩ := h
  rw [List.drop_zero, List.drop_zero] at e4
  rw [e4]
  exact ⟨by rw [Nat.mul_add_div (by omega), Nat.div_eq_of_lt e3, Nat.add_zero], by rw [Nat.mul_add_mod, Nat.mod_eq_of_lt e3]⟩
theorem Bit.far1 {g i : Nat} {w : World} {A : Option Addr} {n c N : Nat} {u : Value} (h : Bit w A n c N) (hf : Fro (g + 1) A n) : Bit (w.setCell ⟨g, i, none⟩ u) A n c N := by
  obtain ⟨xs, h1, h2, h3, h4, h5⟩ := h
  refine ⟨xs, ?_, h2, h3, h4, h5⟩
  intro h0
  obtain ⟨ad, hA, hb, hc⟩ := h1 h0
  obtain ⟨ad', hA', hg⟩ := hf (by rw [← h3]; exact List.length_pos_iff.2 h0)
  rw [hA] at hA'
  injection hA' with hA'
  subst hA'
  refine ⟨ad, hA, by simpa using hb, fun k hk => ?_⟩
  rw [World.cell?_setCell_other _ _ _ _ (fun he => by
    have := congrArg Addr.block he
    rw [add_block] at this
    simp at this
    omega)]
  exact hc k hk
set_option maxHeartbeats 3200000 in
theorem partsB (A1 A2 : Option Addr) (n1 c1 c2 a b : Nat) (w : World) (h1 : Bit w A1 n1 c1 a) (h2 : Bit w A2 (bl b) c2 b) (hb : 0 < b) (l1 : n1 ≤ 10000) (l2 : bl b ≤ 10000) :
    Calls Tryd.prog 64 #[.slice A1 n1 c1, .slice A2 (bl b) c2] w fun e w' => ∃ Q d R c, e = .returned (.tuple #[.slice Q (bl (a / b)) d, .slice R (bl (a % b)) c]) ∧ Bit w' Q (bl (a / b)) d (a / b) ∧ Bit w' R (bl (a % b)) c (a % b) ∧ Fro w.heap.size Q (bl (a / b)) ∧ Fro w.heap.size R (bl (a % b)) ∧ Below w.heap.size w w' := by
  obtain ⟨xs, x1, x2, x3, x4, x5⟩ := h1
  have HX := Lib.hid (And.intro x2 (And.intro x3 x4))
  have X3 := Lib.hid x3
  have HB := Lib.hid hb
  have hmk := make8 n1 (n1 : Int) rfl (by omega)
  obtain ⟨mb, hmb⟩ : ∃ mb, mb = bl b := ⟨_, rfl⟩
  rw [← hmb] at h2 l2 ⊢
  have HMB := Lib.hid hmb
  clear x2 x3 x4 x5 hb hmb
  go_enter Tryd.func64, Tryd.ntmps64
  go_wp2_with fail
  go_loopw [7, 8] (fun rv iv wr => ∃ (j : Int) (r m d : Nat) (R : Option Addr) (qs : List Nat), -1 ≤ j ∧ j < n1 ∧ iv = .int .i64 j ∧ rv = .slice R m d ∧ m ≤ 10000 ∧ Bit wr R m d r ∧ Fro (w.heap.size + 1) R m ∧ Nums .u8 5 wr w.heap.size qs ∧ Hid (m = bl r ∧ Qr xs qs b n1 (j + 1).toNat r) ∧ Below w.heap.size w wr) (fun _ iv _ => (intOf iv + 1).toNat)
  case atStart => exact ⟨n1 - 1, 0, 0, 0, none, zer n1, by omega, by omega, rfl, rfl, by omega, Bit.none_ _, Fro.none_ _ _, Nums.new _ _ _ _, Lib.hid ⟨rfl, by rw [show ((n1 : Int) - 1 + 1).toNat = n1 by omega]; exact Qr.start X3.out HB.out⟩, (Below.refl _ _).alloc (Nat.le_refl _) _⟩
  case round =>
    obtain ⟨j, r, m, d, R, qs, hj0, hj1, rfl, rfl, hm, hR, hF, hN, HP, hbel⟩ := hrel
    by_cases hlt : 0 ≤ j
    · obtain ⟨p, rfl⟩ := Int.eq_ofNat_of_zero_le hlt
      have hpn : p < n1 := by omega
      have HQ : Hid (Qr xs qs b n1 (p + 1) r) := Lib.hid HP.out.2
      have HM : Hid (m = bl r) := Lib.hid HP.out.1
      clear HP
      have hpx : p < xs.length := by rw [X3.out]; exact hpn
      obtain ⟨ad, rfl, hab, hcell⟩ := (x1.below hbel).at hpx
      have hX1 := bit_lt HX.out.1 p
      rw [← lmb_in hpx] at hcell
      obtain ⟨X, hX⟩ : ∃ X, X = lmb xs p := ⟨_, rfl⟩
      rw [← hX] at hcell hX1
      have KX := Lib.hid hX
      clear hX
      obtain ⟨rs, z1, z2, z3, z4, z5⟩ := hR
      have Z3 := Lib.hid z3
      have HR := Lib.hid (And.intro z2 z4)
      clear z2 z3 z4
      have hg := hN.lt
      have BO : (wr.alloc (.cells #[.int .u8 X] 5)).ownsRow (w.heap.size + 1) 5 1 (.slice (some ⟨wr.heap.size, 0, none⟩) 1 1) 1 (cl .u8 [X]) := World.ownsRow_lit (base := w.heap.size + 1) (e := 5) (size := 1) wr #[.int .u8 X] 1 (by omega) (by unfold maxLen; omega) rfl
      have hal : Below wr.heap.size wr (wr.alloc (.cells #[.int .u8 X] 5)) := below_al (Below.refl _ _) _
      have sz : w.heap.size + 1 ≤ (wr.alloc (.cells #[.int .u8 X] 5)).heap.size := by simp; omega
      have zl := z1.below hal
      go_wp2_with (at_builtin; refine app_any (k := .u8) 28 5 1 Tryd.underlying28 u8_info (by decide) _ rfl _ _ rfl rfl (w.heap.size + 1) (.slice (some ⟨wr.heap.size, 0, none⟩) 1 1) 1 [X] rfl BO wr.heap.size R m d rs rfl zl Z3 (by omega) sz ?_; intro v3 w3 hown3 hgr3; refine Hid.out ?_)
      refine Lib.hid ?_
      obtain ⟨R3, d3, rfl⟩ := own_slice hown3
      have hb0 : Below wr.heap.size wr w3 := hal.grown hgr3 (by simp) (fun k hk => by simp [Value.ownBlock] at hk; omega)
      have hR3 : Bit w3 R3 (1 + m) d3 (X + 2 * r) := ⟨[X] ++ rs, by
        have h := Lim.of_own (k := .u8) (xs := [X] ++ rs) (by rw [List.length_append, Z3.out]; exact hown3)
        exact h, Low.cons (by omega) HR.out.1, by rw [List.length_append, Z3.out]; rfl, by simp [val]; rw [HR.out.2], own_cap hown3⟩
      have hF3 := Fro.of_own hown3
      have hN3 := hN.below hb0 hg
      have hb3 : Below w.heap.size w w3 := below_then hbel hb0
      have h23 := h2.below hb3
      obtain ⟨R0, hR0⟩ : ∃ R0, R0 = X + 2 * r := ⟨_, rfl⟩
      rw [← hR0] at hR3
      have KR := Lib.hid hR0
      clear hgr3 hown3 hal BO sz zl hb0 hN hF hbel hR0 hcell
      have CT := Lib.hid (cut_bit R3 (1 + m) d3 R0 w3 hR3 (by omega))
      go_wp2_with fail
      refine (CT.out).mono ?_
      rintro e w4 ⟨rfl, rfl⟩
      clear CT
      have hT := hR3.trim
      have hF4 := hF3.cut hR3.le
      have hml := hR3.le
      have CT : Hid (Calls Tryd.prog 55 #[.slice R3 (bl R0) d3, .slice A2 mb c2] w3 fun e w' => e = .returned (.bool (decide (R0 < b))) ∧ Below w3.heap.size w3 w') := Lib.hid (by
        rw [HMB.out] at h23 l2 ⊢
        exact less_bit w3 hT h23 (by omega) (by omega))
      clear hR3 hF3
      by_cases hlb : R0 < b
      · have e1 : decide (R0 < b) = true := decide_eq_true hlb
        rw [e1] at CT
        have HNX : Hid (Qr xs qs b n1 p R0) := Lib.hid (by
          have h := HQ.out.low X3.out hpn
          rw [← KX.out, ← KR.out] at h
          exact h hlb)
        have hmb : bl R0 ≤ 10000 := Nat.le_trans (bl_mono (Nat.le_of_lt hlb)) (by rw [← HMB.out]; exact l2)
        clear e1 hlb
        go_wp2_with fail
        refine (CT.out).mono ?_
        rintro e w5 ⟨rfl, b5⟩
        have T5 := hT.below b5
        have N5 := hN3.below b5 hN3.lt
        have B5 := below_then hb3 b5
        clear CT h23 hT hN3 hb3 b5
        go_wp2
        go_roundw
        case rel => exact ⟨(p : Int) - 1, R0, bl R0, d3, R3, qs, by omega, by omega, by go_num, rfl, hmb, T5, hF4, N5, Lib.hid ⟨rfl, by rw [show ((p : Int) - 1 + 1).toNat = p by omega]; exact HNX.out⟩, B5⟩
        case measure => simp [intOf]
      · have e1 : decide (R0 < b) = false := decide_eq_false hlb
        rw [e1] at CT
        have hqp : p < qs.length := by rw [HQ.out.1]; exact hpn
        have HNX : Hid (Qr xs (qs.set p 1) b n1 p (R0 - b)) := Lib.hid (by
          have h := HQ.out.high X3.out HX.out.1 hpn
          rw [← KX.out, ← KR.out] at h
          exact h (by omega))
        have hge : Hid (b ≤ R0) := Lib.hid (by omega)
        have hmb : bl (R0 - b) ≤ 10000 := by
          have h3 := HNX.out.2.2.1
          exact Nat.le_trans (bl_mono (Nat.le_of_lt h3)) (by rw [← HMB.out]; exact l2)
        clear e1 hlb
        go_wp2_with fail
        refine (CT.out).mono ?_
        rintro e w5 ⟨rfl, b5⟩
        have T5 := hT.below b5
        have N5 := hN3.below b5 hN3.lt
        have B5 := below_then hb3 b5
        have h25 := h2.below B5
        have hs5 : w.heap.size + 1 ≤ w5.heap.size := N5.lt
        clear CT h23 hT hN3 hb3 b5
        have CT := Lib.hid (minusB R3 A2 (bl R0) d3 mb c2 R0 b w5 T5 h25 (by omega) (by omega) hge.out)
        go_wp2_with fail
        refine (CT.out).mono ?_
        rintro e w6 ⟨R6, d6, rfl, T6, F6, b6⟩
        have N6 := N5.below b6 N5.lt
        have B6 := below_then B5 b6
        have hc6 := N6.at hqp
        have hf6 := N6.free p
        have F7 := F6.mono hs5
        clear CT T5 N5 B5 h25 F6 b6 hF4
        go_wp2
        have T7 := T6.far1 (g := w.heap.size) (i := p) (u := .int .u8 1) F7
        go_roundw
        case rel => exact ⟨(p : Int) - 1, R0 - b, _, d6, R6, qs.set p 1, by omega, by omega, by go_num, rfl, hmb, T7, F7, N6.set p 1, Lib.hid ⟨rfl, by rw [show ((p : Int) - 1 + 1).toNat = p by omega]; exact HNX.out⟩, B6.setCell (p := ⟨w.heap.size, p, none⟩) (Nat.le_refl _) _⟩
        case measure => simp [intOf]
    · obtain rfl : j = -1 := by omega
      have HQ : Hid (val 2 qs = a / b ∧ r = a % b ∧ m = bl r ∧ qs.length = n1 ∧ Low 2 qs) := Lib.hid (by
        have h := HP.out.2.done
        rw [HX.out.2.2] at h
        exact ⟨h.1, h.2, HP.out.1, HP.out.2.1, HP.out.2.2.1⟩)
      have hQ : Bit wr (some ⟨w.heap.size, 0, none⟩) n1 n1 (a / b) := ⟨qs, hN.lim, HQ.out.2.2.2.2, HQ.out.2.2.2.1, HQ.out.1, Nat.le_refl _⟩
      have CT := Lib.hid (cut_bit (some ⟨w.heap.size, 0, none⟩) n1 n1 (a / b) wr hQ (by omega))
      clear HP
      go_wp2_with fail
      refine (CT.out).mono ?_
      rintro e w4 ⟨rfl, rfl⟩
      go_wp2
      go_ret2
      have hT := hQ.trim
      have er := HQ.out.2.1
      have em := HQ.out.2.2.1
      clear HQ
      subst er
      subst em
      exact ⟨_, n1, R, d, rfl, hT, hR, fun _ => ⟨_, rfl, Nat.le_refl _⟩, hF.mono (Nat.le_succ _), hbel⟩
end Go.Proofs.YtocoflojlliapaaDoor
