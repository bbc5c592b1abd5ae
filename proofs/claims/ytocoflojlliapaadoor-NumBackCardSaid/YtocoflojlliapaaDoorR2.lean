import Derived.Test.YtocoflojlliapaaDoorR1
import Derived.Test.YtocoflojlliapaaDoorC5
set_option linter.unusedVariables false
namespace Go.Proofs.YtocoflojlliapaaDoor
open Go.RowKit
/-- the bits by now -/
def Bv (xs : List Nat) (i k : Nat) (bs : List Nat) : Prop := bs.length = 32 * i + k ∧ Low 2 bs ∧ val 2 bs = val 4294967296 (xs.take i) + 4294967296 ^ i * (lmb xs i % 2 ^ k)
theorem Bv.zero (xs : List Nat) : Bv xs 0 0 [] := ⟨rfl, Low.nil, by simp [val, Nat.mod_one]⟩
theorem pow32 (i : Nat) : (2 : Nat) ^ (32 * i) = 4294967296 ^ i := by rw [Nat.pow_mul]
theorem Bv.next {xs bs : List Nat} {i k : Nat} (h : Bv xs i k bs) : Bv xs i (k + 1) (bs ++ [lmb xs i / 2 ^ k % 2]) := by
  obtain ⟨h1, h2, h3⟩ := h
  refine ⟨by simp [h1]; omega, h2.append (Low.cons (Nat.mod_lt _ (by decide)) Low.nil), ?_⟩
  rw [val_snoc, h3, h1, Nat.pow_add, pow32, Nat.mod_pow_succ]
  grind
theorem Bv.turn {xs bs : List Nat} {i : Nat} (h : Bv xs i 32 bs) (hx : lmb xs i < 4294967296) : Bv xs (i + 1) 0 bs := by
  obtain ⟨h1, h2, h3⟩ := h
  refine ⟨by omega, h2, ?_⟩
  rw [h3, val_take_lmb, Nat.mod_eq_of_lt (show lmb xs i < 2 ^ 32 by simpa using hx)]
  simp [Nat.mod_one]
theorem boxes30 (w : World) (a b a' b' : Value) : ∀ W, W = (w.alloc (.cells #[a, b] 24)).alloc (.cells #[a', b'] 30) →
    Two W w.heap.size 24 a b ∧ Two W (w.heap.size + 1) 30 a' b' ∧ Below w.heap.size w W ∧ W.heap.size = w.heap.size + 2 := by
  rintro W rfl
  refine ⟨(Two.made w 24 a b).alloc _, ?_, below_al (below_al (Below.refl _ _) _) _, by simp⟩
  have := Two.made (w.alloc (.cells #[a, b] 24)) 30 a' b'
  simpa using this
theorem own_belowR {w w' : World} {base e n : Nat} {v : Value} {xs : List Value} (h : w.ownsRow base e 1 v n xs) (hb : Below w.heap.size w w') : w'.ownsRow base e 1 v n xs := by
  have hg : w.grownBy w' none := ⟨hb.os, hb.tape, hb.output, hb.size, fun k hk _ => hb.block k hk⟩
  refine h.kept hg ?_
  cases hob : v.ownBlock
  · exact .inl rfl
  · exact .inr (by simp)
theorem Bit.of_own {w : World} {base d : Nat} {B : Option Addr} {bs : List Nat} (h : w.ownsRow base 5 1 (.slice B bs.length d) bs.length (cl .u8 bs)) (h2 : Low 2 bs) : Bit w B bs.length d (val 2 bs) :=
  ⟨bs, Lim.of_own h, h2, rfl, rfl, own_cap h⟩
theorem bit_of (X k : Nat) (hX : X < 4294967296) : bits .and .u32 ((X : Int) / 2 ^ k) 1 = ((X / 2 ^ k % 2 : Nat) : Int) := by
  have e : ((X : Int) / 2 ^ k) = ((X / 2 ^ k : Nat) : Int) := by
    rw [Int.natCast_ediv, Int.natCast_pow]
    rfl
  have h2 : X / 2 ^ k < 4294967296 := Nat.lt_of_le_of_lt (Nat.div_le_self _ _) hX
  have := u32_and_nat (X / 2 ^ k) 1 h2 (by decide)
  rw [e, show (1 : Int) = ((1 : Nat) : Int) from rfl, this, nat_mask1]
set_option maxHeartbeats 3200000 in
theorem refValue (neg : Bool) (A : Option Addr) (n c N : Nat) (w : World) (h : Mag w A n c N) (hl : n ≤ 1000) :
    Calls Tryd.prog 20 #[.agg #[.bool neg, .slice A n c]] w fun e w' => ∃ B d, e = .returned (.agg #[.bool (signB neg N), .slice B (bl N) d]) ∧ Bit w' B (bl N) d N ∧ Below w.heap.size w w' := by
  obtain ⟨W, hW⟩ : ∃ W, W = (w.alloc (.cells #[.bool neg, .slice A n c] 24)).alloc (.cells #[.bool false, .slice none 0 0] 30) := ⟨_, rfl⟩
  obtain ⟨t1, t2, hbW, hWs⟩ := boxes30 w _ _ _ _ W hW
  obtain ⟨xs, x1, x2, x3, x4, x5⟩ := h.below hbW
  have HX2 := Lib.hid x2
  have HX3 := Lib.hid x3
  have HX4 := Lib.hid x4
  clear x2 x3 x4 x5
  go_enter Tryd.func20, Tryd.ntmps20
  go_wp2_with fail
  rw [← hW]
  have HW := Lib.hid hW
  have HWS := Lib.hid hWs
  clear hW hWs h
  go_loopw [3, 4, 5] (fun bv iv _ wr => ∃ (i : Nat) (bs : List Nat) (B : Option Addr) (d : Nat), i ≤ n ∧ iv = .int .i64 i ∧ bv = .slice B bs.length d ∧ wr.ownsRow W.heap.size 5 1 (.slice B bs.length d) bs.length (cl .u8 bs) ∧ Hid (Bv xs i 0 bs) ∧ Below W.heap.size W wr) (fun _ iv _ _ => n - (intOf iv).toNat)
  case atStart => exact ⟨0, [], none, 0, Nat.zero_le _, rfl, rfl, own_nil, Lib.hid (Bv.zero xs), Below.refl _ _⟩
  case round =>
    obtain ⟨i, bs, B, d, hi, rfl, rfl, hown, hB, hbel⟩ := hrel
    have k1 := (t1.below' hbel).fst
    have k2 := (t1.below' hbel).snd
    by_cases hlt : i < n
    · have hxl : i < xs.length := by rw [HX3.out]; exact hlt
      obtain ⟨ad, rfl, hab, cell⟩ := x1.at hxl
      have hx : xs[i] < 4294967296 := HX2.out.at hxl
      obtain ⟨X, hX⟩ : ∃ X, X = xs[i] := ⟨_, rfl⟩
      rw [← hX] at cell hx
      have KX := Lib.hid ((lmb_in hxl).trans hX.symm)
      clear hX
      obtain ⟨wo, hwo⟩ : ∃ wo : World, wo = wr := ⟨_, rfl⟩
      subst hwo
      go_wp2_with fail
      go_loopw [3, 5] (fun bv kv wr => ∃ (k : Nat) (bs : List Nat) (B : Option Addr) (d : Nat), k ≤ 32 ∧ kv = .int .i64 k ∧ bv = .slice B bs.length d ∧ wr.ownsRow W.heap.size 5 1 (.slice B bs.length d) bs.length (cl .u8 bs) ∧ Hid (Bv xs i k bs) ∧ Below W.heap.size W wr) (fun _ kv _ => 32 - (intOf kv).toNat)
      case atStart => exact ⟨0, bs, B, d, by omega, rfl, rfl, hown, hB, hbel⟩
      case round =>
        obtain ⟨k, bs2, B2, d2, hk, rfl, rfl, hown2, hB2, hbel2⟩ := hrel
        have p1 := (t1.below' hbel2).fst
        have p2 := (t1.below' hbel2).snd
        have p3 := (hbel2.cell (p := ad.add i) (by rw [add_block]; exact hab)).trans cell
        have hbl : bs2.length ≤ 40000 := by
          have := hB2.out.1
          omega
        by_cases hk32 : k < 32
        · obtain ⟨D, hD⟩ : ∃ D, D = X / 2 ^ k % 2 := ⟨_, rfl⟩
          have hbit := bit_of X k hx
          rw [← hD] at hbit
          have hD2 : D < 2 := by rw [hD]; exact Nat.mod_lt _ (by decide)
          have h256 : bits .and .u32 ((X : Int) / 2 ^ k) 1 % 256 = (D : Int) := by rw [hbit]; omega
          have HN : Hid (Bv xs i (k + 1) (bs2 ++ [D])) := Lib.hid (by
            have := hB2.out.next
            rwa [KX.out, ← hD] at this)
          clear hD hbit
          go_wp2_with (at_builtin; refine app_any (k := .u8) 28 5 1 Tryd.underlying28 u8_info (by decide) _ rfl _ _ rfl rfl W.heap.size (.slice B2 bs2.length d2) bs2.length _ rfl (hown2.alloc _) _ (some ⟨wr.heap.size, 0, none⟩) 1 1 [D] rfl (one_lim .u8 wr 5 D) (Lib.hid rfl) (by omega) (by have := hbel2.size; simp; omega) ?_; intro v3 w3 hown3 hgr3; refine Hid.out ?_)
          refine Lib.hid ?_
          obtain ⟨B3, d3, rfl⟩ := own_slice hown3
          have hb3 : Below W.heap.size W w3 := (below_al hbel2 _).grown hgr3 (below_al hbel2 _).size (own_ge hown2)
          clear p1 p2 p3 hgr3 h256
          go_wp2
          go_roundw
          case rel => exact ⟨k + 1, bs2 ++ [D], B3, d3, by omega, by go_num, by simp, by simpa using hown3, HN, hb3⟩
          case measure => simp [intOf]; omega
        · obtain rfl : k = 32 := by omega
          have HT : Hid (Bv xs (i + 1) 0 bs2) := Lib.hid (hB2.out.turn (by rw [KX.out]; exact hx))
          go_wp2
          go_roundw
          case rel => exact ⟨i + 1, bs2, B2, d2, by omega, by go_num, rfl, hown2, HT, hbel2⟩
          case measure => simp [intOf]; omega
    · obtain rfl : n = i := by omega
      have hNv : Hid (val 2 bs = N) := Lib.hid (by
        rw [hB.out.2.2, ← HX4.out, lmb_out (by rw [HX3.out]; exact Nat.le_refl _), List.take_of_length_le (by rw [HX3.out]; exact Nat.le_refl _)]
        simp)
      have hbits : Bit wr B bs.length d N := by
        rw [← hNv.out]
        exact Bit.of_own hown hB.out.2.1
      have hlen : bs.length ≤ 40000 := by
        have := hB.out.1
        omega
      have p2 := t2.below' hbel
      have q0 := p2.fst
      have q1 := p2.snd
      have f0 := p2.free 0
      have f1 := p2.free 1
      go_wp2_with (go_at_call 51; refine (value_any neg B bs.length d N _ hbits (by omega)).mono ?_; rintro e w4 ⟨rfl, hb4⟩; have r0 := (p2.below' hb4).fst; have r1 := (p2.below' hb4).snd; have r2 := (p2.below' hb4).free 0; have r3 := (p2.below' hb4).free 1)
      refine bodyPost_ret (v := .agg #[.bool (signB neg N), .slice B (bl N) d]) (by simp [results, Tryd.results20, go_sem, r0, r1]) rfl ⟨B, d, rfl, ?_, below_two (g := w.heap.size + 1) (below_then hbW (below_then hbel hb4)) (by omega)⟩
      have ho := own_two (g := w.heap.size + 1) (a := .bool (signB neg N)) (b := .slice B (bl N) d) (own_mono (own_belowR hown hb4) (by have := HWS.out; omega))
      have := (Bit.of_own ho hB.out.2.1).trim
      rw [hNv.out] at this
      exact this
end Go.Proofs.YtocoflojlliapaaDoor
