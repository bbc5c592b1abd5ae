/- The document's value, and where its bits lie. -/
import Derived.Test.YtocoflojlliapaaDoorT2
set_option linter.unusedVariables false
namespace Go.Proofs.YtocoflojlliapaaDoor
open Go.RowKit
set_option maxHeartbeats 3200000 in
theorem refValueF (neg : Bool) (A : Option Addr) (n c N : Nat) (w : World) (h : Mag w A n c N) (hl : n ≤ 1000) :
    Calls Tryd.prog 20 #[.agg #[.bool neg, .slice A n c]] w fun e w' => ∃ B d, e = .returned (.agg #[.bool (signB neg N), .slice B (bl N) d]) ∧ Bit w' B (bl N) d N ∧ Fro w.heap.size B (bl N) ∧ Below w.heap.size w w' := by
  obtain ⟨W, hW⟩ : ∃ W, W = (w.alloc (.cells #[.bool neg, .slice A n c] 24)).alloc (.cells #[.bool false, .slice none 0 0] 30) := ⟨_, rfl⟩
  obtain ⟨t1, t2, hbW, hWs⟩ := boxes30 w _ _ _ _ W hW
  obtain ⟨xs, x1, x2, x3, x4, x5⟩ := h.below hbW
  have HX2 := Lib.hid x2
  have HX3 := Lib.hid x3
  have HX4 := Lib.hid x4
  clear x2 x3 x4 x5
  go_enter Tryd.func20, Tryd.ntmps20
  go_wp2_with fail
  rw [← hW]
  have HW := Lib.hid hW
  have HWS := Lib.hid hWs
  clear hW hWs h
  go_loopw [3, 4, 5] (fun bv iv _ wr => ∃ (i : Nat) (bs : List Nat) (B : Option Addr) (d : Nat), i ≤ n ∧ iv = .int .i64 i ∧ bv = .slice B bs.length d ∧ wr.ownsRow W.heap.size 5 1 (.slice B bs.length d) bs.length (cl .u8 bs) ∧ Hid (Bv xs i 0 bs) ∧ Below W.heap.size W wr) (fun _ iv _ _ => n - (intOf iv).toNat)
  case atStart => exact ⟨0, [], none, 0, Nat.zero_le _, rfl, rfl, own_nil, Lib.hid (Bv.zero xs), Below.refl _ _⟩
  case round =>
    obtain ⟨i, bs, B, d, hi, rfl, rfl, hown, hB, hbel⟩ := hrel
    have k1 := (t1.below' hbel).fst
    have k2 := (t1.below' hbel).snd
    by_cases hlt : i < n
    · have hxl : i < xs.length := by rw [HX3.out]; exact hlt
      obtain ⟨ad, rfl, hab, cell⟩ := x1.at hxl
      have hx : xs[i] < 4294967296 := HX2.out.at hxl
      obtain ⟨X, hX⟩ : ∃ X, X = xs[i] := ⟨_, rfl⟩
      rw [← hX] at cell hx
      have KX := Lib.hid ((lmb_in hxl).trans hX.symm)
      clear hX
      obtain ⟨wo, hwo⟩ : ∃ wo : World, wo = wr := ⟨_, rfl⟩
      subst hwo
      go_wp2_with fail
      go_loopw [3, 5] (fun bv kv wr => ∃ (k : Nat) (bs : List Nat) (B : Option Addr) (d : Nat), k ≤ 32 ∧ kv = .int .i64 k ∧ bv = .slice B bs.length d ∧ wr.ownsRow W.heap.size 5 1 (.slice B bs.length d) bs.length (cl .u8 bs) ∧ Hid (Bv xs i k bs) ∧ Below W.heap.size W wr) (fun _ kv _ => 32 - (intOf kv).toNat)
      case atStart => exact ⟨0, bs, B, d, by omega, rfl, rfl, hown, hB, hbel⟩
      case round =>
        obtain ⟨k, bs2, B2, d2, hk, rfl, rfl, hown2, hB2, hbel2⟩ := hrel
        have p1 := (t1.below' hbel2).fst
        have p2 := (t1.below' hbel2).snd
        have p3 := (hbel2.cell (p := ad.add i) (by rw [add_block]; exact hab)).trans cell
        have hbl : bs2.length ≤ 40000 := by
          have := hB2.out.1
          omega
        by_cases hk32 : k < 32
        · obtain ⟨D, hD⟩ : ∃ D, D = X / 2 ^ k % 2 := ⟨_, rfl⟩
          have hbit := bit_of X k hx
          rw [← hD] at hbit
          have hD2 : D < 2 := by rw [hD]; exact Nat.mod_lt _ (by decide)
          have h256 : bits .and .u32 ((X : Int) / 2 ^ k) 1 % 256 = (D : Int) := by rw [hbit]; omega
          have HN : Hid (Bv xs i (k + 1) (bs2 ++ [D])) := Lib.hid (by
            have := hB2.out.next
            rwa [KX.out, ← hD] at this)
          clear hD hbit
          go_wp2_with (at_builtin; refine app_any (k := .u8) 28 5 1 Tryd.underlying28 u8_info (by decide) _ rfl _ _ rfl rfl W.heap.size (.slice B2 bs2.length d2) bs2.length _ rfl (hown2.alloc _) _ (some ⟨wr.heap.size, 0, none⟩) 1 1 [D] rfl (one_lim .u8 wr 5 D) (Lib.hid rfl) (by omega) (by have := hbel2.size; simp; omega) ?_; intro v3 w3 hown3 hgr3; refine Hid.out ?_)
          refine Lib.hid ?_
          obtain ⟨B3, d3, rfl⟩ := own_slice hown3
          have hb3 : Below W.heap.size W w3 := (below_al hbel2 _).grown hgr3 (below_al hbel2 _).size (own_ge hown2)
          clear p1 p2 p3 hgr3 h256
          go_wp2
          go_roundw
          case rel => exact ⟨k + 1, bs2 ++ [D], B3, d3, by omega, by go_num, by simp, by simpa using hown3, HN, hb3⟩
          case measure => simp [intOf]; omega
        · obtain rfl : k = 32 := by omega
          have HT : Hid (Bv xs (i + 1) 0 bs2) := Lib.hid (hB2.out.turn (by rw [KX.out]; exact hx))
          go_wp2
          go_roundw
          case rel => exact ⟨i + 1, bs2, B2, d2, by omega, by go_num, rfl, hown2, HT, hbel2⟩
          case measure => simp [intOf]; omega
    · obtain rfl : n = i := by omega
      have hNv : Hid (val 2 bs = N) := Lib.hid (by
        rw [hB.out.2.2, ← HX4.out, lmb_out (by rw [HX3.out]; exact Nat.le_refl _), List.take_of_length_le (by rw [HX3.out]; exact Nat.le_refl _)]
        simp)
      have hbits : Bit wr B bs.length d N := by
        rw [← hNv.out]
        exact Bit.of_own hown hB.out.2.1
      have hlen : bs.length ≤ 40000 := by
        have := hB.out.1
        omega
      have p2 := t2.below' hbel
      have q0 := p2.fst
      have q1 := p2.snd
      have f0 := p2.free 0
      have f1 := p2.free 1
      go_wp2_with (go_at_call 51; refine (value_any neg B bs.length d N _ hbits (by omega)).mono ?_; rintro e w4 ⟨rfl, hb4⟩; have r0 := (p2.below' hb4).fst; have r1 := (p2.below' hb4).snd; have r2 := (p2.below' hb4).free 0; have r3 := (p2.below' hb4).free 1)
      refine bodyPost_ret (v := .agg #[.bool (signB neg N), .slice B (bl N) d]) (by simp [results, Tryd.results20, go_sem, r0, r1]) rfl ⟨B, d, rfl, ?_, ((Fro.of_own hown).cut hbits.le).mono (by have := HWS.out; omega), below_two (g := w.heap.size + 1) (below_then hbW (below_then hbel hb4)) (by omega)⟩
      have ho := own_two (g := w.heap.size + 1) (a := .bool (signB neg N)) (b := .slice B (bl N) d) (own_mono (own_belowR hown hb4) (by have := HWS.out; omega))
      have := (Bit.of_own ho hB.out.2.1).trim
      rw [hNv.out] at this
      exact this
theorem refvalF {r : Bool} {A : Option Addr} {n c : Nat} {xs : List Nat} {z : Int} (w : World) (h : Limbs w A n c xs) (hz : sg r (val 4294967296 xs) = z) (hl : n ≤ 1000) :
    Calls Tryd.prog 20 #[.agg #[.bool r, .slice A n c]] w fun e w' => ∃ B d, e = .returned (.agg #[.bool (decide (z < 0)), .slice B (bl z.natAbs) d]) ∧ (Lim .u8 w'.heap.size w' B (digs 2 z.natAbs) ∧ bl z.natAbs ≤ d) ∧ Fro w.heap.size B (bl z.natAbs) ∧ Below w.heap.size w w' := by
  refine (refValueF r A n c _ w h.mag hl).mono fun e w' hq => ?_
  obtain ⟨B, d, rfl, hb, hf, hbel⟩ := hq
  rw [signB_sg hz]
  rw [sg_abs hz] at hb hf ⊢
  exact ⟨B, d, rfl, ⟨hb.list, hb.cap⟩, hf, hbel⟩
theorem turn_b {r : Bool} {B : Option Addr} {m d : Nat} {z : Int} (w : World) (h : BVal w r B m d z) (hm : m ≤ 1000000) :
    Calls Tryd.prog 26 #[.agg #[.bool r, .slice B m d]] w fun e w' => e = .returned (.agg #[.bool (decide (-z < 0)), .slice B m d]) ∧ Below w.heap.size w w' :=
  (turn_any w h hm).mono fun e w' hq => by
    obtain ⟨r', m', rfl, ⟨h1, h2, h3⟩, hb⟩ := hq
    have : m' = m := by rw [h2, h.2.1, Int.natAbs_neg]
    subst this
    subst h1
    exact ⟨rfl, hb⟩
theorem bval_lim {w : World} {B : Option Addr} {d : Nat} {z : Int} (h : Lim .u8 w.heap.size w B (digs 2 z.natAbs)) (hd : bl z.natAbs ≤ d) : BVal w (decide (z < 0)) B (bl z.natAbs) d z :=
  ⟨rfl, rfl, _, h, digs_low (by decide) _, rfl, digs_val (by decide) _, hd⟩
end Go.Proofs.YtocoflojlliapaaDoor
