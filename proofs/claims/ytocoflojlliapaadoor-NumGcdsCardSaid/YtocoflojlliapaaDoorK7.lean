import Derived.Test.YtocoflojlliapaaDoorK3
import Derived.Deep.LoopGhost
import Derived.Test.YtocoflojlliapaaDoorK6
set_option linter.unusedVariables false
namespace Go.Proofs.YtocoflojlliapaaDoor
open Go.RowKit
/-- how many bits a value needs -/
def bl (N : Nat) : Nat := (digs 2 N).length
/-- the slice at A of n bits comes to N in w -/
def Bit (w : World) (A : Option Addr) (n c N : Nat) : Prop := ∃ xs, Lim .u8 w.heap.size w A xs ∧ Low 2 xs ∧ xs.length = n ∧ val 2 xs = N ∧ n ≤ c
section
variable {w w' : World} {A : Option Addr} {n c N : Nat}
theorem Bit.below (h : Bit w A n c N) (hb : Below w.heap.size w w') : Bit w' A n c N := by
  obtain ⟨xs, h1, h2, h3, h4, h5⟩ := h
  exact ⟨xs, h1.below' hb, h2, h3, h4, h5⟩
theorem Bit.drewN (h : Bit w A n c N) (m : Nat) : Bit (w.drewN m) A n c N := h
theorem Bit.alloc (h : Bit w A n c N) (o : Obj) : Bit (w.alloc o) A n c N := h.below ((Below.refl _ _).alloc (Nat.le_refl _) _)
theorem Bit.trim (h : Bit w A n c N) : Bit w A (bl N) c N := by
  obtain ⟨xs, h1, h2, h3, h4, h5⟩ := h
  have ht : trimL xs = digs 2 N := by rw [← h4]; exact (digs_of (by decide) h2).symm
  refine ⟨trimL xs, h1.trim, ?_, ?_, ?_, ?_⟩
  · rw [ht]
    exact digs_low (by decide) N
  · rw [ht]
    rfl
  · rw [val_trim (by decide) h2, h4]
  · have := trimL_len xs
    rw [ht] at this
    unfold bl
    omega
theorem Bit.list (h : Bit w A (bl N) c N) : Lim .u8 w.heap.size w A (digs 2 N) := by
  obtain ⟨xs, h1, h2, h3, h4, h5⟩ := h
  have ht : trimL xs = digs 2 N := by rw [← h4]; exact (digs_of (by decide) h2).symm
  have e : trimL xs = xs := by
    rw [trimL_take, ht]
    unfold bl at h3
    rw [← h3, List.take_length]
  rw [← ht, e]
  exact h1
theorem Bit.le (h : Bit w A n c N) : bl N ≤ n := by
  obtain ⟨xs, h1, h2, h3, h4, h5⟩ := h
  have ht : trimL xs = digs 2 N := by rw [← h4]; exact (digs_of (by decide) h2).symm
  have := trimL_len xs
  rw [ht, h3] at this
  exact this
theorem Bit.cap (h : Bit w A n c N) : n ≤ c := by
  obtain ⟨xs, h1, h2, h3, h4, h5⟩ := h
  exact h5
theorem Bit.none_ (w : World) : Bit w none 0 0 0 := ⟨[], Lim.empty none, Low.nil, rfl, rfl, Nat.le_refl 0⟩
end
theorem bl_zero : bl 0 = 0 := rfl
theorem bl_pos {N : Nat} (h : N ≠ 0) : 0 < bl N := by
  unfold bl
  rcases hd : digs 2 N with _ | ⟨x, l⟩
  · exact absurd ((digs_nil (by decide)).1 hd) h
  · simp
theorem bl_le (N k : Nat) : bl N ≤ k ↔ N < 2 ^ k := digs_len_le (by decide) N k
theorem bl_mono {m n : Nat} (h : m ≤ n) : bl m ≤ bl n := digs_len_mono (by decide) h
set_option maxHeartbeats 400000 in
theorem cut_at (A : Option Addr) (xs : List Nat) (n c : Nat) (B : Nat) (w : World) (hn : Hid (xs.length = n)) (hx : Lim .u8 B w A xs) (hc : n ≤ c) (hl : n ≤ 1000000) :
    Calls Tryd.prog 78 #[.slice A n c] w fun e w' => e = .returned (.slice A (trimL xs).length c) ∧ w = w' := by
  go_enter Tryd.func78, Tryd.ntmps78
  go_wp2
  go_loop [3] (fun l => ∃ k : Nat, k ≤ n ∧ l = .int .i64 k ∧ Hid (trimL (xs.take k) = trimL xs)) (fun l => (intOf l).toNat)
  case atStart => exact ⟨n, Nat.le_refl _, rfl, Lib.hid (by rw [List.take_of_length_le (by rw [hn.out]; exact Nat.le_refl _)])⟩
  case round =>
    obtain ⟨k, hk, rfl, HT⟩ := hrel
    by_cases h0 : k = 0
    · have hkz : (k : Int) ≤ 0 := by omega
      have e : Hid ((trimL xs).length = k) := Lib.hid (by rw [← HT.out, h0]; rfl)
      clear h0
      go_wp2
      go_ret
      rw [e.out]
      exact ⟨rfl, rfl⟩
    · have hp : k - 1 < xs.length := by rw [hn.out]; omega
      obtain ⟨ad, rfl, hb, hcell⟩ := hx.at (i := k - 1) hp
      have e : Hid (xs.take k = xs.take (k - 1) ++ [xs[k - 1]]) := Lib.hid (by rw [← take_snoc xs (k - 1) hp, show k - 1 + 1 = k by omega])
      by_cases hz : xs[k - 1] = 0
      · rw [hz] at hcell
        have HZ := Lib.hid hz
        clear hz
        go_wp2
        go_round
        case rel => exact ⟨k - 1, by omega, by go_num, Lib.hid (by rw [← HT.out, e.out, HZ.out, trimL_zero])⟩
        case measure => simp [intOf]; omega
      · have HL : Hid ((trimL xs).length = k) := Lib.hid (by
          rw [← HT.out, e.out, trimL_last hz, ← e.out, List.length_take, Nat.min_eq_left (by rw [hn.out]; exact hk)])
        obtain ⟨X, hX⟩ : ∃ X, X = xs[k - 1] := ⟨_, rfl⟩
        rw [← hX] at hcell hz
        clear hX
        go_wp2
        go_ret
        rw [HL.out]
        exact ⟨rfl, rfl⟩
theorem cut_bit (A : Option Addr) (n c N : Nat) (w : World) (h : Bit w A n c N) (hl : n ≤ 1000000) :
    Calls Tryd.prog 78 #[.slice A n c] w fun e w' => e = .returned (.slice A (bl N) c) ∧ w = w' := by
  obtain ⟨xs, h1, h2, h3, h4, h5⟩ := h
  have := cut_at A xs n c _ w (Lib.hid h3) h1 h5 hl
  have ht : trimL xs = digs 2 N := by rw [← h4]; exact (digs_of (by decide) h2).symm
  rw [ht] at this
  exact this
set_option maxHeartbeats 800000 in
theorem value_any (neg : Bool) (A : Option Addr) (n c N : Nat) (w : World) (h : Bit w A n c N) (hl : n ≤ 1000000) :
    Calls Tryd.prog 51 #[.bool neg, .slice A n c] w fun e w' => e = .returned (.agg #[.bool (signB neg N), .slice A (bl N) c]) ∧ Below w.heap.size w w' := by
  have hm := h.alloc (.cells #[.bool false, .slice none 0 0] 30)
  by_cases h0 : N = 0
  · subst h0
    have hd : (bl 0 : Int) ≤ 0 := by rw [bl_zero]; exact Int.le_refl 0
    have F := Lib.hid (signB_zero neg)
    cases neg
    all_goals
      go_enter Tryd.func51, Tryd.ntmps51
      go_wp2_with (go_at_call 78; refine (cut_bit A n c 0 _ hm hl).mono ?_; rintro e w' ⟨rfl, rfl⟩)
      exact bodyPost_ret (v := .agg #[.bool false, .slice A (bl 0) c]) (by simp [results, Tryd.results51, go_sem]; try rfl) rfl ⟨by rw [F.out], (Below.refl _ _).alloc (Nat.le_refl _) _⟩
  · have hp := bl_pos h0
    have F := Lib.hid (signB_pos neg h0)
    cases neg
    all_goals
      go_enter Tryd.func51, Tryd.ntmps51
      go_wp2_with (go_at_call 78; refine (cut_bit A n c N _ hm hl).mono ?_; rintro e w' ⟨rfl, rfl⟩)
      exact bodyPost_ret (v := .agg #[.bool _, .slice A (bl N) c]) (by simp [results, Tryd.results51, go_sem]; try rfl) rfl ⟨by rw [F.out], (Below.refl _ _).alloc (Nat.le_refl _) _⟩
end Go.Proofs.YtocoflojlliapaaDoor
set_option linter.unusedVariables false
namespace Go.Proofs.YtocoflojlliapaaDoor
open Go.RowKit
/-- the bits by now -/
def Bv (xs : List Nat) (i k : Nat) (bs : List Nat) : Prop := bs.length = 32 * i + k ∧ Low 2 bs ∧ val 2 bs = val 4294967296 (xs.take i) + 4294967296 ^ i * (lmb xs i % 2 ^ k)
theorem Bv.zero (xs : List Nat) : Bv xs 0 0 [] := ⟨rfl, Low.nil, by simp [val, Nat.mod_one]⟩
theorem pow32 (i : Nat) : (2 : Nat) ^ (32 * i) = 4294967296 ^ i := by rw [Nat.pow_mul]
theorem Bv.next {xs bs : List Nat} {i k : Nat} (h : Bv xs i k bs) : Bv xs i (k + 1) (bs ++ [lmb xs i / 2 ^ k % 2]) := by
  obtain ⟨h1, h2, h3⟩ := h
  refine ⟨by simp [h1]; omega, h2.append (Low.cons (Nat.mod_lt _ (by decide)) Low.nil), ?_⟩
  rw [val_snoc, h3, h1, Nat.pow_add, pow32, Nat.mod_pow_succ]
  grind
theorem Bv.turn {xs bs : List Nat} {i : Nat} (h : Bv xs i 32 bs) (hx : lmb xs i < 4294967296) : Bv xs (i + 1) 0 bs := by
  obtain ⟨h1, h2, h3⟩ := h
  refine ⟨by omega, h2, ?_⟩
  rw [h3, val_take_lmb, Nat.mod_eq_of_lt (show lmb xs i < 2 ^ 32 by simpa using hx)]
  simp [Nat.mod_one]
theorem boxes30 (w : World) (a b a' b' : Value) : ∀ W, W = (w.alloc (.cells #[a, b] 24)).alloc (.cells #[a', b'] 30) →
    Two W w.heap.size 24 a b ∧ Two W (w.heap.size + 1) 30 a' b' ∧ Below w.heap.size w W ∧ W.heap.size = w.heap.size + 2 := by
  rintro W rfl
  refine ⟨(Two.made w 24 a b).alloc _, ?_, below_al (below_al (Below.refl _ _) _) _, by simp⟩
  have := Two.made (w.alloc (.cells #[a, b] 24)) 30 a' b'
  simpa using this
theorem own_belowR {w w' : World} {base e n : Nat} {v : Value} {xs : List Value} (h : w.ownsRow base e 1 v n xs) (hb : Below w.heap.size w w') : w'.ownsRow base e 1 v n xs := by
  have hg : w.grownBy w' none := ⟨hb.os, hb.tape, hb.output, hb.size, fun k hk _ => hb.block k hk⟩
  refine h.kept hg ?_
  cases hob : v.ownBlock
  · exact .inl rfl
  · exact .inr (by simp)
theorem Bit.of_own {w : World} {base d : Nat} {B : Option Addr} {bs : List Nat} (h : w.ownsRow base 5 1 (.slice B bs.length d) bs.length (cl .u8 bs)) (h2 : Low 2 bs) : Bit w B bs.length d (val 2 bs) :=
  ⟨bs, Lim.of_own h, h2, rfl, rfl, own_cap h⟩
theorem bit_of (X k : Nat) (hX : X < 4294967296) : bits .and .u32 ((X : Int) / 2 ^ k) 1 = ((X / 2 ^ k % 2 : Nat) : Int) := by
  have e : ((X : Int) / 2 ^ k) = ((X / 2 ^ k : Nat) : Int) := by
    rw [Int.natCast_ediv, Int.natCast_pow]
    rfl
  have h2 : X / 2 ^ k < 4294967296 := Nat.lt_of_le_of_lt (Nat.div_le_self _ _) hX
  have := u32_and_nat (X / 2 ^ k) 1 h2 (by decide)
  rw [e, show (1 : Int) = ((1 : Nat) : Int) from rfl, this, nat_mask1]
set_option maxHeartbeats 3200000 in
theorem refValue (neg : Bool) (A : Option Addr) (n c N : Nat) (w : World) (h : Mag w A n c N) (hl : n ≤ 1000) :
    Calls Tryd.prog 20 #[.agg #[.bool neg, .slice A n c]] w fun e w' => ∃ B d, e = .returned (.agg #[.bool (signB neg N), .slice B (bl N) d]) ∧ Bit w' B (bl N) d N ∧ Below w.heap.size w w' := by
  obtain ⟨W, hW⟩ : ∃ W, W = (w.alloc (.cells #[.bool neg, .slice A n c] 24)).alloc (.cells #[.bool false, .slice none 0 0] 30) := ⟨_, rfl⟩
  obtain ⟨t1, t2, hbW, hWs⟩ := boxes30 w _ _ _ _ W hW
  obtain ⟨xs, x1, x2, x3, x4, x5⟩ := h.below hbW
  have HX2 := Lib.hid x2
  have HX3 := Lib.hid x3
  have HX4 := Lib.hid x4
  clear x2 x3 x4 x5
  go_enter Tryd.func20, Tryd.ntmps20
  go_wp2_with fail
  rw [← hW]
  have HW := Lib.hid hW
  have HWS := Lib.hid hWs
  clear hW hWs h
  go_loopw [3, 4, 5] (fun bv iv _ wr => ∃ (i : Nat) (bs : List Nat) (B : Option Addr) (d : Nat), i ≤ n ∧ iv = .int .i64 i ∧ bv = .slice B bs.length d ∧ wr.ownsRow W.heap.size 5 1 (.slice B bs.length d) bs.length (cl .u8 bs) ∧ Hid (Bv xs i 0 bs) ∧ Below W.heap.size W wr) (fun _ iv _ _ => n - (intOf iv).toNat)
  case atStart => exact ⟨0, [], none, 0, Nat.zero_le _, rfl, rfl, own_nil, Lib.hid (Bv.zero xs), Below.refl _ _⟩
  case round =>
    obtain ⟨i, bs, B, d, hi, rfl, rfl, hown, hB, hbel⟩ := hrel
    have k1 := (t1.below' hbel).fst
    have k2 := (t1.below' hbel).snd
    by_cases hlt : i < n
    · have hxl : i < xs.length := by rw [HX3.out]; exact hlt
      obtain ⟨ad, rfl, hab, cell⟩ := x1.at hxl
      have hx : xs[i] < 4294967296 := HX2.out.at hxl
      obtain ⟨X, hX⟩ : ∃ X, X = xs[i] := ⟨_, rfl⟩
      rw [← hX] at cell hx
      have KX := Lib.hid ((lmb_in hxl).trans hX.symm)
      clear hX
      obtain ⟨wo, hwo⟩ : ∃ wo : World, wo = wr := ⟨_, rfl⟩
      subst hwo
      go_wp2_with fail
      go_loopw [3, 5] (fun bv kv wr => ∃ (k : Nat) (bs : List Nat) (B : Option Addr) (d : Nat), k ≤ 32 ∧ kv = .int .i64 k ∧ bv = .slice B bs.length d ∧ wr.ownsRow W.heap.size 5 1 (.slice B bs.length d) bs.length (cl .u8 bs) ∧ Hid (Bv xs i k bs) ∧ Below W.heap.size W wr) (fun _ kv _ => 32 - (intOf kv).toNat)
      case atStart => exact ⟨0, bs, B, d, by omega, rfl, rfl, hown, hB, hbel⟩
      case round =>
        obtain ⟨k, bs2, B2, d2, hk, rfl, rfl, hown2, hB2, hbel2⟩ := hrel
        have p1 := (t1.below' hbel2).fst
        have p2 := (t1.below' hbel2).snd
        have p3 := (hbel2.cell (p := ad.add i) (by rw [add_block]; exact hab)).trans cell
        have hbl : bs2.length ≤ 40000 := by
          have := hB2.out.1
          omega
        by_cases hk32 : k < 32
        · obtain ⟨D, hD⟩ : ∃ D, D = X / 2 ^ k % 2 := ⟨_, rfl⟩
          have hbit := bit_of X k hx
          rw [← hD] at hbit
          have hD2 : D < 2 := by rw [hD]; exact Nat.mod_lt _ (by decide)
          have h256 : bits .and .u32 ((X : Int) / 2 ^ k) 1 % 256 = (D : Int) := by rw [hbit]; omega
          have HN : Hid (Bv xs i (k + 1) (bs2 ++ [D])) := Lib.hid (by
            have := hB2.out.next
            rwa [KX.out, ← hD] at this)
          clear hD hbit
          go_wp2_with (at_builtin; refine app_any (k := .u8) 28 5 1 Tryd.underlying28 u8_info (by decide) _ rfl _ _ rfl rfl W.heap.size (.slice B2 bs2.length d2) bs2.length _ rfl (hown2.alloc _) _ (some ⟨wr.heap.size, 0, none⟩) 1 1 [D] rfl (one_lim .u8 wr 5 D) (Lib.hid rfl) (by omega) (by have := hbel2.size; simp; omega) ?_; intro v3 w3 hown3 hgr3; refine Hid.out ?_)
          refine Lib.hid ?_
          obtain ⟨B3, d3, rfl⟩ := own_slice hown3
          have hb3 : Below W.heap.size W w3 := (below_al hbel2 _).grown hgr3 (below_al hbel2 _).size (own_ge hown2)
          clear p1 p2 p3 hgr3 h256
          go_wp2
          go_roundw
          case rel => exact ⟨k + 1, bs2 ++ [D], B3, d3, by omega, by go_num, by simp, by simpa using hown3, HN, hb3⟩
          case measure => simp [intOf]; omega
        · obtain rfl : k = 32 := by omega
          have HT : Hid (Bv xs (i + 1) 0 bs2) := Lib.hid (hB2.out.turn (by rw [KX.out]; exact hx))
          go_wp2
          go_roundw
          case rel => exact ⟨i + 1, bs2, B2, d2, by omega, by go_num, rfl, hown2, HT, hbel2⟩
          case measure => simp [intOf]; omega
    · obtain rfl : n = i := by omega
      have hNv : Hid (val 2 bs = N) := Lib.hid (by
        rw [hB.out.2.2, ← HX4.out, lmb_out (by rw [HX3.out]; exact Nat.le_refl _), List.take_of_length_le (by rw [HX3.out]; exact Nat.le_refl _)]
        simp)
      have hbits : Bit wr B bs.length d N := by
        rw [← hNv.out]
        exact Bit.of_own hown hB.out.2.1
      have hlen : bs.length ≤ 40000 := by
        have := hB.out.1
        omega
      have p2 := t2.below' hbel
      have q0 := p2.fst
      have q1 := p2.snd
      have f0 := p2.free 0
      have f1 := p2.free 1
      go_wp2_with (go_at_call 51; refine (value_any neg B bs.length d N _ hbits (by omega)).mono ?_; rintro e w4 ⟨rfl, hb4⟩; have r0 := (p2.below' hb4).fst; have r1 := (p2.below' hb4).snd; have r2 := (p2.below' hb4).free 0; have r3 := (p2.below' hb4).free 1)
      refine bodyPost_ret (v := .agg #[.bool (signB neg N), .slice B (bl N) d]) (by simp [results, Tryd.results20, go_sem, r0, r1]) rfl ⟨B, d, rfl, ?_, below_two (g := w.heap.size + 1) (below_then hbW (below_then hbel hb4)) (by omega)⟩
      have ho := own_two (g := w.heap.size + 1) (a := .bool (signB neg N)) (b := .slice B (bl N) d) (own_mono (own_belowR hown hb4) (by have := HWS.out; omega))
      have := (Bit.of_own ho hB.out.2.1).trim
      rw [hNv.out] at this
      exact this
end Go.Proofs.YtocoflojlliapaaDoor
set_option linter.unusedVariables false
namespace Go.Proofs.YtocoflojlliapaaDoor
open Go.RowKit
theorem drew2' (w : World) (a b : Nat) : ∃ m, (w.drewN a).drewN b = w.drewN m := ⟨a + b, by rw [World.drewN_drewN]⟩
theorem boxes24 (w : World) (a b a' b' : Value) : ∀ W, W = (w.alloc (.cells #[a, b] 24)).alloc (.cells #[a', b'] 24) →
    Two W w.heap.size 24 a b ∧ Two W (w.heap.size + 1) 24 a' b' ∧ Below w.heap.size w W ∧ W.heap.size = w.heap.size + 2 := by
  rintro W rfl
  refine ⟨(Two.made w 24 a b).alloc _, ?_, below_al (below_al (Below.refl _ _) _) _, by simp⟩
  have := Two.made (w.alloc (.cells #[a, b] 24)) 24 a' b'
  simpa using this
set_option maxHeartbeats 1600000 in
theorem same_yes (neg : Bool) (A1 A2 : Option Addr) (xs : List Nat) (n c1 c2 : Nat) (w : World) (h1 : Lim .u32 w.heap.size w A1 xs) (h2 : Lim .u32 w.heap.size w A2 xs) (hn : Hid (xs.length = n)) (hl : n ≤ 1000000) :
    Calls Tryd.prog 33 #[.agg #[.bool neg, .slice A1 n c1], .agg #[.bool neg, .slice A2 n c2]] w fun e w' => e = .returned (.bool true) ∧ Below w.heap.size w w' := by
  obtain ⟨W, hW⟩ : ∃ W, W = (w.alloc (.cells #[.bool neg, .slice A1 n c1] 24)).alloc (.cells #[.bool neg, .slice A2 n c2] 24) := ⟨_, rfl⟩
  obtain ⟨t1, t2, hbW, _⟩ := boxes24 w _ _ _ _ W hW
  have g1 := h1.below' hbW
  have g2 := h2.below' hbW
  have k1 := t1.fst
  have k2 := t1.snd
  have k3 := t2.fst
  have k4 := t2.snd
  go_enter Tryd.func33, Tryd.ntmps33
  go_wp2_with fail
  rw [← hW]
  have HW := Lib.hid hW
  clear hW h1 h2
  go_loopw [5] (fun i wr => ∃ k m : Nat, k ≤ n ∧ i = .int .i64 k ∧ wr = W.drewN m) (fun i _ => n - (intOf i).toNat)
  case atStart => exact ⟨0, 0, Nat.zero_le _, rfl, rfl⟩
  case round =>
    obtain ⟨k, m, hk, rfl, rfl⟩ := hrel
    by_cases hlt : k < n
    · have hxl : k < xs.length := by rw [hn.out]; exact hlt
      obtain ⟨a1, rfl, _, q1⟩ := g1.at hxl
      obtain ⟨a2, rfl, _, q2⟩ := g2.at hxl
      generalize xs[k] = X at q1 q2
      go_wp2
      go_quiet (fail)
      go_wp2
      go_roundw
      case rel => exact ⟨k + 1, _, by omega, by go_num, rfl⟩
      case measure => simp [intOf]; omega
    · go_wp2
      go_ret
      exact ⟨rfl, below_drewN hbW m⟩
end Go.Proofs.YtocoflojlliapaaDoor
set_option linter.unusedVariables false
namespace Go.Proofs.YtocoflojlliapaaDoor
open Go.RowKit
/-- the limbs by now: of the first i bits -/
def Nm (bs : List Nat) (i : Nat) (ms : List Nat) : Prop := ms.length = (i + 31) / 32 ∧ Low 4294967296 ms ∧ val 4294967296 ms = val 2 (bs.take i)
theorem Nm.zero (bs : List Nat) : Nm bs 0 [] := ⟨rfl, Low.nil, by simp [val]⟩
theorem pow_split (i : Nat) : (2 : Nat) ^ i = 4294967296 ^ (i / 32) * 2 ^ (i % 32) := by
  rw [← pow32, ← Nat.pow_add, Nat.div_add_mod]
theorem Nm.top {bs ms : List Nat} {i : Nat} (h : Nm bs i ms) (hb : Low 2 bs) (hi : i ≤ bs.length) {l : Nat} (hl : ms[i / 32]? = some l) : l < 2 ^ (i % 32) := by
  obtain ⟨h1, h2, h3⟩ := h
  have hlt : i / 32 < ms.length := by
    rcases Nat.lt_or_ge (i / 32) ms.length with h | h
    · exact h
    · rw [List.getElem?_eq_none h] at hl
      cases hl
  have hv : val 2 (bs.take i) < 2 ^ i := by
    have := val_lt (b := 2) (by decide) (hb.take i)
    rwa [List.length_take, Nat.min_eq_left hi] at this
  rw [List.getElem?_eq_getElem hlt] at hl
  injection hl with hl
  have h4 := val_take_drop 4294967296 ms (i / 32) (by omega)
  rw [List.drop_eq_getElem_cons hlt, hl] at h4
  simp only [val] at h4
  rw [← h3, pow_split] at hv
  have h5 : 4294967296 ^ (i / 32) * l < 4294967296 ^ (i / 32) * 2 ^ (i % 32) := by
    rw [Nat.mul_add] at h4
    omega
  exact Nat.lt_of_mul_lt_mul_left h5
/-- a limb more, of nought, where one begins -/
theorem Nm.more {bs ms : List Nat} {i : Nat} (h : Nm bs i ms) (h0 : i % 32 = 0) : (ms ++ [0]).length = i / 32 + 1 ∧ Low 4294967296 (ms ++ [0]) ∧ val 4294967296 (ms ++ [0]) = val 2 (bs.take i) ∧ (ms ++ [0])[i / 32]? = some 0 := by
  obtain ⟨h1, h2, h3⟩ := h
  have hl : ms.length = i / 32 := by omega
  refine ⟨by simp [hl], h2.append (Low.cons (by decide) Low.nil), by rw [val_snoc, h3]; simp, ?_⟩
  rw [List.getElem?_append_right (by omega), hl]
  simp
/-- a bit more -/
theorem Nm.bit {bs ms : List Nat} {i l : Nat} (h1 : ms.length = i / 32 + 1) (h2 : Low 4294967296 ms) (h3 : val 4294967296 ms = val 2 (bs.take i)) (hl : ms[i / 32]? = some l) (hlt : l < 2 ^ (i % 32)) (hi : i < bs.length) (hb : bs[i] = 1) :
    Nm bs (i + 1) (ms.set (i / 32) (l + 2 ^ (i % 32))) ∧ l + 2 ^ (i % 32) < 4294967296 := by
  have h5 : (2 : Nat) ^ (i % 32) ≤ 2 ^ 31 := Nat.pow_le_pow_right (by decide) (by omega)
  have h6 : l + 2 ^ (i % 32) < 4294967296 := by
    have : (2 : Nat) ^ 31 = 2147483648 := by decide
    omega
  refine ⟨⟨by simp [h1]; omega, h2.set h6, ?_⟩, h6⟩
  have hk : i / 32 < ms.length := by omega
  have hv := val_set 4294967296 ms (i / 32) (l + 2 ^ (i % 32)) hk
  rw [List.getD_eq_getElem?_getD, hl, Option.getD_some, Nat.mul_add, ← pow_split, h3] at hv
  rw [val_take_succ 2 bs i hi, hb]
  omega
theorem Nm.nobit {bs ms : List Nat} {i : Nat} (h1 : ms.length = i / 32 + 1) (h2 : Low 4294967296 ms) (h3 : val 4294967296 ms = val 2 (bs.take i)) (hi : i < bs.length) (hb : bs[i] = 0) : Nm bs (i + 1) ms := by
  refine ⟨by omega, h2, ?_⟩
  rw [val_take_succ 2 bs i hi, hb, h3]
  simp
theorem Nm.same {bs ms : List Nat} {i : Nat} (h : Nm bs i ms) (h0 : i % 32 ≠ 0) : ms.length = i / 32 + 1 := by
  have := h.1
  omega
/-- at the end the limbs are the value's -/
theorem Nm.done {ms : List Nat} {N : Nat} (h : Nm (digs 2 N) (digs 2 N).length ms) : ms = digs 4294967296 N := by
  obtain ⟨h1, h2, h3⟩ := h
  rw [List.take_length, digs_val (by decide)] at h3
  have h4 : trimL ms = digs 4294967296 N := by rw [← digs_of (by decide) h2, h3]
  have h5 : ms.length ≤ (digs 4294967296 N).length := by
    by_cases hN : N = 0
    · subst hN
      simp [digs_zero] at h1 ⊢
      omega
    · rcases Nat.lt_or_ge (digs 4294967296 N).length ms.length with h | h
      · exfalso
        have h6 := digs_lt_pow (b := 4294967296) (by decide) N
        have h7 := digs_pow (b := 2) (by decide) N hN
        rw [← pow32] at h6
        have h8 : (2 : Nat) ^ (32 * (digs 4294967296 N).length) ≤ 2 ^ ((digs 2 N).length - 1) := Nat.pow_le_pow_right (by decide) (by omega)
        omega
      · exact h
  have h9 := trimL_take ms
  rw [h4, List.take_of_length_le h5] at h9
  exact h9.symm
end Go.Proofs.YtocoflojlliapaaDoor
set_option linter.unusedVariables false
namespace Go.Proofs.YtocoflojlliapaaDoor
open Go.RowKit
theorem boxesN (w : World) (a b a' b' : Value) : ∀ W, W = (w.alloc (.cells #[a, b] 30)).alloc (.cells #[a', b'] 24) →
    Two W w.heap.size 30 a b ∧ Two W (w.heap.size + 1) 24 a' b' ∧ Below w.heap.size w W ∧ W.heap.size = w.heap.size + 2 := by
  rintro W rfl
  refine ⟨(Two.made w 30 a b).alloc _, ?_, below_al (below_al (Below.refl _ _) _) _, by simp⟩
  have := Two.made (w.alloc (.cells #[a, b] 30)) 24 a' b'
  simpa using this
theorem Two.set1 {w : World} {g : Nat} {t : TypeId} {a b b' : Value} (h : Two w g t a b) : Two (w.setCell ⟨g, 1, none⟩ b') g t a b' := by
  unfold Two at h ⊢
  simp [World.setCell, Array.getElem?_modify, h]
theorem Two.far {w : World} {g : Nat} {t : TypeId} {a b : Value} (h : Two w g t a b) {p : Addr} (hp : g ≠ p.block) (u : Value) : Two (w.setCell p u) g t a b := (Below.heap_setCell w p u g hp).trans h
/-- the number that is put together: its block, its limbs, what stood below -/
def Put (W w : World) (nb : Nat) (neg : Bool) (v : Value) (ms : List Nat) : Prop := Two w nb 24 (.bool neg) v ∧ w.ownsRow (nb + 1) 43 1 v ms.length (cl .u32 ms) ∧ Below W.heap.size W w
theorem Put.field {W w : World} {nb : Nat} {neg : Bool} {x v : Value} {ms : List Nat} (hT : Two w nb 24 (.bool neg) x) (ho : w.ownsRow (nb + 1) 43 1 v ms.length (cl .u32 ms)) (hb : Below W.heap.size W w) (hn : W.heap.size ≤ nb) : Put W (w.setCell ⟨nb, 1, none⟩ v) nb neg v ms :=
  ⟨hT.set1, ownsRow_setCell_below ho (a := ⟨nb, 1, none⟩) (Nat.lt_succ_self nb) v, hb.setCell (p := ⟨nb, 1, none⟩) hn v⟩
theorem Put.limb {W w : World} {nb g L cp : Nat} {neg : Bool} {ms : List Nat} (h : Put W w nb neg (.slice (some ⟨g, 0, none⟩) L cp) ms) (hL : ms.length = L) (hg : nb + 1 ≤ g) (hn : W.heap.size ≤ nb) (q Z : Nat) :
    Put W (w.setCell ⟨g, q, none⟩ (.int .u32 Z)) nb neg (.slice (some ⟨g, 0, none⟩) L cp) (ms.set q Z) := by
  subst hL
  obtain ⟨h1, h2, h3⟩ := h
  refine ⟨h1.far (p := ⟨g, q, none⟩) (by simp; omega) _, ?_, h3.setCell (p := ⟨g, q, none⟩) (by simp; omega) _⟩
  have := (h2.stored q (.int .u32 Z)).1
  have e : cl .u32 (ms.set q Z) = (cl .u32 ms).set q (.int .u32 Z) := by simp [cl, List.map_set, nv]
  rw [e, List.length_set]
  exact this
theorem Put.drew {W w : World} {nb : Nat} {neg : Bool} {v : Value} {ms : List Nat} (h : Put W w nb neg v ms) : Put W w.drew nb neg v ms := ⟨h.1, h.2.1.drew, h.2.2.drew⟩
theorem or_pow (l r : Nat) (hr : r < 32) (hl : l < 2 ^ r) : bits .or .u32 (l : Int) (2 ^ r % 4294967296) = ((l + 2 ^ r : Nat) : Int) := by
  have h1 : (2 : Nat) ^ r ≤ 2 ^ 31 := Nat.pow_le_pow_right (by decide) (by omega)
  have h2 : (2 : Nat) ^ 31 = 2147483648 := by decide
  have e : ((2 : Int) ^ r % 4294967296) = ((2 ^ r : Nat) : Int) := by
    have : ((2 : Int) ^ r) = ((2 ^ r : Nat) : Int) := by rw [Int.natCast_pow]; rfl
    rw [this]
    omega
  rw [e, u32_or_nat l (2 ^ r) (by omega) (by omega), Nat.or_comm, nat_join r (2 ^ r) l (Nat.mod_self _) hl, Nat.add_comm]
set_option maxHeartbeats 6400000 in
theorem refNum_yes (neg : Bool) (A : Option Addr) (c N : Nat) (w : World) (h : Bit w A (bl N) c N) (hl : bl N ≤ 1536) :
    Calls Tryd.prog 53 #[.agg #[.bool neg, .slice A (bl N) c]] w fun e w' => ∃ B d, e = .returned (.tuple #[.agg #[.bool neg, .slice B (dl N) d], .int .i64 0]) ∧ Fresh w w' B d N := by
  obtain ⟨W, hW⟩ : ∃ W, W = (w.alloc (.cells #[.bool neg, .slice A (bl N) c] 30)).alloc (.cells #[.bool false, .slice none 0 0] 24) := ⟨_, rfl⟩
  obtain ⟨t1, t2, hbW, hWs⟩ := boxesN w _ _ _ _ W hW
  have x1 := (h.below hbW).list
  obtain ⟨bs, hbs⟩ : ∃ bs, bs = digs 2 N := ⟨_, rfl⟩
  have hlow : Hid (Low 2 bs) := Lib.hid (by rw [hbs]; exact digs_low (by decide) N)
  have hlen : Hid (bs.length = bl N) := Lib.hid (by rw [hbs]; rfl)
  rw [← hbs] at x1
  have HBS := Lib.hid hbs
  clear hbs
  obtain ⟨n, hn⟩ : ∃ n, n = bl N := ⟨_, rfl⟩
  rw [← hn] at hl hlen t1 ⊢
  rw [← hn] at hW
  have HN := Lib.hid hn
  clear hn h
  go_enter Tryd.func53, Tryd.ntmps53
  go_wp2_with fail
  rw [← hW]
  have HW := Lib.hid hW
  clear hW
  have hV0 : Two (W.alloc (.cells #[.bool neg, .slice none 0 0] 24)) (w.heap.size + 1 + 1) 24 (.bool neg) (.slice none 0 0) := by
    have := Two.made W 24 (.bool neg) (.slice none 0 0)
    rwa [hWs] at this
  have HWS := Lib.hid hWs
  clear hWs
  go_loopw [5] (fun iv wr => ∃ (i : Nat) (ms : List Nat) (B : Option Addr) (d : Nat), i ≤ n ∧ iv = .int .i64 i ∧ Two wr (w.heap.size + 1 + 1) 24 (.bool neg) (.slice B ms.length d) ∧ wr.ownsRow (w.heap.size + 1 + 1 + 1) 43 1 (.slice B ms.length d) ms.length (cl .u32 ms) ∧ Hid (Nm bs i ms) ∧ Below W.heap.size W wr) (fun iv _ => n - (intOf iv).toNat)
  case atStart => exact ⟨0, [], none, 0, Nat.zero_le _, rfl, hV0, own_nil, Lib.hid (Nm.zero bs), below_al (Below.refl _ _) _⟩
  case round =>
    obtain ⟨i, ms, B, d, hi, rfl, hT, hown, hNm, hbel⟩ := hrel
    have k1 := (t1.below' hbel).fst
    have k2 := (t1.below' hbel).snd
    have j1 := hT.fst
    have j2 := hT.snd
    have j3 := hT.free 0
    have j4 := hT.free 1
    by_cases hlt : i < n
    · have hxl : i < bs.length := by rw [hlen.out]; exact hlt
      obtain ⟨ad, rfl, hab, cellW⟩ := x1.at hxl
      have cell := (hbel.cell (p := ad.add i) (by rw [add_block]; exact hab)).trans cellW
      have hml : ms.length ≤ 100 := by
        have := hNm.out.1
        omega
      obtain ⟨r, hr⟩ : ∃ r, r = i % 32 := ⟨_, rfl⟩
      obtain ⟨q, hq⟩ : ∃ q, q = i / 32 := ⟨_, rfl⟩
      have er : (i : Int) % 32 = r := by omega
      have eq : (i : Int) / 32 = q := by omega
      have hr32 : r < 32 := by omega
      have hq100 : q ≤ 100 := by omega
      have KR := Lib.hid hr
      have KQ := Lib.hid hq
      clear hr hq
      have hbit : bs[i] = 0 ∨ bs[i] = 1 := by
        have := hlow.out.at hxl
        omega
      have hsz := hbel.size
      by_cases h0 : r = 0
      · have e0 : ((r : Int) == 0) = true := by rw [h0]; rfl
        have HM := Lib.hid (hNm.out.more (by rw [← KR.out]; exact h0))
        have H0 := Lib.hid h0
        clear h0
        go_wp2_with (at_builtin; refine app_any (k := .u32) 22 43 4 Tryd.underlying22 u32_info (by decide) _ rfl _ _ rfl rfl (w.heap.size + 1 + 1 + 1) (.slice B ms.length d) ms.length _ rfl (hown.alloc _) _ (some ⟨wr.heap.size, 0, none⟩) 1 1 [0] rfl (one_lim .u32 wr 43 0) (Lib.hid rfl) (by omega) (by have := hT.lt; simp; omega) ?_; intro v3 w3 hown3 hgr3; refine Hid.out ?_)
        refine Lib.hid ?_
        obtain ⟨g, cp, rfl, hg, hg2⟩ := hown3.form (by omega)
        have hT3 : Two w3 (w.heap.size + 1 + 1) 24 (.bool neg) (.slice B ms.length d) := (hT.alloc _).grown hgr3 (fun e => by have := own_ge hown _ e.symm; omega)
        have hbel3 : Below W.heap.size W w3 := (below_al hbel _).grown hgr3 (by have := hbel.size; simp; omega) (fun k hk => by have := own_ge hown _ hk; have := HWS.out; omega)
        have cell3 := (hbel3.cell (p := ad.add i) (by rw [add_block]; exact hab)).trans cellW
        have p1 := (t1.below' hbel3).fst
        have p2 := (t1.below' hbel3).snd
        have p3 := hT3.fst
        have p4 := hT3.snd
        have p5 := hT3.free 0
        have p6 := hT3.free 1
        have hlast : w3.cell? ⟨g, q, none⟩ = some (.int .u32 0) := by
          rw [hown3.cellAt q (by have := HM.out.1; simp at this; have := KQ.out; omega), cl_at, KQ.out, HM.out.2.2.2]
          rfl
        have hfz : w3.frozen? ⟨g, q, none⟩ = false := hown3.frozenAt q
        have hgn : g ≠ w.heap.size + 1 + 1 := by omega
        have s1 : ∀ v : Value, (w3.setCell ⟨w.heap.size + 1 + 1, 1, none⟩ v).cell? (ad.add i) = some (.int .u8 bs[i]) := fun v => (World.cell?_setCell_other w3 _ _ v (fun e => by have := congrArg Addr.block e; rw [add_block] at this; simp at this; have := HWS.out; omega)).trans cell3
        have s2 : ∀ v : Value, (w3.setCell ⟨w.heap.size + 1 + 1, 1, none⟩ v).cell? ⟨g, q, none⟩ = some (.int .u32 0) := fun v => (World.cell?_setCell_other w3 _ _ v (fun e => by have := congrArg Addr.block e; simp at this; omega)).trans hlast
        have hq1 : q < ms.length + 1 := by have := HM.out.1; simp at this; have := KQ.out; omega
        clear k1 k2 j1 j2 j3 j4 cell hgr3
        have hPut : Put W (w3.setCell ⟨w.heap.size + 1 + 1, 1, none⟩ (.slice (some ⟨g, 0, none⟩) (ms.length + 1) cp)) (w.heap.size + 1 + 1) neg (.slice (some ⟨g, 0, none⟩) (ms.length + 1) cp) (ms ++ [0]) := Put.field hT3 (by simpa using hown3) hbel3 (by have := HWS.out; omega)
        have HPut := Lib.hid hPut
        clear hPut
        rcases hbit with hb | hb
        · have HNN := Lib.hid (Nm.nobit HM.out.1 HM.out.2.1 HM.out.2.2.1 hxl hb)
          rw [hb] at s1
          clear cell3 hown hown3
          go_wp2
          go_roundw
          case rel => exact ⟨i + 1, ms ++ [0], _, _, by omega, by go_num, by simpa using HPut.out.1, by simpa using HPut.out.2.1, HNN, HPut.out.2.2⟩
          case measure => simp [intOf]; omega
        · have hor := or_pow 0 r hr32 (Nat.two_pow_pos r)
          obtain ⟨Z, hZ⟩ : ∃ Z, Z = 0 + 2 ^ r := ⟨_, rfl⟩
          rw [← hZ] at hor
          have hz0 : ((0 : Nat) : Int) = 0 := rfl
          rw [hz0] at hor
          have HNN : Hid (Nm bs (i + 1) ((ms ++ [0]).set q Z)) := Lib.hid (by
            rw [hZ, KQ.out, KR.out]
            exact (Nm.bit HM.out.1 HM.out.2.1 HM.out.2.2.1 HM.out.2.2.2 (Nat.two_pow_pos _) hxl hb).1)
          rw [hb] at s1
          clear cell3 hown hown3 hZ hz0
          go_wp2_with fail
          go_region
          go_wp2
          have HP2 := (HPut.out.limb (by simp) hg (by have := HWS.out; omega) q Z).drew
          go_roundw
          case rel => exact ⟨i + 1, (ms ++ [0]).set q Z, _, _, by omega, by go_num, by simpa using HP2.1, by simpa using HP2.2.1, HNN, HP2.2.2⟩
          case measure => simp [intOf]; omega
      · have e0 : ((r : Int) == 0) = false := beq_eq_false_iff_ne.2 (by omega)
        have HL : Hid (ms.length = i / 32 + 1) := Lib.hid (hNm.out.same (by rw [← KR.out]; exact h0))
        have hqm : q < ms.length := by rw [HL.out, KQ.out]; omega
        have H0 := Lib.hid h0
        clear h0
        obtain ⟨g, cp, hBe, hg, hg2⟩ := hown.form (by omega)
        injection hBe with hB1 _ hB3
        subst hB1 hB3
        have hel : ms[q]? = some (ms[q]) := List.getElem?_eq_getElem hqm
        obtain ⟨l, hle⟩ : ∃ l, l = ms[q] := ⟨_, rfl⟩
        rw [← hle] at hel
        have hlast : wr.cell? ⟨g, q, none⟩ = some (.int .u32 l) := by
          rw [hown.cellAt q (by omega), cl_at, hel]
          rfl
        have HEL : Hid (ms[i / 32]? = some l) := Lib.hid (by rw [← KQ.out]; exact hel)
        have hltop : l < 2 ^ (i % 32) := hNm.out.top hlow.out (Nat.le_of_lt hxl) HEL.out
        clear hel hle
        have hfz : wr.frozen? ⟨g, q, none⟩ = false := hown.frozenAt q
        have hgn : g ≠ w.heap.size + 1 + 1 := by omega
        have HPut : Hid (Put W wr (w.heap.size + 1 + 1) neg (.slice (some ⟨g, 0, none⟩) ms.length d) ms) := Lib.hid ⟨hT, hown, hbel⟩
        rcases hbit with hb | hb
        · have HNN := Lib.hid (Nm.nobit HL.out hNm.out.2.1 hNm.out.2.2 hxl hb)
          rw [hb] at cell
          clear hown hlast hltop
          go_wp2
          go_roundw
          case rel => exact ⟨i + 1, ms, _, _, by omega, by go_num, HPut.out.1, HPut.out.2.1, HNN, HPut.out.2.2⟩
          case measure => simp [intOf]; omega
        · have hor := or_pow l r hr32 (by rw [KR.out]; exact hltop)
          obtain ⟨Z, hZ⟩ : ∃ Z, Z = l + 2 ^ r := ⟨_, rfl⟩
          rw [← hZ] at hor
          have HNN : Hid (Nm bs (i + 1) (ms.set q Z)) := Lib.hid (by
            rw [hZ, KQ.out, KR.out]
            exact (Nm.bit HL.out hNm.out.2.1 hNm.out.2.2 HEL.out hltop hxl hb).1)
          rw [hb] at cell
          clear hown hZ hltop
          go_wp2_with fail
          go_region
          go_wp2
          have HP2 := (HPut.out.limb rfl hg (by have := HWS.out; omega) q Z).drew
          go_roundw
          case rel => exact ⟨i + 1, ms.set q Z, _, _, by omega, by go_num, by simpa using HP2.1, by simpa using HP2.2.1, HNN, HP2.2.2⟩
          case measure => simp [intOf]; omega
    · obtain rfl : n = i := by omega
      have hms : Hid (ms = digs 4294967296 N) := Lib.hid (by
        have h1 := hNm.out
        have h2 := hlen.out
        rw [← h2, HBS.out] at h1
        exact h1.done)
      have hml : Hid (ms.length = dl N) := Lib.hid (by rw [hms.out]; rfl)
      rw [hml.out] at hT hown j2
      have u1 := (t2.below' hbel)
      have u2 := u1.fst
      have u3 := u1.snd
      have u4 := u1.free 0
      have u5 := u1.free 1
      go_wp2
      have hr := u1.set2 (a' := .bool neg) (b' := .slice B (dl N) d)
      have r0 := hr.fst
      have r1 := hr.snd
      refine bodyPost_ret (v := .tuple #[.agg #[.bool neg, .slice B (dl N) d], .int .i64 0]) (by simp [results, Tryd.results53, go_sem, r0, r1]) rfl ⟨B, d, rfl, ?_, below_two (g := w.heap.size + 1) (below_then hbW hbel) (by omega)⟩
      have ho := own_two (g := w.heap.size + 1) (a := .bool neg) (b := .slice B (dl N) d) (own_mono hown (by omega))
      rw [hms.out] at ho
      exact own_mono ho (by omega)
end Go.Proofs.YtocoflojlliapaaDoor
set_option linter.unusedVariables false
namespace Go.Proofs.YtocoflojlliapaaDoor
open Go.RowKit
set_option maxHeartbeats 1600000 in
theorem refOf_pos (x : Nat) (hx : x ≤ 9223372036854775807) (w : World) :
    Calls Tryd.prog 34 #[.int .i64 x] w fun e w' => ∃ A c, e = .returned (.agg #[.bool (signB false x), .slice A (dl x) c]) ∧ Fresh w w' A c x := by
  have hfit : dl x ≤ 48 := Nat.le_trans ((dl_le x 2).2 (by omega)) (by decide)
  have hbits : bl x ≤ 1536 := Nat.le_trans ((bl_le x 64).2 (by omega)) (by decide)
  obtain ⟨lo, hlo⟩ : ∃ lo, lo = x % 4294967296 := ⟨_, rfl⟩
  obtain ⟨hi, hhi⟩ : ∃ hi, hi = x / 4294967296 := ⟨_, rfl⟩
  have blo : lo < 4294967296 := by omega
  have bhi : hi < 4294967296 := by omega
  have elo : (x : Int) % 4294967296 = lo := by omega
  have ehi : (x : Int) / 4294967296 = hi := by omega
  have HV : Hid (lo + 4294967296 * hi = x) := Lib.hid (by omega)
  clear hlo hhi
  obtain ⟨W, hW⟩ : ∃ W, W = w.alloc (.cells #[.bool false, .slice none 0 0] 24) := ⟨_, rfl⟩
  have hbW : Below w.heap.size w W := by rw [hW]; exact below_al (Below.refl _ _) _
  have hT : Two W w.heap.size 24 (.bool false) (.slice none 0 0) := by rw [hW]; exact Two.made w 24 _ _
  have hWs : W.heap.size = w.heap.size + 1 := by rw [hW]; simp
  have hM := Mag.pair W lo hi blo bhi
  rw [HV.out, hWs] at hM
  have hx0 : ¬ (x : Int) < 0 := by omega
  go_enter Tryd.func34, Tryd.ntmps34
  go_wp2_with fail
  rw [← hW]
  have HW := Lib.hid hW
  have HWS := Lib.hid hWs
  clear hW hWs
  have RV := fun W h => Lib.hid (refValue false (some ⟨w.heap.size + 1, 0, none⟩) 2 2 x W h (by decide))
  refine ((RV _ hM).out).mono ?_
  rintro e w1 ⟨B, d, rfl, m1, b1⟩
  have hb1 : Below W.heap.size W w1 := below_then (below_al (Below.refl _ _) _) b1
  go_wp2_with (go_at_call 53; refine (refNum_yes (signB false x) B d x _ m1 hbits).mono ?_; rintro e w2 ⟨A', c', rfl, hf⟩; refine Hid.out ?_)
  refine Lib.hid ?_
  have hb2 : Below W.heap.size W w2 := below_then hb1 hf.2
  have T2 := hT.below' hb2
  have k2 := T2.fst
  have k3 := T2.snd
  have k4 := T2.free 0
  have k5 := T2.free 1
  have hlt : w.heap.size < w2.heap.size := T2.lt
  go_wp2
  have hr := fun o => (T2.set2 (a' := .bool (signB false x)) (b' := .slice A' (dl x) c')).alloc o
  have r0 := fun o => (hr o).fst
  have r1 := fun o => (hr o).snd
  refine bodyPost_ret (v := .agg #[.bool (signB false x), .slice A' (dl x) c']) (by simp [results, Tryd.results34, go_sem, r0, r1]) rfl
    ⟨A', c', rfl, (hf.two (g := w.heap.size) (below_then hbW hb1) (Nat.le_refl _) (by have := hb1.size; have := HWS.out; omega)).alloc _⟩
set_option maxHeartbeats 1600000 in
theorem refOf_neg (x : Nat) (hx : x ≤ 9223372036854775808) (h0 : 0 < x) (w : World) :
    Calls Tryd.prog 34 #[.int .i64 (-(x : Int))] w fun e w' => ∃ A c, e = .returned (.agg #[.bool (signB true x), .slice A (dl x) c]) ∧ Fresh w w' A c x := by
  have hfit : dl x ≤ 48 := Nat.le_trans ((dl_le x 2).2 (by omega)) (by decide)
  have hbits : bl x ≤ 1536 := Nat.le_trans ((bl_le x 64).2 (by omega)) (by decide)
  obtain ⟨lo, hlo⟩ : ∃ lo, lo = x % 4294967296 := ⟨_, rfl⟩
  obtain ⟨hi, hhi⟩ : ∃ hi, hi = x / 4294967296 := ⟨_, rfl⟩
  have blo : lo < 4294967296 := by omega
  have bhi : hi < 4294967296 := by omega
  have elo : (x : Int) % 4294967296 = lo := by omega
  have ehi : (x : Int) / 4294967296 = hi := by omega
  have HV : Hid (lo + 4294967296 * hi = x) := Lib.hid (by omega)
  clear hlo hhi
  obtain ⟨W, hW⟩ : ∃ W, W = w.alloc (.cells #[.bool false, .slice none 0 0] 24) := ⟨_, rfl⟩
  have hbW : Below w.heap.size w W := by rw [hW]; exact below_al (Below.refl _ _) _
  have hT : Two W w.heap.size 24 (.bool false) (.slice none 0 0) := by rw [hW]; exact Two.made w 24 _ _
  have hWs : W.heap.size = w.heap.size + 1 := by rw [hW]; simp
  have hM := Mag.pair W lo hi blo bhi
  rw [HV.out, hWs] at hM
  have en : IntKind.u64.wrap (-IntKind.u64.wrap (-(x : Int))) = (x : Int) := by rw [IntKind.wrap_u64, IntKind.wrap_u64]; omega
  have hx0 : (-(x : Int)) < 0 := by omega
  go_enter Tryd.func34, Tryd.ntmps34
  go_wp2_with fail
  rw [← hW]
  have HW := Lib.hid hW
  have HWS := Lib.hid hWs
  clear hW hWs
  have RV := fun W h => Lib.hid (refValue true (some ⟨w.heap.size + 1, 0, none⟩) 2 2 x W h (by decide))
  refine ((RV _ hM).out).mono ?_
  rintro e w1 ⟨B, d, rfl, m1, b1⟩
  have hb1 : Below W.heap.size W w1 := below_then (below_al (Below.refl _ _) _) b1
  go_wp2_with (go_at_call 53; refine (refNum_yes (signB true x) B d x _ m1 hbits).mono ?_; rintro e w2 ⟨A', c', rfl, hf⟩; refine Hid.out ?_)
  refine Lib.hid ?_
  have hb2 : Below W.heap.size W w2 := below_then hb1 hf.2
  have T2 := hT.below' hb2
  have k2 := T2.fst
  have k3 := T2.snd
  have k4 := T2.free 0
  have k5 := T2.free 1
  have hlt : w.heap.size < w2.heap.size := T2.lt
  go_wp2
  have hr := fun o => (T2.set2 (a' := .bool (signB true x)) (b' := .slice A' (dl x) c')).alloc o
  have r0 := fun o => (hr o).fst
  have r1 := fun o => (hr o).snd
  refine bodyPost_ret (v := .agg #[.bool (signB true x), .slice A' (dl x) c']) (by simp [results, Tryd.results34, go_sem, r0, r1]) rfl
    ⟨A', c', rfl, (hf.two (g := w.heap.size) (below_then hbW hb1) (Nat.le_refl _) (by have := hb1.size; have := HWS.out; omega)).alloc _⟩
end Go.Proofs.YtocoflojlliapaaDoor
