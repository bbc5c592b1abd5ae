/- The document's greatest number that divides all of a row. -/
import Derived.Test.YtocoflojlliapaaDoorG2
import Derived.Test.YtocoflojlliapaaDoorD2
set_option linter.unusedVariables false
namespace Go.Proofs.YtocoflojlliapaaDoor
open Go.RowKit
/-- a row of values in memory: their magnitudes -/
def Row30 (w : World) (A : Option Addr) (ms : List Nat) : Prop :=
  ∀ i (h : i < ms.length), ∃ ad p q r B m c, A = some ad ∧ ad.add (i * 2) = p ∧ p.add 1 = q ∧ ad.block < w.heap.size ∧ w.cell? p = some (.bool r) ∧ w.cell? q = some (.slice B m c) ∧ m ≤ 1920 ∧ m = bl (ms[i]) ∧ Bit w B m c (ms[i])
theorem Row30.below {w w' : World} {A : Option Addr} {ms : List Nat} (h : Row30 w A ms) (hb : Below w.heap.size w w') : Row30 w' A ms := by
  intro i hi
  obtain ⟨ad, p, q, r, B, m, c, h1, h2, h3, h4, h5, h6, h7, h8, h9⟩ := h i hi
  have e1 : p.block = ad.block := by rw [← h2, add_block]
  have e2 : q.block = ad.block := by rw [← h3, add_block, e1]
  exact ⟨ad, p, q, r, B, m, c, h1, h2, h3, Nat.lt_of_lt_of_le h4 hb.size, (hb.cell (by rw [e1]; exact h4)).trans h5, (hb.cell (by rw [e2]; exact h4)).trans h6, h7, h8, h9.below hb⟩
theorem bl_gcd {a b k : Nat} (ha : bl a ≤ k) (hb : bl b ≤ k) : bl (Nat.gcd a b) ≤ k := by
  rcases Nat.eq_zero_or_pos a with h | h
  · subst h
    rw [Nat.gcd_zero_left]
    exact hb
  · exact Nat.le_trans (bl_mono (Nat.gcd_le_left b h)) ha
set_option maxHeartbeats 3200000 in
theorem refgcd_at (A : Option Addr) (n c : Nat) (ms : List Nat) (w : World) (h : Row30 w A ms) (hn : ms.length = n) (hl : n ≤ 1000000) :
    Calls Tryd.prog 45 #[.slice A n c] w fun e w' => ∃ r B m d, e = .returned (.agg #[.bool r, .slice B m d]) ∧ BV 1920 w' r B m d (gcdL ms : Nat) ∧ Below w.heap.size w w' := by
  obtain ⟨W, hW⟩ : ∃ W, W = w.alloc (.cells #[.bool false, .slice none 0 0] 30) := ⟨_, rfl⟩
  have hbW : Below w.heap.size w W := by rw [hW]; exact below_al (Below.refl _ _) _
  have t1 : Two W w.heap.size 30 (.bool false) (.slice none 0 0) := by rw [hW]; exact Two.made w 30 _ _
  have hWs : W.heap.size = w.heap.size + 1 := by rw [hW]; simp
  replace h := h.below hbW
  have HN := Lib.hid hn
  clear hn
  go_enter Tryd.func45, Tryd.ntmps45
  go_wp2_with fail
  rw [← hW]
  have HW := Lib.hid hW
  have HWS := Lib.hid hWs
  clear hW hWs
  go_loopw [3, 4] (fun gv iv wr => ∃ (i k : Nat) (B : Option Addr) (d g : Nat), i ≤ n ∧ iv = .int .i64 i ∧ gv = .slice B k d ∧ k ≤ 1920 ∧ Hid (bl g = k ∧ g = gcdL (ms.take i)) ∧ Bit wr B k d g ∧ Below W.heap.size W wr) (fun _ iv _ => n - (intOf iv).toNat)
  case atStart => exact ⟨0, 0, none, 0, 0, Nat.zero_le _, rfl, rfl, by omega, Lib.hid ⟨bl_zero, rfl⟩, Bit.none_ _, Below.refl _ _⟩
  case round =>
    obtain ⟨i, k, B, d, g, hi, rfl, rfl, hk, HG, hm, hbel⟩ := hrel
    by_cases hlt : i < n
    · have hil : i < ms.length := by rw [HN.out]; exact hlt
      obtain ⟨ad, ⟨pb, po, ps⟩, ⟨qb, qo, qs⟩, r, B2, m2, c2, rfl, hp, hq, hab, k1, k2, hm2, hbl, hmag⟩ := h.below hbel i hil
      obtain ⟨M, hM⟩ : ∃ M, ms[i] = M := ⟨_, rfl⟩
      rw [hM] at hmag hbl
      obtain ⟨G, hG⟩ : ∃ G, Nat.gcd g M = G := ⟨_, rfl⟩
      have HG2 : Hid (gcdL (ms.take (i + 1)) = G) := Lib.hid (by rw [gcdL_next hil, hM, ← HG.out.2, hG])
      have HG1 : Hid (bl g = k ∧ bl M = m2 ∧ Nat.gcd g M = G) := Lib.hid ⟨HG.out.1, hbl.symm, hG⟩
      clear hM hG HG hbl
      go_wp2_with fail
      obtain ⟨wo, hwo⟩ : ∃ wo : World, wo = wr := ⟨_, rfl⟩
      subst hwo
      go_loopg [3, 5] M (fun z gv xv wr => ∃ (m n1 n2 : Nat) (A : Option Addr) (c : Nat) (B : Option Addr) (d : Nat), gv = .slice A n1 c ∧ xv = .slice B n2 d ∧ Hid (bl m = n1 ∧ bl z = n2 ∧ Nat.gcd m z = G) ∧ n1 ≤ 1920 ∧ n2 ≤ 1920 ∧ Bit wr A n1 c m ∧ Bit wr B n2 d z ∧ Below W.heap.size W wr)
      case atStart => exact ⟨g, k, m2, B, d, B2, c2, rfl, rfl, HG1, hk, hm2, hm, hmag, hbel⟩
      case round =>
        obtain ⟨m, n1, n2, A, c, B, d, rfl, rfl, HP, hn1, hn2, hb1, hb2, hbel2⟩ := hrel
        by_cases hz : gk = 0
        · have hz2 : n2 = 0 := by rw [← HP.out.2.1, hz]; exact bl_zero
          have HE : Hid (m = G) := Lib.hid (by have := HP.out.2.2; rw [hz, Nat.gcd_zero_right] at this; exact this)
          subst hz2
          clear hz
          have HO : Hid (bl m = n1 ∧ m = gcdL (ms.take (i + 1))) := Lib.hid ⟨HP.out.1, by rw [HG2.out, HE.out]⟩
          clear HP
          go_wp2
          go_roundw
          case rel => exact ⟨i + 1, n1, A, c, m, by omega, by go_num, rfl, hn1, HO, hb1, hbel2⟩
          case measure => simp [intOf]; omega
        · have hp2 : 0 < n2 := by rw [← HP.out.2.1]; exact bl_pos (by omega)
          obtain ⟨s, hs⟩ : ∃ s, m % gk = s := ⟨_, rfl⟩
          obtain ⟨ns, hns⟩ : ∃ ns, bl s = ns := ⟨_, rfl⟩
          have HR : Hid (bl gk = n2 ∧ bl s = ns ∧ Nat.gcd gk s = G) := Lib.hid ⟨HP.out.2.1, hns, by rw [← hs, gcd_step]; exact HP.out.2.2⟩
          have HM : Hid (s < gk) := Lib.hid (by rw [← hs]; exact Nat.mod_lt _ (by omega))
          have hns2 : ns ≤ 1920 := by
            have h := HP.out.2.1
            rw [← hns]
            exact Nat.le_trans (bl_mono (Nat.le_of_lt HM.out)) (by omega)
          have PT : ∀ X, Below wr.heap.size wr X → Hid (Calls Tryd.prog 64 #[.slice A n1 c, .slice B n2 d] X fun e w' => ∃ Q q dq R dr, e = .returned (.tuple #[.slice Q q dq, .slice R ns dr]) ∧ Bit w' R ns dr s ∧ Below wr.heap.size wr w') := fun X hb => Lib.hid (by
            have D := partsB A B n1 c d m gk X (hb1.below hb) (by rw [HP.out.2.1]; exact hb2.below hb) (by omega) (by omega) (by rw [HP.out.2.1]; omega)
            rw [HP.out.2.1] at D
            refine D.mono fun e w' hh => ?_
            obtain ⟨Q, dq, R, dr, he, _, br, _, _, hw⟩ := hh
            rw [hs, hns] at he br
            exact ⟨Q, _, dq, R, dr, he, br, below_then hb hw⟩)
          clear hz hs hns HP
          go_wp2_with fail
          refine ((PT _ (Below.refl _ _)).out).mono ?_
          rintro e w1 ⟨Q, q, dq, R, dr, rfl, br, bb⟩
          clear PT
          go_wp2_with fail
          go_roundg s
          case rel => exact ⟨gk, n2, ns, B, d, R, dr, rfl, rfl, HR, hn2, hns2, hb2.below bb, br, below_then hbel2 bb⟩
          case measure => exact HM.out
    · obtain rfl : n = i := by omega
      have HE : Hid (g = gcdL ms) := Lib.hid (by rw [HG.out.2, List.take_of_length_le (by rw [HN.out]; exact Nat.le_refl _)])
      have VA := Lib.hid (value_any false B k d g wr hm (by omega))
      rw [HG.out.1] at VA
      have p2 := t1.below' hbel
      have hkg := HG.out.1
      clear HG
      have hsb : signB false g = false := by simp [signB]
      rw [hsb] at VA
      go_wp2_with (go_at_call 51; refine (VA.out).mono ?_; rintro e w4 ⟨rfl, hb4⟩; have r0 := (p2.below' hb4).fst; have r1 := (p2.below' hb4).snd; have r2 := (p2.below' hb4).free 0; have r3 := (p2.below' hb4).free 1)
      refine bodyPost_ret (v := .agg #[.bool false, .slice B k d]) (by simp [results, Tryd.results45, go_sem, r0, r1]) rfl ⟨false, B, k, d, rfl, ⟨⟨by simp, ?_, ?_⟩, hk⟩, below_two (g := w.heap.size) (below_then hbW (below_then hbel hb4)) (by omega)⟩
      · rw [← HE.out]
        exact hkg.symm
      · rw [← HE.out]
        exact (hm.below hb4).put2 (p2.below' hb4)
end Go.Proofs.YtocoflojlliapaaDoor
