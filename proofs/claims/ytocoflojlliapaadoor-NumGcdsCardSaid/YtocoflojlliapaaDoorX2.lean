/- Knuth's division, walked. -/
import Derived.Test.YtocoflojlliapaaDoorX1b
set_option linter.unusedVariables false
namespace Go.Proofs.YtocoflojlliapaaDoor
open Go.RowKit
theorem top_pos {N k : Nat} (h : dl N = k + 1) : 0 < lmb (digs 4294967296 N) k ∧ 4294967296 ^ k ≤ N ∧ N < 4294967296 ^ k * (lmb (digs 4294967296 N) k + 1) := by
  have h0 : N ≠ 0 := fun e => by rw [e, dl_zero] at h; omega
  have h1 := dl_low N h0
  rw [h, Nat.add_sub_cancel] at h1
  have hl : (digs 4294967296 N).length = k + 1 := h
  have h2 := val_take_lmb (digs 4294967296 N) k
  rw [List.take_of_length_le (by omega), digs_val (by decide)] at h2
  have h3 := val_lt (by decide) ((digs_low (b := 4294967296) (by decide) N).take k)
  rw [List.length_take, hl, Nat.min_eq_left (by omega)] at h3
  refine ⟨?_, h1, ?_⟩
  · rcases Nat.eq_zero_or_pos (lmb (digs 4294967296 N) k) with h4 | h4
    · rw [h4] at h2; omega
    · exact h4
  · rw [Nat.mul_add, Nat.mul_one]
    omega
theorem long_facts {b k : Nat} (hb : dl b = k + 2) : ∃ s f yt, lmb (digs 4294967296 b) (k + 1) = yt ∧ 0 < yt ∧ yt < 4294967296 ∧ s + Lib.bitLen yt = 32 ∧ s ≤ 31 ∧ f = 2 ^ s ∧ 1 ≤ f ∧ f < 4294967296 ∧ dl (b * f) = k + 2 ∧ 0 < lmb (digs 4294967296 (b * f)) (k + 1) ∧ 4294967296 ^ (k + 1) ≤ b := by
  obtain ⟨t1, t2, t3⟩ := top_pos (k := k + 1) hb
  have hyt : lmb (digs 4294967296 b) (k + 1) < 4294967296 := lmb_lt (digs_low (by decide) b) _
  have hbl := Lib.bitLen_le (lmb (digs 4294967296 b) (k + 1)) 32 (by decide) (by simpa using hyt)
  obtain ⟨b1, b2, b3⟩ := Lib.bitLenAux_bounds 64 (lmb (digs 4294967296 b) (k + 1)) (Nat.lt_trans hyt (by decide)) (by omega)
  have b1' : 1 ≤ Lib.bitLen (lmb (digs 4294967296 b) (k + 1)) := b1
  have b3' : lmb (digs 4294967296 b) (k + 1) < 2 ^ Lib.bitLen (lmb (digs 4294967296 b) (k + 1)) := b3
  obtain ⟨L, hL⟩ : ∃ L, L = Lib.bitLen (lmb (digs 4294967296 b) (k + 1)) := ⟨_, rfl⟩
  rw [← hL] at hbl b1' b3'
  have hf1 : 1 ≤ 2 ^ (32 - L) := Nat.pow_pos (by decide)
  have hff : (lmb (digs 4294967296 b) (k + 1) + 1) * 2 ^ (32 - L) ≤ 4294967296 := by
    have h1 : (lmb (digs 4294967296 b) (k + 1) + 1) * 2 ^ (32 - L) ≤ 2 ^ L * 2 ^ (32 - L) := Nat.mul_le_mul_right _ b3'
    rw [← Nat.pow_add, show L + (32 - L) = 32 by omega] at h1
    exact h1
  have hlt : 2 ^ (32 - L) < 4294967296 := by
    have : 2 ^ (32 - L) ≤ 2 ^ 31 := pow_mono (by decide) (by omega)
    have e : (2 : Nat) ^ 31 = 2147483648 := by decide
    omega
  have hdl : dl (b * 2 ^ (32 - L)) = k + 2 := by
    have h1 : dl (b * 2 ^ (32 - L)) ≤ k + 2 := by
      rw [dl_le]
      have h2 : b * 2 ^ (32 - L) < 4294967296 ^ (k + 1) * (lmb (digs 4294967296 b) (k + 1) + 1) * 2 ^ (32 - L) := Nat.mul_lt_mul_of_pos_right t3 hf1
      rw [Nat.mul_assoc] at h2
      have h3 : 4294967296 ^ (k + 1) * ((lmb (digs 4294967296 b) (k + 1) + 1) * 2 ^ (32 - L)) ≤ 4294967296 ^ (k + 1) * 4294967296 := Nat.mul_le_mul_left _ hff
      have e2 : (4294967296 : Nat) ^ (k + 2) = 4294967296 ^ (k + 1) * 4294967296 := Nat.pow_succ _ _
      rw [e2]
      exact Nat.lt_of_lt_of_le h2 h3
    have h2 : dl b ≤ dl (b * 2 ^ (32 - L)) := dl_mono (Nat.le_mul_of_pos_right b hf1)
    omega
  exact ⟨32 - L, _, _, rfl, t1, hyt, by rw [← hL]; omega, by omega, rfl, hf1, hlt, hdl, (top_pos (k := k + 1) hdl).1, t2⟩
theorem own_save {w w' : World} {base e n g : Nat} {v : Value} {xs : List Value} (h : w.ownsRow base e 1 v n xs) (hs : Save g (g + 1) w w') (hg : g < base) : w'.ownsRow base e 1 v n xs := by
  have hgr : w.grownBy w' (some g) := ⟨hs.os, hs.tape, hs.output, hs.size, fun k hk hne => hs.block k hk (by have : k ≠ g := fun e => hne (by rw [e]); omega)⟩
  refine h.kept hgr ?_
  cases hob : v.ownBlock
  · exact .inl rfl
  · rename_i b
    refine .inr ?_
    have := own_ge h b hob
    simp
    omega
set_option maxHeartbeats 6400000 in
set_option maxRecDepth 100000 in
theorem long_said (a b : Nat) (hab : b ≤ a) (l1 : dl a ≤ 1000) (l2 : 2 ≤ dl b) : LongSaid a b := by
  intro A1 A2 c1 c2 w h1 h2
  obtain ⟨k, hk⟩ : ∃ k, dl b = k + 2 := ⟨dl b - 2, by omega⟩
  obtain ⟨s, f, yt, F1, F2, F3, F4, F5, F6, F7, F8, F9, F10, F11⟩ := long_facts hk
  obtain ⟨na, hna⟩ : ∃ na, dl a = na := ⟨_, rfl⟩
  have h3 : dl b ≤ dl a := dl_mono hab
  have x1 := h1.list
  have y1 := h2.list
  have HXL : Hid ((digs 4294967296 a).length = na) := Lib.hid hna
  have HYL : Hid ((digs 4294967296 b).length = k + 2) := Lib.hid hk
  rw [hk] at h3 ⊢
  rw [hna] at h3 l1 ⊢
  have iy : k + 1 < (digs 4294967296 b).length := by rw [HYL.out]; omega
  obtain ⟨ad, rfl, hab2, cy⟩ := y1.at iy
  rw [← lmb_in iy, F1] at cy
  obtain ⟨nb, hnb⟩ : ∃ nb, nb = k + 2 := ⟨_, rfl⟩
  obtain ⟨k1, hk1⟩ : ∃ k1, k1 = k + 1 := ⟨_, rfl⟩
  rw [← hk1] at cy
  rw [← hnb] at h3 HYL ⊢
  have LZ := fun V => Lib.hid (Tryd.bits_LeadingZeros32 (yt : Int) V (by omega) (by omega))
  have eLZ : (32 : Int) - (Lib.bitLen ((yt : Int)).toNat : Int) = (s : Int) := by rw [Int.toNat_natCast]; omega
  rw [eLZ] at LZ
  have ef : ((2 : Int) ^ s % 4294967296) = (f : Int) := by
    have : ((2 : Int) ^ s) = ((2 ^ s : Nat) : Int) := by rw [Int.natCast_pow]; rfl
    rw [this, ← F6]
    omega
  have n0 : (nb : Int) - 1 = (k1 : Int) := by omega
  have j1 : (k1 : Int) < nb := by omega
  have j2 : k1 < nb := by omega
  have HH1 := Lib.hid h1
  have HH2 := Lib.hid h2
  have HF := Lib.hid (And.intro F1 (And.intro F9 (And.intro F10 (And.intro F11 F7))))
  have HK := Lib.hid (And.intro hnb hk1)
  clear F1 F4 F6 F9 F10 F11 eLZ h1 h2 hk hna hnb hk1
  go_enter Tryd.func81, Tryd.ntmps81
  go_wp2_with fail
  refine ((LZ _).out).mono ?_
  rintro e w0 ⟨rfl, rfl⟩
  go_wp2_with fail
  have HL1 := Lib.hid (times_at A1 (some ⟨w0.heap.size, 0, none⟩) (digs 4294967296 a) [f] c1 1 na 1 (w0.alloc (.cells #[.int .u32 f] 43)) (x1.below' (below_al (Below.refl _ _) _)) (one_lim .u32 w0 43 f) (digs_low (by decide) a) (Low.cons F8 Low.nil) HXL (Lib.hid rfl) (by omega) (by omega))
  refine (HL1.out).mono ?_
  clear HL1
  rintro e w1 ⟨rfl, hmade⟩
  obtain ⟨zs, z1, z2, z3, z4, z5⟩ := hmade
  have hg0 : (w0.alloc (.cells #[.int .u32 f] 43)).heap.size = w0.heap.size + 1 := by simp
  rw [hg0] at z4
  have B1 : Below w0.heap.size w0 w1 := below_then (below_al (Below.refl _ _) _) z5
  have hgl : w0.heap.size + 1 < w1.heap.size := z4.lt
  have HZ : Hid (zs.length = na + 1 ∧ Low 4294967296 zs ∧ val 4294967296 zs = a * f) := Lib.hid ⟨z1, z2, by rw [z3, digs_val (by decide)]; simp [val]⟩
  have Y1 := y1.below' B1
  have cy1 := (y1.below' B1)
  clear z1 z2 z3 z5 hg0
  go_wp2_with fail
  have HL2 := Lib.hid (times_at (some ad) (some ⟨w1.heap.size, 0, none⟩) (digs 4294967296 b) [f] c2 1 nb 1 (w1.alloc (.cells #[.int .u32 f] 43)) (Y1.below' (below_al (Below.refl _ _) _)) (one_lim .u32 w1 43 f) (digs_low (by decide) b) (Low.cons F8 Low.nil) HYL (Lib.hid rfl) (by omega) (by omega))
  refine (HL2.out).mono ?_
  clear HL2
  rintro e Z ⟨rfl, hmade⟩
  obtain ⟨us, u1, u2, u3, u4, u5⟩ := hmade
  have hg1 : (w1.alloc (.cells #[.int .u32 f] 43)).heap.size = w1.heap.size + 1 := by simp
  rw [hg1] at u4
  have B2 : Below w1.heap.size w1 Z := below_then (below_al (Below.refl _ _) _) u5
  have hhl : w1.heap.size + 1 < Z.heap.size := u4.lt
  have z6 := z4.below B2 hgl
  have e5 : trimL us = digs 4294967296 (b * f) := by
    rw [← digs_of (by decide) u2, u3, digs_val (by decide)]
    simp [val]
  have HU1 := Lib.hid u1
  have hlim := u4.lim
  have TR := Lib.hid (trim_at (some ⟨w1.heap.size + 1, 0, none⟩) us (nb + 1) (nb + 1) _ Z HU1 hlim (Nat.le_refl _) (by omega))
  rw [e5] at TR
  have e6 : (digs 4294967296 (b * f)).length = nb := by have h1 := HF.out.2.1; have h2 := HK.out.1; unfold dl at h1; omega
  rw [e6] at TR
  have y3 : Lim .u32 Z.heap.size Z (some ⟨w1.heap.size + 1, 0, none⟩) (digs 4294967296 (b * f)) := by rw [← e5]; exact hlim.trim
  obtain ⟨ys, hys⟩ : ∃ ys, ys = digs 4294967296 (b * f) := ⟨_, rfl⟩
  rw [← hys] at y3
  have HYS : Hid (ys.length = nb) := Lib.hid (by rw [hys]; exact e6)
  have HYY : Hid (Low 4294967296 ys ∧ val 4294967296 ys = b * f ∧ 0 < lmb ys (k + 1) ∧ 4294967296 ^ (k + 1) ≤ b ∧ 1 ≤ f ∧ 0 < b * f) := Lib.hid (by
    rw [hys]
    have hb0 : 1 ≤ b := by
      rcases Nat.eq_zero_or_pos b with h | h
      · rw [h, dl_zero] at l2; omega
      · exact h
    exact ⟨digs_low (by decide) _, digs_val (by decide) _, HF.out.2.2.1, HF.out.2.2.2.1, HF.out.2.2.2.2, Nat.mul_pos hb0 (by omega)⟩)
  have B3 := below_then B1 B2
  obtain ⟨g, hg⟩ : ∃ g, g = w0.heap.size + 1 := ⟨_, rfl⟩
  rw [← hg] at z6 hgl
  have HOF : Hid (Off (some ⟨w1.heap.size + 1, 0, none⟩) nb g) := Lib.hid (fun _ => ⟨_, rfl, by simp; omega⟩)
  have HDS : Hid (Dv a f b nb ys zs (na - nb + 1) []) := Lib.hid (Dv.start HZ.out.1 HZ.out.2.1 HZ.out.2.2 h3 (by have := HK.out.1; omega) (by have h := lt_dl a; have h2 : dl a = na := HXL.out; rw [h2] at h; exact h) (by rw [HK.out.1]; exact HYY.out.2.2.2.1) HYY.out.2.2.2.2.1)
  clear u1 u2 u3 u4 u5 hg1 e5 e6 hlim hys z4 Y1 cy1 y1 x1 cy B1 B2
  go_wp2_with fail
  refine (TR.out).mono ?_
  rintro e w3 ⟨rfl, rfl⟩
  clear TR
  have eg : w0.heap.size + 1 = g := hg.symm
  have HG := Lib.hid hg
  clear hg
  go_wp2_with fail
  clear eg
  go_loopw [10, 11] (fun pv iv wr => ∃ (j : Int) (xs ps : List Nat) (P : Option Addr) (m d : Nat), -1 ≤ j ∧ j + nb ≤ na ∧ iv = .int .i64 j ∧ pv = .slice P m d ∧ wr.ownsRow Z.heap.size 43 1 (.slice P m d) m (cl .u32 ps) ∧ Nums .u32 43 wr g xs ∧ Hid (ps.length = m ∧ xs.length = na + 1 ∧ Dv a f b nb ys xs (j + 1).toNat ps) ∧ m + j ≤ na ∧ Save g (g + 1) Z wr) (fun _ iv _ => (intOf iv + 1).toNat)
  case atStart => exact ⟨(na : Int) + 1 - nb - 1, zs, [], none, 0, 0, by omega, by omega, by go_num, rfl, own_nil, z6, Lib.hid ⟨rfl, HZ.out.1, by rw [show ((na : Int) + 1 - nb - 1 + 1).toNat = na - nb + 1 by omega]; exact HDS.out⟩, by omega, Save.refl _ _ _⟩
  case round =>
    obtain ⟨j, xs, ps, P, m, d, hj0, hj1, rfl, rfl, hown, hN, HP, hmj, hS⟩ := hrel
    have y4 := (y3.save (Nat.le_refl _) hS (by rw [HYS.out]; exact HOF.out)).more hS.size
    have hown' := Lib.hid hown
    by_cases hlt : 0 ≤ j
    · obtain ⟨p, rfl⟩ := Int.eq_ofNat_of_zero_le hlt
      have hpn : p + nb ≤ na := by omega
      have HD : Hid (Dv a f b nb ys xs (p + 1) ps) := Lib.hid HP.out.2.2
      have HXN : Hid (xs.length = na + 1) := Lib.hid HP.out.2.1
      have HPL : Hid (ps.length = m) := Lib.hid HP.out.1
      have hm2 : m ≤ na := by omega
      clear HP
      have i0 : (0 : Int) ≤ (p : Int) := by omega
      have i1 : (p : Int) ≤ (p : Int) + nb + 1 := by omega
      have i2 : (p : Int) + nb + 1 ≤ ((na + 1 : Nat) : Int) := by omega
      have i3 : ¬ (na + 1 = p) := by omega
      have i4 : ¬ (p = na + 1) := by omega
      obtain ⟨mw, hmw⟩ : ∃ mw, p + nb + 1 - p = mw := ⟨_, rfl⟩
      have hmw1 : nb < mw := by omega
      have hmw2 : p + mw ≤ na + 1 := by omega
      have hna9 : na + 1 ≤ 100000 := by omega
      have hnb9 : nb ≤ 100000 := by omega
      have hkk : Hid (nb = k1 + 1) := Lib.hid (by have h1 := HK.out.1; have h2 := HK.out.2; omega)
      have hm17 : m + 1 ≤ 17592186044416 := by omega
      obtain ⟨q, hq⟩ : ∃ q, q = sv xs p (nb + 1) / (b * f) := ⟨_, rfl⟩
      have HQ := Lib.hid hq
      obtain ⟨xw, hxw⟩ : ∃ xw, lmb xs (p + nb) = xw := ⟨_, rfl⟩
      have HXW := Lib.hid hxw
      clear hq hxw
      have GU : ∀ V, Nums .u32 43 V g xs → Lim .u32 V.heap.size V (some ⟨w1.heap.size + 1, 0, none⟩) ys → Hid (Calls Tryd.prog 93 #[.slice (some ⟨g, p, none⟩) mw (na + 1 - p), .slice (some ⟨w1.heap.size + 1, 0, none⟩) nb (nb + 1)] V fun e w' => ∃ pq, e = .returned (.int .u32 (pq : Nat)) ∧ (pq < 4294967296 ∧ q ≤ pq ∧ pq ≤ q + 1) ∧ ∃ d, w' = V.drewN d) := fun V hNV hyV => Lib.hid (by
        have hk1' := HK.out.1
        have hk2' := HK.out.2
        have hD := HD.out
        have hYL := HYS.out
        rw [hk1'] at hD hYL
        have G := hD.gs hYL HYY.out.1 HYY.out.2.1 HYY.out.2.2.1 HYY.out.2.2.2.2.2
        rw [← hk1', ← hk2', ← HQ.out] at G
        exact guess_at g p nb mw (na + 1 - p) (nb + 1) k k1 _ _ _ _ _ _ q _ _ _ xs ys V hNV hyV HYS (by rw [HXN.out]; exact hmw2) hmw1 hnb9 (by rw [HXN.out]; exact hna9) hkk (Lib.hid hk2') (Lib.hid rfl) (Lib.hid rfl) (Lib.hid rfl) (Lib.hid rfl) (Lib.hid rfl) (Lib.hid G))
      have TO : ∀ (V : World) (pq : Nat), Nums .u32 43 V g xs → Lim .u32 V.heap.size V (some ⟨w1.heap.size + 1, 0, none⟩) ys → pq < 4294967296 → Hid (Calls Tryd.prog 94 #[.slice (some ⟨g, p, none⟩) mw (na + 1 - p), .slice (some ⟨w1.heap.size + 1, 0, none⟩) nb (nb + 1), .int .u32 pq] V fun e w' => ∃ zs' cc bb, e = .returned (.bool (decide (xw < cc + bb))) ∧ Nums .u32 43 w' g zs' ∧ Tk xs ys pq p nb cc bb zs' ∧ Save g (g + 1) V w') := fun V pq hNV hyV hpq => Lib.hid
        (takeOff_at g p nb mw (na + 1 - p) (nb + 1) pq _ xs ys V hNV (Lib.hid HD.out.1) hyV HYS (Lib.hid HYY.out.1) HOF.out (by rw [HXN.out]; exact hmw2) hmw1 (by rw [HXN.out]; exact hna9) hpq xw HXW)
      go_wp2_with fail
      refine ((GU _ hN y4).out).mono ?_
      rintro e w4 ⟨pq, rfl, ⟨hpB, hqp, hpq1⟩, dd, rfl⟩
      have HPQ := Lib.hid (And.intro hqp hpq1)
      clear GU hqp hpq1
      go_wp2_with fail
      refine ((TO _ pq (hN.drewN dd) y4 hpB).out).mono ?_
      rintro e w5 ⟨zs', cc, bb, rfl, hN5, hTk, hS5⟩
      have hS6 := (hS.drewN dd).then hS5
      have HTk := Lib.hid hTk
      have hown5 := own_save (show (wr.drewN dd).ownsRow Z.heap.size 43 1 (.slice P m d) m (cl .u32 ps) from hown) hS5 (by omega)
      clear TO hTk hS5
      by_cases hover : xw < cc + bb
      · have eo : decide (xw < cc + bb) = true := decide_eq_true hover
        have hp1 : 1 ≤ pq := HD.out.pos HYS.out HYY.out.2.1 HTk.out (by rw [HXW.out]; exact hover)
        have y5 := (y3.save (Nat.le_refl _) hS6 (by rw [HYS.out]; exact HOF.out)).more hS6.size
        have PB := Lib.hid (putBack_at g p nb mw (na + 1 - p) (nb + 1) (some ⟨w1.heap.size + 1, 0, none⟩) zs' ys w5 hN5 (Lib.hid HTk.out.2.1) y5 HYS (Lib.hid HYY.out.1) HOF.out (by rw [HTk.out.1, HXN.out]; exact hmw2) (Nat.le_of_lt hmw1) (by rw [HTk.out.1, HXN.out]; exact hna9))
        have HOV := Lib.hid hover
        clear hover
        go_wp2_with fail
        refine (PB.out).mono ?_
        rintro e w6 ⟨rfl, vs, k2, hN6, hPb, hS7⟩
        have HDN := Lib.hid (HD.out.back HYS.out HYY.out.1 HYY.out.2.1 HYY.out.2.2.2.2.2 HQ.out HPQ.out.1 HPQ.out.2 HTk.out (by rw [HXW.out]; exact HOV.out) hPb)
        have hown6 := own_save hown5 hS7 (by omega)
        have hS8 := hS6.then hS7
        clear PB hPb hS7 hown5 hown eo
        obtain ⟨r, hr⟩ : ∃ r, r = pq - 1 := ⟨_, rfl⟩
        have er : (pq : Int) - 1 = (r : Int) := by omega
        rw [← hr] at HDN
        clear hr
        go_wp2_with (at_builtin; refine app_any (k := .u32) 22 43 4 Tryd.underlying22 u32_info (by decide) _ rfl _ _ rfl rfl Z.heap.size (.slice P m d) m ps rfl (hown6.alloc _) _ (some ⟨w6.heap.size, 0, none⟩) 1 1 [r] rfl (one_lim .u32 w6 43 r) (Lib.hid rfl) (by omega) (by have := hS8.size; simp; omega) ?_; intro v7 w7 hown7 hgr7; refine Hid.out ?_)
        refine Lib.hid ?_
        obtain ⟨P7, d7, rfl⟩ := own_slice hown7
        have hN7 : Nums .u32 43 w7 g vs := (hN6.alloc _).grown hgr7 (fun h => by have h9 := own_ge hown6 g h.symm; omega)
        have hS9 := (hS8.alloc (.cells #[.int .u32 r] 43)).grown rfl hgr7 (fun k hk => own_ge hown6 k hk)
        clear hgr7 hown6
        go_wp2
        go_roundw
        case rel => exact ⟨(p : Int) - 1, vs, ps ++ [r], P7, m + 1, d7, by omega, by omega, by go_num, rfl, hown7, hN7, Lib.hid ⟨by simp [HPL.out], by rw [HDN.out.2]; exact HXN.out, by rw [show ((p : Int) - 1 + 1).toNat = p by omega]; exact HDN.out.1⟩, by omega, hS9⟩
        case measure => simp [intOf]
      · have eo : decide (xw < cc + bb) = false := decide_eq_false hover
        have HDN := Lib.hid (HD.out.fits HYS.out HYY.out.1 HYY.out.2.1 HYY.out.2.2.2.2.2 HQ.out HPQ.out.1 HTk.out (by rw [HXW.out]; exact hover))
        clear hown hover
        go_wp2_with (at_builtin; refine app_any (k := .u32) 22 43 4 Tryd.underlying22 u32_info (by decide) _ rfl _ _ rfl rfl Z.heap.size (.slice P m d) m ps rfl (hown5.alloc _) _ (some ⟨w5.heap.size, 0, none⟩) 1 1 [pq] rfl (one_lim .u32 w5 43 pq) (Lib.hid rfl) (by omega) (by have := hS6.size; simp; omega) ?_; intro v7 w7 hown7 hgr7; refine Hid.out ?_)
        refine Lib.hid ?_
        obtain ⟨P7, d7, rfl⟩ := own_slice hown7
        have hN7 : Nums .u32 43 w7 g zs' := (hN5.alloc _).grown hgr7 (fun h => by have h9 := own_ge hown5 g h.symm; omega)
        have hS9 := (hS6.alloc (.cells #[.int .u32 pq] 43)).grown rfl hgr7 (fun k hk => own_ge hown5 k hk)
        clear hgr7 hown5 eo
        go_wp2
        go_roundw
        case rel => exact ⟨(p : Int) - 1, zs', ps ++ [pq], P7, m + 1, d7, by omega, by omega, by go_num, rfl, hown7, hN7, Lib.hid ⟨by simp [HPL.out], by rw [HDN.out.2]; exact HXN.out, by rw [show ((p : Int) - 1 + 1).toNat = p by omega]; exact HDN.out.1⟩, by omega, hS9⟩
        case measure => simp [intOf]
    · obtain rfl : j = -1 := by omega
      have HQR : Hid (val 4294967296 ps.reverse = a / b ∧ sv xs 0 nb / f = a % b ∧ ps.length = m ∧ xs.length = na + 1 ∧ Low 4294967296 xs ∧ Low 4294967296 ps) := Lib.hid (by
        have h1 := HP.out.2.2
        have h2 := Dv.done (N := a) (f := f) (b := b) (n := nb) (ys := ys) (xs := xs) (ps := ps) h1 HYY.out.2.2.2.2.1
        exact ⟨h2.1, h2.2, HP.out.1, HP.out.2.1, h1.1, h1.2.2.2⟩)
      have hm2 : m ≤ na + 1 := by omega
      have HM : Mag wr (some ⟨g, 0, none⟩) nb (na + 1) (sv xs 0 nb) := ⟨xs.take nb, hN.lim.take nb, HQR.out.2.2.2.2.1.take nb, by rw [List.length_take, HQR.out.2.2.2.1]; omega, (sv_take xs nb).symm, by omega⟩
      obtain ⟨U, hU⟩ : ∃ U, U = sv xs 0 nb := ⟨_, rfl⟩
      rw [← hU] at HM
      have HUU := Lib.hid hU
      clear hU HP
      have DL := Lib.hid (byLimb_mag (some ⟨g, 0, none⟩) nb (na + 1) U f wr HM (by omega) (by omega) F8)
      have PLim : Lim .u32 wr.heap.size wr P ps := by
        have h := Lim.of_own (k := .u32) (xs := ps) (by rw [HQR.out.2.2.1]; exact hown)
        exact h
      have HPB := Lib.hid hS
      clear hown hown' HM
      go_wp2_with fail
      refine (DL.out).mono ?_
      rintro e w4 ⟨rfl, hMU, b4⟩
      have PL4 := PLim.below' b4
      have TU := Lib.hid (turned_at P ps m d w4 PL4 (Lib.hid HQR.out.2.2.1) (by omega))
      clear DL
      go_wp2_with fail
      refine (TU.out).mono ?_
      rintro e w5 ⟨rfl, hN5, b5⟩
      have HM5 : Mag w5 (some ⟨w4.heap.size, 0, none⟩) m m (a / b) := ⟨ps.reverse, hN5.lim, HQR.out.2.2.2.2.2.rev, by rw [List.length_reverse]; exact HQR.out.2.2.1, HQR.out.1, Nat.le_refl _⟩
      have TM := Lib.hid (trim_mag (some ⟨w4.heap.size, 0, none⟩) m m (a / b) w5 HM5 (by omega))
      have HMU5 := hMU.below b5
      clear TU
      go_wp2_with fail
      refine (TM.out).mono ?_
      rintro e w6 ⟨rfl, rfl⟩
      go_wp2
      go_ret2
      have e1 : U / f = a % b := by rw [HUU.out]; exact HQR.out.2.1
      rw [e1] at HMU5 ⊢
      refine ⟨_, m, _, nb, rfl, HM5.trim, HMU5, ?_⟩
      have hb0 : Below w0.heap.size w0 wr := B3.trans (HPB.out.below.mono (by have h1 := HG.out; have h2 := B3.size; omega))
      exact below_then (below_then hb0 b4) b5
end Go.Proofs.YtocoflojlliapaaDoor
