/- The document's text of a value. -/
import Derived.Test.YtocoflojlliapaaDoorU1
import Derived.Test.YtocoflojlliapaaDoorT3
import Derived.Laws.IdiomStrings
set_option linter.unusedVariables false
namespace Go.Proofs.YtocoflojlliapaaDoor
open Go.RowKit
/-- the digits that are still to come -/
def tailD (M : Nat) : List UInt8 := if M = 0 then [] else Lib.decDigits M
theorem tailD_zero : tailD 0 = [] := rfl
theorem tailD_step {M : Nat} (h : 0 < M) : tailD M = tailD (M / 10) ++ [UInt8.ofNat (48 + M % 10)] := by
  unfold tailD
  rw [if_neg (by omega)]
  by_cases h10 : M < 10
  · rw [if_pos (by omega), dec_small h10, Nat.mod_eq_of_lt h10]
    rfl
  · rw [if_neg (by omega), dec_big (by omega)]
theorem four_bits : ∀ r, r < 16 → lmb (digs 2 r) 0 + 2 * lmb (digs 2 r) 1 + 4 * lmb (digs 2 r) 2 + 8 * lmb (digs 2 r) 3 = r := by decide
def bytesN (l : List UInt8) : List Nat := l.map UInt8.toNat
theorem run_conv_bytes {w : World} {A : Option Addr} {n c : Nat} {l : List UInt8} {B : Nat} (h : Lim .u8 B w A (bytesN l)) (hn : l.length = n) (h0 : 0 < n) : (convert 28 9 (.slice A n c)).run Tryd.prog w = .ok (.string ⟨l.toArray⟩) w := by
  subst hn
  obtain ⟨ad, rfl, _, hc⟩ := h (by unfold bytesN; intro he; have := congrArg List.length he; simp at this; rw [this] at h0; simp at h0)
  refine run_convert_bytes_back (P := Tryd.prog) w 28 9 5 ad c l Tryd.underlying28 Tryd.underlying5 Tryd.underlying9 fun j hj => ?_
  have := hc j (by simpa [bytesN] using hj)
  rw [this]
  simp [bytesN]
theorem small10 (w : World) : Calls Tryd.prog 73 #[.int .i64 10] w fun e w' => ∃ B d, e = .returned (.slice B (bl 10) d) ∧ Bit w' B (bl 10) d 10 ∧ Fro w.heap.size B (bl 10) ∧ Below w.heap.size w w' := smallB 10 w (by decide)
/-- the digits by now -/
def Tx (N M : Nat) (os : List UInt8) : Prop := tailD M ++ os = tailD N
theorem Tx.next {N M : Nat} {os : List UInt8} (h : Tx N M os) (h0 : 0 < M) : Tx N (M / 10) (UInt8.ofNat (48 + M % 10) :: os) := by
  unfold Tx at h ⊢
  rw [← h, tailD_step h0]
  simp
set_option maxHeartbeats 3200000 in
set_option maxRecDepth 100000 in
theorem reftext_pos (neg : Bool) (A1 : Option Addr) (n1 c1 N : Nat) (w : World) (h : Bit w A1 n1 c1 N) (hn1 : Hid (n1 = bl N)) (h0 : 0 < N) (hl : n1 ≤ 2000) :
    Calls Tryd.prog 47 #[.agg #[.bool neg, .slice A1 n1 c1]] w fun e w' => e = .returned (.string ⟨((if neg then [45] else []) ++ Lib.decDigits N).toArray⟩) ∧ Below w.heap.size w w' := by
  obtain ⟨W, hW⟩ : ∃ W, W = w.alloc (.cells #[.bool neg, .slice A1 n1 c1] 30) := ⟨_, rfl⟩
  have hbW : Below w.heap.size w W := by rw [hW]; exact below_al (Below.refl _ _) _
  have t1 : Two W w.heap.size 30 (.bool neg) (.slice A1 n1 c1) := by rw [hW]; exact Two.made w 30 _ _
  have hB := h.below hbW
  have hpos : 0 < n1 := by rw [hn1.out]; exact bl_pos (by omega)
  have HN := Lib.hid h0
  have k1 := t1.snd
  have hDL : (tailD N).length ≤ 20000 := by
    unfold tailD
    split
    · simp
    · refine Nat.le_trans (dec_len_dl N 63 630 ((bl_dl N 63 2016 rfl).1 (by rw [← hn1.out]; omega)) (by decide)) (by decide)
  have HDL := Lib.hid hDL
  have ez : ((n1 : Int) == 0) = false := beq_eq_false_iff_ne.2 (by omega)
  clear h h0 hDL
  go_enter Tryd.func47, Tryd.ntmps47
  go_wp2_with fail
  rw [← hW]
  have HW := Lib.hid hW
  clear hW
  go_loopw [3, 4] (fun ov bv wr => ∃ (M m d k c : Nat) (B O : Option Addr) (os : List UInt8), bv = .slice B m d ∧ Hid (m = bl M) ∧ m ≤ 2000 ∧ Bit wr B m d M ∧ ov = .slice O k c ∧ k ≤ 20000 ∧ Lim .u8 wr.heap.size wr O (bytesN os) ∧ Hid (os.length = k ∧ Tx N M os) ∧ Below W.heap.size W wr) (fun _ bv _ => lenOf bv)
  case atStart => exact ⟨N, n1, c1, 0, 0, A1, none, [], rfl, hn1, hl, hB, rfl, by omega, Lim.empty _, Lib.hid ⟨rfl, by unfold Tx; simp⟩, Below.refl _ _⟩
  case round =>
    obtain ⟨M, m, d, k, c, B, O, os, rfl, hm, hml, hBM, rfl, hk, hO, HT, hbel⟩ := hrel
    by_cases h0 : 0 < m
    · have hM : 0 < M := by
        rcases Nat.eq_zero_or_pos M with h | h
        · have := hm.out; rw [h, bl_zero] at this; omega
        · exact h
      obtain ⟨r, hr⟩ : ∃ r, r = M % 10 := ⟨_, rfl⟩
      obtain ⟨q, hq⟩ : ∃ q, q = M / 10 := ⟨_, rfl⟩
      have hr10 : r < 10 := by omega
      have hqm : q < M := by omega
      have hdm := four_bits r (by omega)
      have b0 := bit_lt (digs_low (b := 2) (by decide) r) 0
      have b1 := bit_lt (digs_low (b := 2) (by decide) r) 1
      have b2 := bit_lt (digs_low (b := 2) (by decide) r) 2
      have b3 := bit_lt (digs_low (b := 2) (by decide) r) 3
      obtain ⟨x0, hx0⟩ : ∃ x, lmb (digs 2 r) 0 = x := ⟨_, rfl⟩
      obtain ⟨x1, hx1⟩ : ∃ x, lmb (digs 2 r) 1 = x := ⟨_, rfl⟩
      obtain ⟨x2, hx2⟩ : ∃ x, lmb (digs 2 r) 2 = x := ⟨_, rfl⟩
      obtain ⟨x3, hx3⟩ : ∃ x, lmb (digs 2 r) 3 = x := ⟨_, rfl⟩
      rw [hx0] at b0 hdm
      rw [hx1] at b1 hdm
      rw [hx2] at b2 hdm
      rw [hx3] at b3 hdm
      obtain ⟨nr, hnr⟩ : ∃ nr, nr = bl r := ⟨_, rfl⟩
      have hnrl : (digs 2 r).length = nr := hnr.symm
      have hnr4 : nr ≤ 1000 := by rw [hnr]; exact Nat.le_trans (bl_mono (show r ≤ 15 by omega)) (by decide)
      have BT : Hid (∀ V R d, Lim .u8 V.heap.size V R (digs 2 r) → (Calls Tryd.prog 74 #[.slice R nr d, .int .i64 0] V fun e w' => e = .returned (.int .i64 (x0 : Nat)) ∧ V = w') ∧ (Calls Tryd.prog 74 #[.slice R nr d, .int .i64 1] V fun e w' => e = .returned (.int .i64 (x1 : Nat)) ∧ V = w') ∧ (Calls Tryd.prog 74 #[.slice R nr d, .int .i64 2] V fun e w' => e = .returned (.int .i64 (x2 : Nat)) ∧ V = w') ∧ (Calls Tryd.prog 74 #[.slice R nr d, .int .i64 3] V fun e w' => e = .returned (.int .i64 (x3 : Nat)) ∧ V = w')) := Lib.hid (fun V R d h =>
        ⟨bit_at R (digs 2 r) nr d 0 _ V h (Lib.hid hnrl) (by omega) (by omega) x0 (Lib.hid hx0) b0, bit_at R (digs 2 r) nr d 1 _ V h (Lib.hid hnrl) (by omega) (by omega) x1 (Lib.hid hx1) b1, bit_at R (digs 2 r) nr d 2 _ V h (Lib.hid hnrl) (by omega) (by omega) x2 (Lib.hid hx2) b2, bit_at R (digs 2 r) nr d 3 _ V h (Lib.hid hnrl) (by omega) (by omega) x3 (Lib.hid hx3) b3⟩)
      have PT : ∀ V B10 d10, Bit V B m d M → Bit V B10 (bl 10) d10 10 → Hid (Calls Tryd.prog 64 #[.slice B m d, .slice B10 (bl 10) d10] V fun e w' => ∃ Q dq R dr, e = .returned (.tuple #[.slice Q (bl q) dq, .slice R nr dr]) ∧ Bit w' Q (bl q) dq q ∧ Lim .u8 w'.heap.size w' R (digs 2 r) ∧ Below V.heap.size V w') := fun V B10 d10 h1 h2 => Lib.hid ((partsB B B10 m d d10 M 10 V h1 h2 (by decide) (by omega) (by decide)).mono fun e w' hh => by
        obtain ⟨Q, dq, R, dr, he, hQ, hR, _, _, hb⟩ := hh
        rw [hnr, hq, hr]
        exact ⟨Q, dq, R, dr, he, hQ, hR.list, hb⟩)
      obtain ⟨K, hK⟩ : ∃ K, K = 48 + r := ⟨_, rfl⟩
      have e4 : ((48 : Int) + r) % 256 = (K : Int) := by omega
      have e5 : (x0 : Int) + 2 * x1 + 4 * x2 + 8 * x3 = (r : Int) := by omega
      have hKb : (UInt8.ofNat K).toNat = K := by rw [hK]; exact dec_byte hr10
      have HTX : Hid (Tx N q (UInt8.ofNat K :: os)) := Lib.hid (by rw [hK, hq, hr]; exact HT.out.2.next hM)
      have hqb : bl q ≤ 2000 := Nat.le_trans (bl_mono (Nat.le_of_lt hqm)) (by rw [← hm.out]; exact hml)
      have hk2 : k + 1 ≤ 20000 := by
        have h := congrArg List.length HTX.out
        have h2 := HDL.out
        rw [List.length_append, List.length_cons, HT.out.1] at h
        omega
      have hqlt : Hid (bl q < m) := Lib.hid (by
        rw [hm.out]
        have h2 : q * 2 ≤ M := by omega
        rcases Nat.eq_zero_or_pos q with h3 | h3
        · rw [h3, bl_zero]; exact bl_pos (by omega)
        · have h4 : bl q + 1 ≤ bl (q * 2) := by
            have h5 := digs_pos (b := 2) (n := q * 2) (by decide) (by omega)
            unfold bl
            rw [h5, List.length_cons, Nat.mul_div_cancel _ (by decide)]
            exact Nat.le_refl _
          have h6 := bl_mono h2
          omega)
      have HKB := Lib.hid hKb
      have HOS := Lib.hid HT.out.1
      clear hr hq hdm hx0 hx1 hx2 hx3 hnr hnrl hK hKb HT hm hqm hM
      go_wp2_with fail
      refine (small10 _).mono ?_
      rintro e w1 ⟨B10, d10, rfl, T10, F10, b1'⟩
      have CT := PT w1 B10 d10 (hBM.below b1') T10
      clear PT
      go_wp2_with fail
      refine (CT.out).mono ?_
      rintro e w2 ⟨Q, dq, R, dr, rfl, hQ, hR, b2'⟩
      have CB := Lib.hid (BT.out w2 R dr hR)
      have bb := below_then b1' b2'
      have hO2 := hO.below' bb
      have hbel2 := below_then hbel bb
      clear CT BT T10 F10 b1' b2' bb
      have BO : (w2.alloc (.cells #[.int .u8 K] 5)).ownsRow W.heap.size 5 1 (.slice (some ⟨w2.heap.size, 0, none⟩) 1 1) 1 (cl .u8 [K]) := World.ownsRow_lit (base := W.heap.size) (e := 5) (size := 1) w2 #[.int .u8 K] 1 hbel2.size (by unfold maxLen; omega) rfl
      have hal : Below w2.heap.size w2 (w2.alloc (.cells #[.int .u8 K] 5)) := below_al (Below.refl _ _) _
      have sz : W.heap.size ≤ (w2.alloc (.cells #[.int .u8 K] 5)).heap.size := by have := hbel2.size; simp; omega
      have zl := hO2.below hal
      have hbn : Hid ((bytesN os).length = k) := Lib.hid (by unfold bytesN; rw [List.length_map]; exact HOS.out)
      have e6 : (48 : Int) + r = (K : Int) := by omega
      clear e4
      go_wp2_with (first
        | (go_at_call 74; (with_reducible refine (CB.out.1).mono ?_); rintro e w3 ⟨rfl, rfl⟩)
        | (go_at_call 74; (with_reducible refine (CB.out.2.1).mono ?_); rintro e w3 ⟨rfl, rfl⟩)
        | (go_at_call 74; (with_reducible refine (CB.out.2.2.1).mono ?_); rintro e w3 ⟨rfl, rfl⟩)
        | (go_at_call 74; (with_reducible refine (CB.out.2.2.2).mono ?_); rintro e w3 ⟨rfl, rfl⟩)
        | (at_builtin; refine app_any (k := .u8) 28 5 1 Tryd.underlying28 u8_info (by decide) _ rfl _ _ rfl rfl W.heap.size (.slice (some ⟨w2.heap.size, 0, none⟩) 1 1) 1 [K] rfl BO w2.heap.size O k c (bytesN os) rfl zl hbn (by omega) sz ?_; intro v3 w3 hown3 hgr3; refine Hid.out ?_))
      refine Lib.hid ?_
      obtain ⟨O3, c3, rfl⟩ := own_slice hown3
      have hb0 : Below w2.heap.size w2 w3 := hal.grown hgr3 (by simp) (fun k hk => by simp [Value.ownBlock] at hk; omega)
      have hl3 : Lim .u8 w3.heap.size w3 O3 (bytesN (UInt8.ofNat K :: os)) := by
        have e : bytesN (UInt8.ofNat K :: os) = [K] ++ bytesN os := by unfold bytesN; rw [List.map_cons, HKB.out]; rfl
        rw [e]
        exact Lim.of_own (k := .u8) (xs := [K] ++ bytesN os) (by rw [List.length_append, hbn.out]; exact hown3)
      have hQ3 := hQ.below hb0
      have hb3 := below_then hbel2 hb0
      clear hgr3 hown3 hal BO sz zl hb0 e6 e5
      go_wp2
      go_roundw
      case rel => exact ⟨q, bl q, dq, 1 + k, c3, Q, O3, _, rfl, Lib.hid rfl, hqb, hQ3, rfl, by omega, hl3, Lib.hid ⟨by simp [HOS.out]; omega, HTX.out⟩, hb3⟩
      case measure => simpa [lenOf] using hqlt.out
    · obtain rfl : m = 0 := by omega
      have hM0 : Hid (os = Lib.decDigits N ∧ os.length = k ∧ 0 < k) := Lib.hid (by
        have h1 : M = 0 := by
          rcases Nat.eq_zero_or_pos M with h | h
          · exact h
          · have := bl_pos (N := M) (by omega); have := hm.out; omega
        have h2 := HT.out.2
        unfold Tx at h2
        rw [h1, tailD_zero, List.nil_append] at h2
        have h3 : os = Lib.decDigits N := by rw [h2]; unfold tailD; rw [if_neg (by have := HN.out; omega)]
        refine ⟨h3, HT.out.1, ?_⟩
        rw [← HT.out.1, h3]
        exact dec_len_pos N)
      have hcv := run_conv_bytes (c := c) hO hM0.out.2.1 hM0.out.2.2
      obtain ⟨S, hS⟩ : ∃ S : ByteArray, S = ⟨os.toArray⟩ := ⟨_, rfl⟩
      rw [← hS] at hcv
      have hsz : S.size ≤ 20000 := by
        rw [hS]
        show os.toArray.size ≤ 20000
        simp only [List.size_toArray]
        rw [hM0.out.2.1]
        exact hk
      have HS := Lib.hid hS
      have k2 := (t1.below' hbel).fst
      have HB2 := Lib.hid (below_then hbW hbel)
      clear hm HT hbel hS
      cases neg
      · go_wp2
        go_ret
        exact ⟨by rw [HS.out, hM0.out.1]; rfl, HB2.out⟩
      · go_wp2
        go_ret
        refine ⟨?_, HB2.out⟩
        rw [HS.out, hM0.out.1]
        refine congrArg (fun S => Ending.returned (Value.string S)) (ByteArray.ext ?_)
        rw [ByteArray.data_append]
        simp
set_option maxHeartbeats 800000 in
theorem reftext_zero (neg : Bool) (A1 : Option Addr) (c1 : Nat) (w : World) :
    Calls Tryd.prog 47 #[.agg #[.bool neg, .slice A1 0 c1]] w fun e w' => e = .returned (.string ⟨#[48]⟩) ∧ Below w.heap.size w w' := by
  have t1 := Two.made w 30 (.bool neg) (.slice A1 0 c1)
  have k1 := t1.snd
  go_enter Tryd.func47, Tryd.ntmps47
  go_wp2
  go_ret
  exact ⟨rfl, below_al (Below.refl _ _) _⟩
theorem reftext_at {r : Bool} {B : Option Addr} {m d : Nat} {z : Int} (w : World) (h : BVal w r B m d z) (hm : m ≤ 2000) :
    Calls Tryd.prog 47 #[.agg #[.bool r, .slice B m d]] w fun e w' => e = .returned (.string ⟨(zText z).toArray⟩) ∧ Below w.heap.size w w' := by
  obtain ⟨rfl, rfl, hb⟩ := h
  by_cases h0 : z.natAbs = 0
  · have hz : z = 0 := by omega
    subst hz
    have e : zText 0 = [48] := by
      unfold zText
      rw [if_neg (by decide), show Int.natAbs 0 = 0 from rfl, dec_small (u := 0) (by decide)]
      rfl
    rw [e]
    exact reftext_zero _ B d w
  · refine (reftext_pos _ B _ d z.natAbs w hb (Lib.hid rfl) (by omega) hm).mono fun e w' ⟨he, hw⟩ => ⟨?_, hw⟩
    rw [he]
    unfold zText
    by_cases hz : z < 0
    · simp [hz]
    · simp [hz]
end Go.Proofs.YtocoflojlliapaaDoor
