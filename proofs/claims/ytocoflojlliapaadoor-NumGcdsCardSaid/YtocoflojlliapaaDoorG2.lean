/- The greatest number that divides all of a row. -/
import Derived.Test.YtocoflojlliapaaDoorG1
import Derived.Test.YtocoflojlliapaaDoorT2
set_option linter.unusedVariables false
namespace Go.Proofs.YtocoflojlliapaaDoor
open Go.RowKit
/-- a row of numbers in memory: their magnitudes -/
def Row24 (w : World) (A : Option Addr) (ms : List Nat) : Prop :=
  ∀ i (h : i < ms.length), ∃ ad p q r B m c, A = some ad ∧ ad.add (i * 2) = p ∧ p.add 1 = q ∧ ad.block < w.heap.size ∧ w.cell? p = some (.bool r) ∧ w.cell? q = some (.slice B m c) ∧ m ≤ 1000 ∧ Mag w B m c (ms[i])
theorem Row24.below {w w' : World} {A : Option Addr} {ms : List Nat} (h : Row24 w A ms) (hb : Below w.heap.size w w') : Row24 w' A ms := by
  intro i hi
  obtain ⟨ad, p, q, r, B, m, c, h1, h2, h3, h4, h5, h6, h7, h8⟩ := h i hi
  have e1 : p.block = ad.block := by rw [← h2, add_block]
  have e2 : q.block = ad.block := by rw [← h3, add_block, e1]
  exact ⟨ad, p, q, r, B, m, c, h1, h2, h3, Nat.lt_of_lt_of_le h4 hb.size, (hb.cell (by rw [e1]; exact h4)).trans h5, (hb.cell (by rw [e2]; exact h4)).trans h6, h7, h8.below hb⟩
def gcdL (ms : List Nat) : Nat := ms.foldl Nat.gcd 0
theorem gcdL_next {ms : List Nat} {i : Nat} (h : i < ms.length) : gcdL (ms.take (i + 1)) = Nat.gcd (gcdL (ms.take i)) (ms[i]) := by
  unfold gcdL
  rw [List.take_succ_eq_append_getElem h, List.foldl_append]
  rfl
theorem dl_gcd {a b k : Nat} (ha : dl a ≤ k) (hb : dl b ≤ k) : dl (Nat.gcd a b) ≤ k := by
  rcases Nat.eq_zero_or_pos a with h | h
  · subst h
    rw [Nat.gcd_zero_left]
    exact hb
  · exact Nat.le_trans (dl_mono (Nat.gcd_le_left b h)) ha
set_option maxHeartbeats 3200000 in
theorem gcd_at (A : Option Addr) (n c : Nat) (ms : List Nat) (w : World) (h : Row24 w A ms) (hn : ms.length = n) (hl : n ≤ 1000000) :
    Calls Tryd.prog 44 #[.slice A n c] w fun e w' => TellsF w w' e (gcdL ms : Nat) := by
  obtain ⟨W, hW⟩ : ∃ W, W = w.alloc (.cells #[.bool false, .slice none 0 0] 24) := ⟨_, rfl⟩
  have hbW : Below w.heap.size w W := by rw [hW]; exact below_al (Below.refl _ _) _
  have t1 : Two W w.heap.size 24 (.bool false) (.slice none 0 0) := by rw [hW]; exact Two.made w 24 _ _
  have hWs : W.heap.size = w.heap.size + 1 := by rw [hW]; simp
  replace h := h.below hbW
  have HN := Lib.hid hn
  clear hn
  go_enter Tryd.func44, Tryd.ntmps44
  go_wp2_with fail
  rw [← hW]
  have HW := Lib.hid hW
  have HWS := Lib.hid hWs
  clear hW hWs
  go_loopw [4, 9] (fun av iv wr => ∃ (i k : Nat) (B : Option Addr) (d g : Nat), i ≤ n ∧ iv = .int .i64 i ∧ av = .slice B k d ∧ k ≤ 1000 ∧ Hid (dl g = k ∧ g = gcdL (ms.take i)) ∧ Mag wr B k d g ∧ Below W.heap.size W wr) (fun _ iv _ => n - (intOf iv).toNat)
  case atStart => exact ⟨0, 0, none, 0, 0, Nat.zero_le _, rfl, rfl, by omega, Lib.hid ⟨dl_zero, rfl⟩, Mag.none_ _, Below.refl _ _⟩
  case round =>
    obtain ⟨i, k, B, d, g, hi, rfl, rfl, hk, HG, hm, hbel⟩ := hrel
    by_cases hlt : i < n
    · have hil : i < ms.length := by rw [HN.out]; exact hlt
      obtain ⟨ad, ⟨pb, po, ps⟩, ⟨qb, qo, qs⟩, r, B2, m2, c2, rfl, hp, hq, hab, k1, k2, hm2, hmag⟩ := h.below hbel i hil
      obtain ⟨M, hM⟩ : ∃ M, ms[i] = M := ⟨_, rfl⟩
      rw [hM] at hmag
      have HG2 : Hid (gcdL (ms.take (i + 1)) = Nat.gcd g M) := Lib.hid (by rw [gcdL_next hil, hM, ← HG.out.2])
      have hdg : dl (Nat.gcd g M) ≤ 1000 := dl_gcd (by rw [HG.out.1]; exact hk) (Nat.le_trans hmag.le hm2)
      have hba : Below wr.heap.size wr (wr.alloc (.cells #[.bool r, .slice B2 m2 c2] 24)) := below_al (Below.refl _ _) _
      have CM := Lib.hid (common_at B B2 d c2 g M _ (by rw [HG.out.1]; exact hm.below hba) (hmag.below hba).trim (by rw [HG.out.1]; exact hk) (Nat.le_trans hmag.le hm2))
      rw [HG.out.1] at CM
      obtain ⟨j, hj⟩ : ∃ j, dl M = j := ⟨_, rfl⟩
      obtain ⟨q, hq2⟩ : ∃ q, dl (Nat.gcd g M) = q := ⟨_, rfl⟩
      rw [hj, hq2] at CM
      rw [hq2] at hdg
      have TR := Lib.hid (trim_mag B2 m2 c2 M _ (hmag.below hba) (by omega))
      rw [hj] at TR
      clear hM hj hmag HG
      go_wp2_with fail
      refine (TR.out).mono ?_
      rintro e w' ⟨rfl, rfl⟩
      go_wp2_with fail
      refine (CM.out).mono ?_
      rintro e w1 ⟨B3, d3, rfl, hm3, hb1⟩
      have hb3 := below_then hbel (below_then hba hb1)
      have HG3 : Hid (dl (Nat.gcd g M) = q ∧ Nat.gcd g M = gcdL (ms.take (i + 1))) := Lib.hid ⟨hq2, HG2.out.symm⟩
      clear hq2 CM TR
      go_wp2_with fail
      go_roundw
      case rel => exact ⟨i + 1, q, B3, d3, Nat.gcd g M, by omega, by go_num, rfl, hdg, HG3, hm3, hb3⟩
      case measure => simp [intOf]; omega
    · obtain rfl : n = i := by omega
      have HE : Hid (g = gcdL ms) := Lib.hid (by rw [HG.out.2, List.take_of_length_le (by rw [HN.out]; exact Nat.le_refl _)])
      have hbx : Below wr.heap.size wr (wr.alloc (.cells #[.bool false] 4)) := below_al (Below.refl _ _) _
      go_wp2_with (first
        | (go_at_call 52; refine (signed_any false _).mono ?_; rintro e w' ⟨rfl, rfl⟩)
        | (go_at_call 79; refine (signed1_any wr.heap.size false B k d g _ (one_made _ _ _) (hm.alloc _) (by omega)).mono ?_; rintro e ws ⟨rr, AA, mm, cc, vv, rfl, ha⟩; have hbs : Below W.heap.size W ws := below_then hbel (below_then hbx ha.low); have z3 := (t1.below' hbs).fst; have z4 := (t1.below' hbs).snd; have z5 := (t1.below' hbs).free 0; have z6 := (t1.below' hbs).free 1))
      refine bodyPost_ret (v := .tuple #[.agg #[.bool rr, .slice AA mm cc], .int .i64 vv]) (by simp [results, Tryd.results44, go_sem, z3, z4]) rfl ?_
      rw [← HE.out]
      exact Gives.tellsF ⟨false, g, ⟨rr, AA, mm, cc, vv, rfl, ha.two (g := w.heap.size) (below_al (below_then hbW hbel) _) (by omega) (by have := hbel.size; have := HWS.out; simp; omega)⟩, sg_false g⟩
end Go.Proofs.YtocoflojlliapaaDoor
