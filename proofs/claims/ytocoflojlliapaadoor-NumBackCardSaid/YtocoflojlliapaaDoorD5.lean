import Derived.Test.YtocoflojlliapaaDoorD4
import Derived.Deep.LoopGhost
set_option linter.unusedVariables false
namespace Go.Proofs.YtocoflojlliapaaDoor
open Go.RowKit
theorem own_lim {w : World} {base n c : Nat} {A : Option Addr} {xs : List Nat} (h : w.ownsRow base 43 1 (.slice A n c) n (cl .u32 xs)) (hn : xs.length = n) : Lim .u32 w.heap.size w A xs := by
  subst hn
  exact Lim.of_own h
theorem own_below {w w' : World} {base e n : Nat} {v : Value} {xs : List Value} (h : w.ownsRow base e 1 v n xs) (hb : Below w.heap.size w w') : w'.ownsRow base e 1 v n xs := by
  have hg : w.grownBy w' none := ⟨hb.os, hb.tape, hb.output, hb.size, fun k hk _ => hb.block k hk⟩
  refine h.kept hg ?_
  cases hob : v.ownBlock
  · exact .inl rfl
  · exact .inr (by simp)
theorem Mag.kept {w w' : World} {g o n c N : Nat} {row : Option Nat} (h : Mag w (some ⟨g, o, none⟩) n c N) (hg : w.grownBy w' row) (hne : some g ≠ row) : Mag w' (some ⟨g, o, none⟩) n c N := by
  obtain ⟨xs, h1, h2, h3, h4, h5⟩ := h
  refine ⟨xs, fun h0 => ?_, h2, h3, h4, h5⟩
  obtain ⟨ad, e, hb, hc⟩ := h1 h0
  injection e with e
  subst e
  exact ⟨_, rfl, Nat.lt_of_lt_of_le hb hg.size, fun i hi => (World.cell?_of_block (by rw [add_block]; exact hg.block g hb hne)).trans (hc i hi)⟩
/-- the groups by now, and what is left -/
def Grp (N M : Nat) (gs : List Nat) : Prop := digs 1000000000 N = gs ++ digs 1000000000 M ∧ gs.length ≤ 1000
theorem Grp.next {N M : Nat} {gs : List Nat} (h : Grp N M gs) (hM : M ≠ 0) (hN : (digs 1000000000 N).length ≤ 1000) : Grp N (M / 1000000000) (gs ++ [M % 1000000000]) := by
  have e : digs 1000000000 N = (gs ++ [M % 1000000000]) ++ digs 1000000000 (M / 1000000000) := by
    rw [h.1, digs_pos (by decide) hM]
    simp
  refine ⟨e, ?_⟩
  rw [e] at hN
  simp only [List.length_append] at hN ⊢
  omega
/-- what is written by now: k groups, the highest first -/
def Out (pre : List UInt8) (rs : List Nat) (k : Nat) (l : List UInt8) : Prop :=
  (k = 0 ∧ l = pre) ∨ (k ≠ 0 ∧ 1 ≤ val 1000000000 (rs.take k).reverse ∧ l = pre ++ Lib.decDigits (val 1000000000 (rs.take k).reverse))
theorem rev_take {rs : List Nat} {k : Nat} (h : k < rs.length) : (rs.take (k + 1)).reverse = rs[k] :: (rs.take k).reverse := by
  rw [take_snoc rs k h, List.reverse_append]
  rfl
theorem Out.first {pre l : List UInt8} {rs : List Nat} {R : Nat} (h : Out pre rs 0 l) (hl : 0 < rs.length) (hR : rs[0] = R) (h1 : R ≠ 0) : Out pre rs 1 (l ++ Lib.decDigits R) := by
  rcases h with ⟨_, rfl⟩ | ⟨h0, _⟩
  · have e : (rs.take (0 + 1)).reverse = [R] := by rw [rev_take hl, hR]; simp
    refine .inr ⟨by decide, ?_, ?_⟩ <;> rw [show (1 : Nat) = 0 + 1 from rfl, e] <;> simp [val]
    omega
  · exact absurd rfl h0
theorem Out.next {pre l : List UInt8} {rs : List Nat} {k R : Nat} (h : Out pre rs k l) (hk : k ≠ 0) (hl : k < rs.length) (hR : rs[k] = R) (h1 : R < 1000000000) :
    Out pre rs (k + 1) (l ++ List.replicate (9 - (Lib.decDigits R).length) 48 ++ Lib.decDigits R) := by
  rcases h with ⟨h0, _⟩ | ⟨_, h2, rfl⟩
  · exact absurd h0 hk
  · have e : val 1000000000 (rs.take (k + 1)).reverse = val 1000000000 (rs.take k).reverse * 10 ^ 9 + R := by
      rw [rev_take hl, hR]
      simp only [val]
      omega
    refine .inr ⟨by omega, by omega, ?_⟩
    rw [e, dec_pad _ h2 9 R h1, padL_dec 8 R h1]
    simp
theorem Out.done {pre l : List UInt8} {rs gs : List Nat} {N : Nat} (h : Out pre rs gs.length l) (hrs : rs = gs.reverse) (hg : gs = digs 1000000000 N) (hN : N ≠ 0) : l = pre ++ Lib.decDigits N := by
  have e : (rs.take gs.length).reverse = gs := by
    rw [hrs, List.take_of_length_le (by simp), List.reverse_reverse]
  rcases h with ⟨h0, _⟩ | ⟨_, _, rfl⟩
  · rw [hg] at h0
    exact absurd ((digs_nil (by decide)).1 (List.length_eq_zero_iff.1 h0)) hN
  · rw [e, hg, digs_val (by decide)]
theorem rev_head {gs : List Nat} {N : Nat} (hg : gs = digs 1000000000 N) (h : 0 < gs.reverse.length) : gs.reverse[0] ≠ 0 := by
  have hne : gs ≠ [] := by
    intro h0
    rw [h0] at h
    simp at h
  have e : gs = gs.dropLast ++ [gs.getLast hne] := (List.dropLast_concat_getLast hne).symm
  have h1 := digs_last (by decide) (hg.symm.trans e)
  rw [List.getElem_reverse]
  rw [List.getLast_eq_getElem] at h1
  simpa using h1
set_option maxHeartbeats 6400000 in
theorem text_groups (neg : Bool) (A : Option Addr) (n c N : Nat) (w : World) (h : Mag w A n c N) (hl : n ≤ 100) (hN : N ≠ 0) (htab : Tab w) :
    Calls Tryd.prog 46 #[.agg #[.bool neg, .slice A n c]] w fun e w' => e = .returned (.string ⟨(textL neg N).toArray⟩) ∧ Below w.heap.size w w' := by
  have hdl : dl N ≤ 100 := Nat.le_trans h.le hl
  have h9 : (digs 1000000000 N).length ≤ 1000 := by have := digs9_len N 100 hdl; omega
  have H9 := Lib.hid h9
  clear h9
  obtain ⟨W, hW⟩ : ∃ W, W = w.alloc (.cells #[.bool neg, .slice A n c] 24) := ⟨_, rfl⟩
  have hT : Two W w.heap.size 24 (.bool neg) (.slice A n c) := by rw [hW]; exact Two.made w 24 _ _
  have hbW : Below w.heap.size w W := by rw [hW]; exact below_al (Below.refl _ _) _
  have hM0 : Mag W A n c N := h.below hbW
  have htW : Tab W := htab.below hbW
  have c0 := hT.fst
  have c1 := hT.snd
  go_enter Tryd.func46, Tryd.ntmps46
  go_wp2_with fail
  rw [← hW]
  have HW := Lib.hid hW
  clear hW
  refine (trim_mag A n c N _ hM0 (by omega)).mono ?_
  rintro e w' ⟨rfl, rfl⟩
  go_wp2_with fail
  go_loopg [3, 4] N (fun M gv mv wr => ∃ (gs : List Nat) (A' : Option Addr) (c' : Nat) (B' : Option Addr) (d' : Nat), dl M ≤ 100 ∧ mv = .slice A' (dl M) c' ∧ gv = .slice B' gs.length d' ∧ Mag wr A' (dl M) c' M ∧ wr.ownsRow W.heap.size 43 1 (.slice B' gs.length d') gs.length (cl .u32 gs) ∧ Hid (Grp N M gs) ∧ Below W.heap.size W wr)
  case atStart => exact ⟨[], A, c, none, 0, hdl, rfl, rfl, hM0.trim, own_nil, Lib.hid ⟨rfl, by decide⟩, Below.refl _ _⟩
  case round =>
    obtain ⟨gs, A', c', B', d', hMl, rfl, rfl, hMm, hown, hG, hbel⟩ := hrel
    by_cases hM : gk = 0
    · subst hM
      obtain ⟨wo, hwo⟩ : ∃ wo : World, wo = wr := ⟨_, rfl⟩
      subst hwo
      have hd : (dl 0 : Int) ≤ 0 := by rw [dl_zero]; exact Int.le_refl 0
      have hgd : Hid (gs = digs 1000000000 N) := Lib.hid (by have := hG.out.1; rw [digs_zero, List.append_nil] at this; exact this.symm)
      have hglen : gs.length ≤ 1000 := hG.out.2
      have hgpos : 0 < gs.length := by
        rw [hgd.out]
        rcases hdd : digs 1000000000 N with _ | ⟨x, l⟩
        · exact absurd ((digs_nil (by decide)).1 hdd) hN
        · simp
      have hgz : ((gs.length : Int) == 0) = false := beq_eq_false_iff_ne.2 (by omega)
      have hlow : Hid (Low 1000000000 gs) := Lib.hid (by rw [hgd.out]; exact digs_low (by decide) N)
      have hk0 : ∀ o, (wo.alloc o).cell? ⟨w.heap.size, 0, none⟩ = some (.bool neg) := fun o => ((hT.below' hbel).alloc o).fst
      have hfresh : Bld wo.heap.size wo.heap.size [] (wo.alloc (.cells #[.pointer none, .slice none 0 0] 85)) := Lib.fresh_isBuilder 85 5 wo
      have hbw : Below wo.heap.size wo (wo.alloc (.cells #[.pointer none, .slice none 0 0] 85)) := below_al (Below.refl _ _) _
      have hlim : Lim .u32 wo.heap.size wo B' gs := own_lim hown rfl
      have htr : Tab wo := htW.below hbel
      have hsz1 : wo.heap.size ≤ (wo.alloc (.cells #[.pointer none, .slice none 0 0] 85)).heap.size := hbw.size
      have HNZ := Lib.hid hN
      clear hN hG hM0 h c1
      have HT := fun w h => Lib.hid (turned_at B' gs gs.length d' w h (Lib.hid rfl) (by omega))
      cases neg
      · go_wp2_with (go_at_call 68; refine ((HT _ ((hlim.below hbw).more hsz1)).out).mono ?_; rintro e W3 ⟨rfl, hn3, hb3⟩; refine Hid.out ?_)
        refine Lib.hid ?_
        have HN3 : Hid (Nums .u32 43 W3 (wo.heap.size + 1) gs.reverse) := Lib.hid (by simpa using hn3)
        have HBLD := Lib.hid (hfresh.below hb3)
        have hbe3 : Below wo.heap.size wo W3 := below_then hbw hb3
        clear hn3 hfresh
        clear hk0
        have hbk : wo.heap.size < W3.heap.size := HBLD.out.lt
        go_wp2_with fail
        go_loopw [34] (fun i wr => ∃ (k : Nat) (l : List UInt8), k ≤ gs.length ∧ i = .int .i64 k ∧ Hid (Bld wo.heap.size wo.heap.size l wr) ∧ Hid (Out [] gs.reverse k l) ∧ l.length ≤ 20 * k + 1 ∧ Nums .u32 43 wr (wo.heap.size + 1) gs.reverse ∧ Below wo.heap.size wo wr) (fun i _ => gs.length - (intOf i).toNat)
        case atStart => exact ⟨0, [], Nat.zero_le _, rfl, HBLD, Lib.hid (.inl ⟨rfl, rfl⟩), by simp, HN3.out, hbe3⟩
        case round =>
          obtain ⟨k, l, hk, rfl, hB, hO, hll, hN, hbq⟩ := hrel
          have hBs : wo.heap.size ≤ wr.heap.size := Nat.le_of_lt hB.out.lt
          by_cases hlt : k < gs.length
          · have hrl : k < gs.reverse.length := by simpa using hlt
            have cell := hN.at hrl
            have hRl : gs.reverse[k] < 1000000000 := hlow.out.rev.at hrl
            obtain ⟨R, hR⟩ : ∃ R, R = gs.reverse[k] := ⟨_, rfl⟩
            rw [← hR] at cell hRl
            have KR := Lib.hid hR.symm
            clear hR
            have htq : Tab wr := htr.below hbq
            have hD1 := dec_len_le 8 R hRl
            have hD2 := dec_len_pos R
            obtain ⟨D, hD⟩ : ∃ D, D = Lib.decDigits R := ⟨_, rfl⟩
            have F := fun w h => Lib.hid (fmt_any R (by omega) w h)
            rw [← hD] at F hD1 hD2
            have KD := Lib.hid hD
            clear hD
            have hds : (⟨D.toArray⟩ : ByteArray).size = D.length := by simp [ByteArray.size]
            by_cases hk0 : k = 0
            · have HK0 := Lib.hid hk0
              have hkz : (k : Int) ≤ 0 := by omega
              clear hk0
              go_wp2_with (first
                | (go_at_call 69; refine ((F _ htq).out).mono ?_; rintro e w4 ⟨rfl, hb4⟩)
                | (go_at_call 70; refine (writeString_any wo.heap.size wo.heap.size l D _ (hB.out.below hb4) (by omega) (by omega) (by have := hb4.size; omega)).mono ?_; rintro e w5 ⟨rfl, hB5, hb5, hs5, hz5⟩))
              have hz4 := hb4.size
              have hb5' : Below wo.heap.size wr w5 := (hb4.mono hBs).trans hb5
              go_roundw
              case rel => exact ⟨k + 1, l ++ D, by omega, by go_num, Lib.hid hB5, Lib.hid (by
                have e0 := HK0.out
                subst e0
                rw [KD.out]
                exact hO.out.first hrl KR.out (by rw [← KR.out]; exact rev_head hgd.out hrl)), by simp; omega, hs5.nums (hN.below hb4 hN.lt) (by omega) (by decide), hbq.trans hb5'⟩
              case measure => simp [intOf]; omega
            · have ec : (9 : Int) - D.length = ((9 - D.length : Nat) : Int) := by omega
              have hkp : (0 : Int) < k := by omega
              have RP := fun w => Lib.hid (Tryd.strings_Repeat ⟨#[48]⟩ (9 - D.length) w (by omega) (by simp [ByteArray.size]; omega))
              have er : Lib.repeatL (⟨#[48]⟩ : ByteArray).data.toList (9 - D.length) = List.replicate (9 - D.length) 48 := repeat_zero _
              rw [er] at RP
              clear er
              obtain ⟨P, hP⟩ : ∃ P, P = List.replicate (9 - D.length) (48 : UInt8) := ⟨_, rfl⟩
              have hPl : P.length ≤ 9 := by rw [hP]; simp
              rw [← hP] at RP
              have KP := Lib.hid hP
              clear hP
              go_wp2_with (first
                | (go_at_call 69; refine ((F _ htq).out).mono ?_; rintro e w4 ⟨rfl, hb4⟩)
                | (go_at_call 71; refine ((RP _).out).mono ?_; rintro e w5 ⟨rfl, hb5⟩)
                | (go_at_call 70; (first | (with_reducible refine (writeString_any wo.heap.size wo.heap.size l P _ ((hB.out.below hb4).below hb5) (by omega) (by omega) (by have := hb4.size; have := hb5.size; omega)).mono ?_; rintro e w6 ⟨rfl, hB6, hb6, hs6, hz6⟩) | (with_reducible refine (writeString_any wo.heap.size wo.heap.size (l ++ P) D _ hB6 (by simp; omega) (by omega) (by have := hb4.size; have := hb5.size; omega)).mono ?_; rintro e w7 ⟨rfl, hB7, hb7, hs7, hz7⟩))))
              have hz4 := hb4.size
              have hz5 := hb5.size
              have hbs7 : Below wo.heap.size wr w7 := (((hb4.mono hBs).trans (hb5.mono (by omega))).trans hb6).trans hb7
              go_roundw
              case rel => exact ⟨k + 1, l ++ P ++ D, by omega, by go_num, Lib.hid hB7, Lib.hid (by
                rw [KD.out, KP.out, KD.out]
                exact hO.out.next hk0 hrl KR.out hRl), by simp; omega, hs7.nums (hs6.nums ((hN.below hb4 hN.lt).below hb5 (Nat.lt_of_lt_of_le hN.lt hz4)) (by omega) (by decide)) (by omega) (by decide), hbq.trans hbs7⟩
              case measure => simp [intOf]; omega
          · obtain rfl : gs.length = k := by omega
            have hfin : Hid (l = [] ++ Lib.decDigits N) := Lib.hid (hO.out.done rfl hgd.out HNZ.out)
            go_wp2_with (go_at_call 72; refine (Tryd.Builder_String_any wo.heap.size wo.heap.size l _ hB.out hBs).mono ?_; rintro e w4 ⟨rfl, hb4⟩)
            go_ret
            refine ⟨?_, below_then hbW (below_then hbel (hbq.trans hb4))⟩
            rw [hfin.out]
            simp [textL, HNZ.out]
      · go_wp2_with (first
          | (go_at_call 67; refine (writeByte_any wo.heap.size wo.heap.size [] 45 _ hfresh (by decide) hsz1).mono ?_; rintro e W2 ⟨rfl, hB2, hb2, hs2, hz2⟩)
          | (go_at_call 68; refine ((HT _ (((hlim.below hbw).below hb2).more (by omega))).out).mono ?_; rintro e W3 ⟨rfl, hn3, hb3⟩; refine Hid.out ?_))
        refine Lib.hid ?_
        have HN3 := Lib.hid hn3
        have HBLD := Lib.hid (hB2.below hb3)
        have hbe3 : Below wo.heap.size wo W3 := (hbw.trans hb2).trans (hb3.mono (by omega))
        have hgne : wo.heap.size < W2.heap.size := by simp at hz2; omega
        clear hn3 hfresh hB2
        clear hk0
        have hbk : wo.heap.size < W3.heap.size := HBLD.out.lt
        go_wp2_with fail
        go_loopw [34] (fun i wr => ∃ (k : Nat) (l : List UInt8), k ≤ gs.length ∧ i = .int .i64 k ∧ Hid (Bld wo.heap.size wo.heap.size l wr) ∧ Hid (Out [45] gs.reverse k l) ∧ l.length ≤ 20 * k + 1 ∧ Nums .u32 43 wr W2.heap.size gs.reverse ∧ Below wo.heap.size wo wr) (fun i _ => gs.length - (intOf i).toNat)
        case atStart => exact ⟨0, [45], Nat.zero_le _, rfl, HBLD, Lib.hid (.inl ⟨rfl, rfl⟩), by simp, HN3.out, hbe3⟩
        case round =>
          obtain ⟨k, l, hk, rfl, hB, hO, hll, hN, hbq⟩ := hrel
          have hBs : wo.heap.size ≤ wr.heap.size := Nat.le_of_lt hB.out.lt
          by_cases hlt : k < gs.length
          · have hrl : k < gs.reverse.length := by simpa using hlt
            have cell := hN.at hrl
            have hRl : gs.reverse[k] < 1000000000 := hlow.out.rev.at hrl
            obtain ⟨R, hR⟩ : ∃ R, R = gs.reverse[k] := ⟨_, rfl⟩
            rw [← hR] at cell hRl
            have KR := Lib.hid hR.symm
            clear hR
            have htq : Tab wr := htr.below hbq
            have hD1 := dec_len_le 8 R hRl
            have hD2 := dec_len_pos R
            obtain ⟨D, hD⟩ : ∃ D, D = Lib.decDigits R := ⟨_, rfl⟩
            have F := fun w h => Lib.hid (fmt_any R (by omega) w h)
            rw [← hD] at F hD1 hD2
            have KD := Lib.hid hD
            clear hD
            have hds : (⟨D.toArray⟩ : ByteArray).size = D.length := by simp [ByteArray.size]
            by_cases hk0 : k = 0
            · have HK0 := Lib.hid hk0
              have hkz : (k : Int) ≤ 0 := by omega
              clear hk0
              go_wp2_with (first
                | (go_at_call 69; refine ((F _ htq).out).mono ?_; rintro e w4 ⟨rfl, hb4⟩)
                | (go_at_call 70; refine (writeString_any wo.heap.size wo.heap.size l D _ (hB.out.below hb4) (by omega) (by omega) (by have := hb4.size; omega)).mono ?_; rintro e w5 ⟨rfl, hB5, hb5, hs5, hz5⟩))
              have hz4 := hb4.size
              have hb5' : Below wo.heap.size wr w5 := (hb4.mono hBs).trans hb5
              go_roundw
              case rel => exact ⟨k + 1, l ++ D, by omega, by go_num, Lib.hid hB5, Lib.hid (by
                have e0 := HK0.out
                subst e0
                rw [KD.out]
                exact hO.out.first hrl KR.out (by rw [← KR.out]; exact rev_head hgd.out hrl)), by simp; omega, hs5.nums (hN.below hb4 hN.lt) (by omega) (by decide), hbq.trans hb5'⟩
              case measure => simp [intOf]; omega
            · have ec : (9 : Int) - D.length = ((9 - D.length : Nat) : Int) := by omega
              have hkp : (0 : Int) < k := by omega
              have RP := fun w => Lib.hid (Tryd.strings_Repeat ⟨#[48]⟩ (9 - D.length) w (by omega) (by simp [ByteArray.size]; omega))
              have er : Lib.repeatL (⟨#[48]⟩ : ByteArray).data.toList (9 - D.length) = List.replicate (9 - D.length) 48 := repeat_zero _
              rw [er] at RP
              clear er
              obtain ⟨P, hP⟩ : ∃ P, P = List.replicate (9 - D.length) (48 : UInt8) := ⟨_, rfl⟩
              have hPl : P.length ≤ 9 := by rw [hP]; simp
              rw [← hP] at RP
              have KP := Lib.hid hP
              clear hP
              go_wp2_with (first
                | (go_at_call 69; refine ((F _ htq).out).mono ?_; rintro e w4 ⟨rfl, hb4⟩)
                | (go_at_call 71; refine ((RP _).out).mono ?_; rintro e w5 ⟨rfl, hb5⟩)
                | (go_at_call 70; (first | (with_reducible refine (writeString_any wo.heap.size wo.heap.size l P _ ((hB.out.below hb4).below hb5) (by omega) (by omega) (by have := hb4.size; have := hb5.size; omega)).mono ?_; rintro e w6 ⟨rfl, hB6, hb6, hs6, hz6⟩) | (with_reducible refine (writeString_any wo.heap.size wo.heap.size (l ++ P) D _ hB6 (by simp; omega) (by omega) (by have := hb4.size; have := hb5.size; omega)).mono ?_; rintro e w7 ⟨rfl, hB7, hb7, hs7, hz7⟩))))
              have hz4 := hb4.size
              have hz5 := hb5.size
              have hbs7 : Below wo.heap.size wr w7 := (((hb4.mono hBs).trans (hb5.mono (by omega))).trans hb6).trans hb7
              go_roundw
              case rel => exact ⟨k + 1, l ++ P ++ D, by omega, by go_num, Lib.hid hB7, Lib.hid (by
                rw [KD.out, KP.out, KD.out]
                exact hO.out.next hk0 hrl KR.out hRl), by simp; omega, hs7.nums (hs6.nums ((hN.below hb4 hN.lt).below hb5 (Nat.lt_of_lt_of_le hN.lt hz4)) (by omega) (by decide)) (by omega) (by decide), hbq.trans hbs7⟩
              case measure => simp [intOf]; omega
          · obtain rfl : gs.length = k := by omega
            have hfin : Hid (l = [45] ++ Lib.decDigits N) := Lib.hid (hO.out.done rfl hgd.out HNZ.out)
            go_wp2_with (go_at_call 72; refine (Tryd.Builder_String_any wo.heap.size wo.heap.size l _ hB.out hBs).mono ?_; rintro e w4 ⟨rfl, hb4⟩)
            go_ret
            refine ⟨?_, below_then hbW (below_then hbel (hbq.trans hb4))⟩
            rw [hfin.out]
            simp [textL, HNZ.out]
    · have hp := dl_pos hM
      have hdm : gk / 1000000000 < gk := Nat.div_lt_self (by omega) (by decide)
      have hdl2 : dl (gk / 1000000000) ≤ 100 := Nat.le_trans (dl_mono (Nat.le_of_lt hdm)) hMl
      have hgl : gs.length ≤ 1000 := hG.out.2
      have HG2 := Lib.hid (hG.out.next hM H9.out)
      have HM := Lib.hid hM
      clear hM
      have hmod : gk % 1000000000 < 4294967296 := by omega
      have HBL := fun w h => Lib.hid (byLimb_mag A' (dl gk) c' gk 1000000000 w h (by omega) (by decide) (by decide))
      generalize hq : gk / 1000000000 = Q at *
      generalize hr : gk % 1000000000 = R at *
      clear hq hr
      go_wp2_with (first
        | (go_at_call 66; refine ((HBL _ hMm).out).mono ?_; rintro e w1 ⟨rfl, hm1, hb1⟩)
        | (at_builtin; refine app_any (k := .u32) 22 43 4 Tryd.underlying22 u32_info (by decide) _ rfl _ _ rfl rfl W.heap.size (.slice B' gs.length d') gs.length _ rfl (((own_below hown hb1)).alloc _) _ (some ⟨w1.heap.size, 0, none⟩) 1 1 [R] rfl (one_lim .u32 w1 43 R) (Lib.hid rfl) (by omega) (by have := (below_then hbel hb1).size; simp; omega) ?_; intro v2 w2 hown2 hgr2))
      obtain ⟨B2, d2, rfl⟩ := own_slice hown2
      have hbe : Below W.heap.size W w1 := below_then hbel hb1
      have hm2 : Mag w2 (some ⟨wr.heap.size, 0, none⟩) (dl Q) (dl gk) Q := (hm1.alloc _).kept hgr2 (fun e => by have := (hown.lt _ e.symm).2; omega)
      have hbf : Below W.heap.size W w2 := (below_al hbe _).grown hgr2 (below_al hbe _).size (own_ge hown)
      go_roundg Q
      case rel => exact ⟨gs ++ [R], _, _, B2, d2, hdl2, rfl, by simp, hm2, by simpa using hown2, HG2, hbf⟩
      case measure => exact hdm
end Go.Proofs.YtocoflojlliapaaDoor
