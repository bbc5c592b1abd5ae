/- The document's number of a text: of digits. -/
import Derived.Test.YtocoflojlliapaaDoorV1
import Derived.Deep.RegionHeld3
set_option linter.unusedVariables false
namespace Go.Proofs.YtocoflojlliapaaDoor
open Go.RowKit
/-- what the document's Parse answers of digits that come to N -/
def PSaid (w w' : World) (e : Ending) (neg : Bool) (N : Nat) : Prop :=
  (bl N ≤ 1536 ∧ ∃ B d, e = .returned (.tuple #[.agg #[.bool (signB neg N), .slice B (bl N) d], .int .i64 0]) ∧ Bit w' B (bl N) d N ∧ Below w.heap.size w w') ∨
    (1536 < bl N ∧ e = .returned (.tuple #[.agg #[.bool false, .slice none 0 0], .int .i64 6]) ∧ Below w.heap.size w w')
set_option maxHeartbeats 6400000 in
set_option maxRecDepth 100000 in
theorem refparse_dig (s : ByteArray) (a : Nat) (neg : Bool) (N : Nat) (w : World) (hs : s.size ≤ 1000) (hb : Hid (Begins s a)) (hneg : Hid (∃ h : 0 < s.size, (((s[0]).toNat : Int) == 45) = neg)) (hla : a < s.size) (hd : Hid (isDig (s.data.toList.drop a))) (hN : Hid (decVal (s.data.toList.drop a) = N)) :
    Calls Tryd.prog 49 #[.string s] w fun e w' => PSaid w w' e neg N := by
  obtain ⟨W, hW⟩ : ∃ W, W = w.alloc (.cells #[.bool false, .slice none 0 0] 30) := ⟨_, rfl⟩
  have hbW : Below w.heap.size w W := by rw [hW]; exact below_al (Below.refl _ _) _
  have t1 : Two W w.heap.size 30 (.bool false) (.slice none 0 0) := by rw [hW]; exact Two.made w 30 _ _
  have ha1 := hb.out.le.2.2
  have hpos := hb.out.le.2.1
  have HD : Hid (∀ (j : Nat) (h : j < s.size), a ≤ j → dg1 (s[j])) := Lib.hid (fun j h hj => by
    refine hd.out _ ?_
    have hj2 : j - a < (s.data.toList.drop a).length := by rw [List.length_drop, ← Lib.size_eq]; omega
    have e : (s.data.toList.drop a)[j - a] = s[j] := by
      rw [List.getElem_drop]
      have : a + (j - a) = j := by omega
      simp only [this]
      rfl
    rw [← e]
    exact List.getElem_mem hj2)
  have HT : Hid (∀ (k : Nat) (h : k < s.size), a ≤ k → decVal ((s.data.toList.drop a).take (k + 1 - a)) = decVal ((s.data.toList.drop a).take (k - a)) * 10 + ((s[k]).toNat - 48) ∧ decVal ((s.data.toList.drop a).take (k + 1 - a)) ≤ N) := Lib.hid (fun k h hk => ⟨by rw [take_at s a k h hk, decVal_snoc], by rw [← hN.out]; exact decVal_take _ _⟩)
  have HE : Hid (decVal ((s.data.toList.drop a).take (s.size - a)) = N) := Lib.hid (by
    rw [List.take_of_length_le (by rw [List.length_drop, ← Lib.size_eq]; exact Nat.le_refl _)]
    exact hN.out)
  obtain ⟨P, hP⟩ : ∃ P : Nat → Nat, P = fun k => decVal ((s.data.toList.drop a).take (k - a)) := ⟨_, rfl⟩
  have HP0 : Hid (P a = 0) := Lib.hid (by rw [hP]; simp [decVal])
  have HPS : Hid (∀ (k : Nat) (h : k < s.size), a ≤ k → P (k + 1) = P k * 10 + ((s[k]).toNat - 48) ∧ P (k + 1) ≤ N) := Lib.hid (by rw [hP]; exact HT.out)
  have HPE : Hid (P s.size = N) := Lib.hid (by rw [hP]; exact HE.out)
  clear hP HT HE hd hN
  obtain ⟨hp0, hng⟩ := hneg.out
  rcases hb.out with ⟨h, ha, h0⟩ | ⟨h, ha, h0⟩ | ⟨h, ha, h0, h1⟩
  all_goals
    have HA := Lib.hid ha
    have HNG := Lib.hid hng
    clear ha hng
    go_enter Tryd.func49, Tryd.ntmps49
    go_wp2_with fail
    rw [← hW]
    have HW := Lib.hid hW
    try have KK1 := Lib.hid h0
    try have KK2 := Lib.hid h1
    clear hW
    try clear h0
    try clear h1
    go_loop [5] (fun i => ∃ k : Nat, a ≤ k ∧ k ≤ s.size ∧ i = .int .i64 k) (fun i => s.size - (intOf i).toNat)
    case atStart => exact ⟨a, Nat.le_refl _, by omega, by rw [HA.out]; rfl⟩
    case round =>
      obtain ⟨k, hak, hk, rfl⟩ := hrel
      by_cases hlt : k < s.size
      · have hg := HD.out k hlt hak
        have h2 := hg.1
        have h3 := hg.2
        clear hg
        go_wp2
        all_goals
          go_round
          case rel => exact ⟨k + 1, by omega, by omega, by go_num⟩
          case measure => simp [intOf]; omega
      · have e8 : ((0 : Int) == (s.size : Int)) = false := beq_eq_false_iff_ne.2 (by omega)
        have e9 : Hid (a = 1 → ((1 : Int) == (s.size : Int)) = false) := Lib.hid (fun h => beq_eq_false_iff_ne.2 (by omega))
        try have e9' := e9.out HA.out
        go_wp2_with fail
        clear e8 e9
        try clear e9'
        go_loopw [6, 7] (fun bv iv wr => ∃ (k M m d : Nat) (B : Option Addr), a ≤ k ∧ k ≤ s.size ∧ iv = .int .i64 k ∧ bv = .slice B m d ∧ m ≤ 1536 ∧ Bit wr B m d M ∧ Hid (m = bl M ∧ M = P k) ∧ Fro W.heap.size B m ∧ Below W.heap.size W wr) (fun _ iv _ => s.size - (intOf iv).toNat)
        case atStart => exact ⟨a, 0, 0, 0, none, Nat.le_refl _, by omega, by rw [HA.out]; rfl, rfl, by omega, Bit.none_ _, Lib.hid ⟨rfl, HP0.out.symm⟩, Fro.none_ _ _, Below.refl _ _⟩
        case round =>
          obtain ⟨k, M, m, d, B, hak, hk, rfl, rfl, hm, hBM, HM, hF, hbel⟩ := hrel
          by_cases hlt : k < s.size
          · have hg := HD.out k hlt hak
            have hp := HPS.out k hlt hak
            obtain ⟨c, hc⟩ : ∃ c, (s[k]).toNat = c := ⟨_, rfl⟩
            unfold dg1 at hg
            rw [hc] at hg hp
            have h2 := hg.1
            have h3 := hg.2
            obtain ⟨v, hv⟩ : ∃ v, v = c - 48 := ⟨_, rfl⟩
            obtain ⟨T, hT⟩ : ∃ T, T = 8 * M + 2 * M := ⟨_, rfl⟩
            obtain ⟨M', hM'⟩ : ∃ M', M' = T + v := ⟨_, rfl⟩
            have HMM : Hid (M' = P (k + 1) ∧ M' ≤ N) := Lib.hid (by
              have := HM.out.2
              rw [← this, ← hv] at hp
              refine ⟨?_, ?_⟩
              · rw [hp.1]; omega
              · have := hp.2; rw [hp.1] at this; omega)
            have e1 : IntKind.u8.wrap ((c : Int) - 48) = (v : Int) := by rw [IntKind.wrap_u8]; omega
            have e2 : ((c : Int) - 48) % 256 = (v : Int) := by omega
            have e3 : (v : Int) ≤ 9 := by omega
            have hv9 : v ≤ 9 := by omega
            clear hp hg
            obtain ⟨zs, z1, z2, z3, z4, z5⟩ := hBM
            have Z3 := Lib.hid z3
            have HZ := Lib.hid (And.intro z2 z4)
            clear z2 z3 z4
            have BO : (wr.alloc (.cells #[.int .u8 0, .int .u8 0, .int .u8 0] 5)).ownsRow W.heap.size 5 1 (.slice (some ⟨wr.heap.size, 0, none⟩) 3 3) 3 (cl .u8 [0, 0, 0]) := World.ownsRow_lit (base := W.heap.size) (e := 5) (size := 1) wr #[.int .u8 0, .int .u8 0, .int .u8 0] 3 hbel.size (by unfold maxLen; omega) rfl
            have hal : Below wr.heap.size wr (wr.alloc (.cells #[.int .u8 0, .int .u8 0, .int .u8 0] 5)) := below_al (Below.refl _ _) _
            have sz : W.heap.size ≤ (wr.alloc (.cells #[.int .u8 0, .int .u8 0, .int .u8 0] 5)).heap.size := by have := hbel.size; simp; omega
            have zl := z1.below hal
            go_wp2_with (at_builtin; refine app_any (k := .u8) 28 5 1 Tryd.underlying28 u8_info (by decide) _ rfl _ _ rfl rfl W.heap.size (.slice (some ⟨wr.heap.size, 0, none⟩) 3 3) 3 [0, 0, 0] rfl BO wr.heap.size B m d zs rfl zl Z3 (by omega) sz ?_; intro v8 w8 hown8 hgr8; refine Hid.out ?_)
            refine Lib.hid ?_
            obtain ⟨A8, d8, rfl⟩ := own_slice hown8
            have hb8 : Below wr.heap.size wr w8 := hal.grown hgr8 (by simp) (fun k hk => by simp [Value.ownBlock] at hk; omega)
            have hQ8 : Bit w8 A8 (3 + m) d8 (8 * M) := ⟨[0, 0, 0] ++ zs, by
              have h := Lim.of_own (k := .u8) (xs := [0, 0, 0] ++ zs) (by rw [List.length_append, Z3.out]; exact hown8)
              exact h, Low.cons (by decide) (Low.cons (by decide) (Low.cons (by decide) HZ.out.1)), by rw [List.length_append, Z3.out]; rfl, by simp [val]; rw [HZ.out.2]; omega, own_cap hown8⟩
            have hW8 := below_then hbel hb8
            have zl8 := z1.below hb8
            clear hgr8 hown8 BO hal sz zl z1 hbel
            have BO : (w8.alloc (.cells #[.int .u8 0] 5)).ownsRow W.heap.size 5 1 (.slice (some ⟨w8.heap.size, 0, none⟩) 1 1) 1 (cl .u8 [0]) := World.ownsRow_lit (base := W.heap.size) (e := 5) (size := 1) w8 #[.int .u8 0] 1 hW8.size (by unfold maxLen; omega) rfl
            have hal : Below w8.heap.size w8 (w8.alloc (.cells #[.int .u8 0] 5)) := below_al (Below.refl _ _) _
            have sz : W.heap.size ≤ (w8.alloc (.cells #[.int .u8 0] 5)).heap.size := by have := hW8.size; simp; omega
            have zl := zl8.below (hal.mono hb8.size)
            go_wp2_with (at_builtin; refine app_any (k := .u8) 28 5 1 Tryd.underlying28 u8_info (by decide) _ rfl _ _ rfl rfl W.heap.size (.slice (some ⟨w8.heap.size, 0, none⟩) 1 1) 1 [0] rfl BO wr.heap.size B m d zs rfl zl Z3 (by omega) sz ?_; intro v9 w9 hown9 hgr9; refine Hid.out ?_)
            refine Lib.hid ?_
            obtain ⟨A9, d9, rfl⟩ := own_slice hown9
            have hb9 : Below w8.heap.size w8 w9 := hal.grown hgr9 (by simp) (fun k hk => by simp [Value.ownBlock] at hk; omega)
            have hQ9 : Bit w9 A9 (1 + m) d9 (2 * M) := ⟨[0] ++ zs, by
              have h := Lim.of_own (k := .u8) (xs := [0] ++ zs) (by rw [List.length_append, Z3.out]; exact hown9)
              exact h, Low.cons (by decide) HZ.out.1, by rw [List.length_append, Z3.out]; rfl, by simp [val]; rw [HZ.out.2], own_cap hown9⟩
            have hR8 := hQ8.below hb9
            have hW9 := below_then hW8 hb9
            have hsz9 := hW9.size
            clear hgr9 hown9 BO hal sz zl zl8 hb9 hb8 hQ8 hW8
            obtain ⟨mT, hmT⟩ : ∃ mT, mT = bl T := ⟨_, rfl⟩
            obtain ⟨mv, hmv⟩ : ∃ mv, mv = bl v := ⟨_, rfl⟩
            obtain ⟨mM, hmM⟩ : ∃ mM, mM = bl M' := ⟨_, rfl⟩
            have lT : mT ≤ 2000 := by
              rw [hmT, hT]
              have h1 : bl (8 * M) ≤ 1600 := Nat.le_trans hR8.le (by omega)
              have h2 : bl (2 * M) ≤ 1600 := Nat.le_trans hQ9.le (by omega)
              exact Nat.le_trans (len_sum h1 h2) (by decide)
            have lv : mv ≤ 2000 := by rw [hmv]; exact Nat.le_trans (bl_mono hv9) (by decide)
            have PL1 : ∀ V, Below w9.heap.size w9 V → Hid (Calls Tryd.prog 59 #[.slice A8 (3 + m) d8, .slice A9 (1 + m) d9] V fun e w' => ∃ B d, e = .returned (.slice B mT d) ∧ Bit w' B mT d T ∧ Below V.heap.size V w') := fun V hb => Lib.hid ((plusB A8 A9 (3 + m) d8 (1 + m) d9 (8 * M) (2 * M) V (hR8.below hb) (hQ9.below hb) (by omega) (by omega)).mono fun e w' hh => by
              obtain ⟨B, d, he, hB, _, hw⟩ := hh
              rw [hmT, hT]
              exact ⟨B, d, he, hB, hw⟩)
            have SM1 : ∀ V, Hid (Calls Tryd.prog 73 #[.int .i64 v] V fun e w' => ∃ B d, e = .returned (.slice B mv d) ∧ Bit w' B mv d v ∧ Below V.heap.size V w') := fun V => Lib.hid ((smallB v V (by omega)).mono fun e w' hh => by
              obtain ⟨B, d, he, hB, _, hw⟩ := hh
              rw [hmv]
              exact ⟨B, d, he, hB, hw⟩)
            have PL2 : ∀ V B d B' d', Below w9.heap.size w9 V → Bit V B mT d T → Bit V B' mv d' v → Hid (Calls Tryd.prog 59 #[.slice B mT d, .slice B' mv d'] V fun e w' => ∃ B d, e = .returned (.slice B mM d) ∧ Bit w' B mM d M' ∧ Fro W.heap.size B mM ∧ Below V.heap.size V w') := fun V B d B' d' hb hB hB' => Lib.hid ((plusB B B' mT d mv d' T v V hB hB' (by omega) (by omega)).mono fun e w' hh => by
              obtain ⟨B, d, he, hB, hF, hw⟩ := hh
              rw [hmM, hM']
              exact ⟨B, d, he, hB, hF.mono (Nat.le_trans hsz9 hb.size), hw⟩)
            have HMB := Lib.hid hmM
            have BX0 : Below w9.heap.size w9 w9 := Below.refl _ _
            have e4 : IntKind.i64.wrap (v : Int) = v := by rw [IntKind.wrap_i64]; omega
            have i0 : (0 : Int) ≤ (k : Int) := by omega
            have i1 : (k : Int) < (s.size : Int) := by omega
            have i2 : ((k : Int)).toNat = k := by omega
            clear hT hM' hmT hmv hmM hv hR8 hQ9
            go_wp2_with fail
            go_region_held3 (fun V => Below w9.heap.size w9 V) (first | assumption | exact Below.drew (by assumption))
              (first
                | (go_at_call 59; (with_reducible refine ((PL1 _ (by first | assumption | exact Below.drew (by assumption))).out).mono ?_); rintro e f1 ⟨B1, b1, rfl, T1, fl1⟩; have fb1 := below_then (show Below w9.heap.size w9 _ from (by first | assumption | exact Below.drew (by assumption))) fl1)
                | (go_at_call 73; refine ((SM1 _).out).mono ?_; rintro e f2 ⟨B2, b2, rfl, T2, fl2⟩; have fb2 := below_then (show Below w9.heap.size w9 _ from (by first | assumption | exact Below.drew (by assumption))) fl2; have T1' := T1.below fl2)
                | (go_at_call 59; (with_reducible refine ((PL2 _ B1 b1 B2 b2 (by first | assumption | exact Below.drew (by assumption)) (by exact T1') (by exact T2)).out).mono ?_); rintro e f3 ⟨B3, b3, rfl, T3, F3, fl3⟩; have fb3 := below_then (show Below w9.heap.size w9 _ from (by first | assumption | exact Below.drew (by assumption))) fl3))
            all_goals
              have WB := below_then hW9 fb3
              have p1 := t1.below' WB
              have HL := Lib.hid (show bl M' ≤ bl N from bl_mono HMM.out.2)
              clear i0 i1 i2 PL1 PL2 SM1 T1 T2 T1' fb1 fb2 fb3 fl1 fl2 fl3 hW9 BX0 e1 e2 e3 e4
              by_cases hbig : mM ≤ 1536
              · clear hF
                go_wp2
                go_roundw
                case rel => exact ⟨k + 1, M', mM, b3, B3, by omega, by omega, by go_num, rfl, hbig, T3, Lib.hid ⟨HMB.out, HMM.out.1⟩, F3, WB⟩
                case measure => simp [intOf]; omega
              · have k1 := p1.fst
                have k2 := p1.snd
                have k3 := p1.free 0
                have k4 := p1.free 1
                have q1 := p1.set2 (a' := .bool false) (b' := .slice none 0 0)
                have f0 := Lib.hid q1.fst
                have f1' := Lib.hid q1.snd
                have bb := Lib.hid (below_two (g := w.heap.size) (a := .bool false) (b := .slice none 0 0) (below_then hbW WB) (Nat.le_refl _))
                have HB := Lib.hid (show 1536 < bl N by have h1 := HL.out; rw [← HMB.out] at h1; omega)
                clear WB hF q1 p1
                go_wp2
                refine bodyPost_ret (v := .tuple #[.agg #[.bool false, .slice none 0 0], .int .i64 6]) (by simp [results, Tryd.results49, go_sem, f0.out, f1'.out]) rfl (.inr ⟨HB.out, rfl, bb.out⟩)
          · have HMN : Hid (M = N ∧ bl N ≤ 1536) := Lib.hid (by
              have h1 := HM.out.2
              have h2 : k = s.size := by omega
              rw [h2, HPE.out] at h1
              exact ⟨h1, by rw [← h1, ← HM.out.1]; exact hm⟩)
            have hBN : Bit wr B m d N := by rw [← HMN.out.1]; exact hBM
            have CT := Lib.hid (value_any neg B m d N wr hBN (by omega))
            have p1 := t1.below' hbel
            have hng' := HNG.out
            have HBB := Lib.hid (below_then hbW hbel)
            have HFF := Lib.hid hF
            clear hBM hF HM hbel
            go_wp2_with fail
            refine (CT.out).mono ?_
            rintro e y1 ⟨rfl, b1⟩
            have p2 := p1.below' b1
            have k1 := p2.fst
            have k2 := p2.snd
            have k3 := p2.free 0
            have k4 := p2.free 1
            have q1 := p2.set2 (a' := .bool (signB neg N)) (b' := .slice B (bl N) d)
            have f0 := Lib.hid q1.fst
            have f1' := Lib.hid q1.snd
            have bb := Lib.hid (below_two (g := w.heap.size) (a := .bool (signB neg N)) (b := .slice B (bl N) d) (below_then HBB.out b1) (Nat.le_refl _))
            have hfin := Lib.hid ((hBN.below b1).trim.far2 (g := w.heap.size) (u := .bool (signB neg N)) (v := .slice B (bl N) d) ((HFF.out.cut hBN.le).mono (by have := t1.lt; omega)))
            clear CT p1 p2 q1 b1 hng'
            go_wp2
            refine bodyPost_ret (v := .tuple #[.agg #[.bool (signB neg N), .slice B (bl N) d], .int .i64 0]) (by simp [results, Tryd.results49, go_sem, f0.out, f1'.out]) rfl (.inl ⟨HMN.out.2, B, d, rfl, hfin.out, bb.out⟩)
end Go.Proofs.YtocoflojlliapaaDoor
