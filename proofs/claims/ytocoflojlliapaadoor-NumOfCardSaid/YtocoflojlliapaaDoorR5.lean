import Derived.Test.YtocoflojlliapaaDoorR4
set_option linter.unusedVariables false
namespace Go.Proofs.YtocoflojlliapaaDoor
open Go.RowKit
theorem boxesN (w : World) (a b a' b' : Value) : ∀ W, W = (w.alloc (.cells #[a, b] 30)).alloc (.cells #[a', b'] 24) →
    Two W w.heap.size 30 a b ∧ Two W (w.heap.size + 1) 24 a' b' ∧ Below w.heap.size w W ∧ W.heap.size = w.heap.size + 2 := by
  rintro W rfl
  refine ⟨(Two.made w 30 a b).alloc _, ?_, below_al (below_al (Below.refl _ _) _) _, by simp⟩
  have := Two.made (w.alloc (.cells #[a, b] 30)) 24 a' b'
  simpa using this
theorem Two.set1 {w : World} {g : Nat} {t : TypeId} {a b b' : Value} (h : Two w g t a b) : Two (w.setCell ⟨g, 1, none⟩ b') g t a b' := by
  unfold Two at h ⊢
  simp [World.setCell, Array.getElem?_modify, h]
theorem Two.far {w : World} {g : Nat} {t : TypeId} {a b : Value} (h : Two w g t a b) {p : Addr} (hp : g ≠ p.block) (u : Value) : Two (w.setCell p u) g t a b := (Below.heap_setCell w p u g hp).trans h
/-- the number that is put together: its block, its limbs, what stood below -/
def Put (W w : World) (nb : Nat) (neg : Bool) (v : Value) (ms : List Nat) : Prop := Two w nb 24 (.bool neg) v ∧ w.ownsRow (nb + 1) 43 1 v ms.length (cl .u32 ms) ∧ Below W.heap.size W w
theorem Put.field {W w : World} {nb : Nat} {neg : Bool} {x v : Value} {ms : List Nat} (hT : Two w nb 24 (.bool neg) x) (ho : w.ownsRow (nb + 1) 43 1 v ms.length (cl .u32 ms)) (hb : Below W.heap.size W w) (hn : W.heap.size ≤ nb) : Put W (w.setCell ⟨nb, 1, none⟩ v) nb neg v ms :=
  ⟨hT.set1, ownsRow_setCell_below ho (a := ⟨nb, 1, none⟩) (Nat.lt_succ_self nb) v, hb.setCell (p := ⟨nb, 1, none⟩) hn v⟩
theorem Put.limb {W w : World} {nb g L cp : Nat} {neg : Bool} {ms : List Nat} (h : Put W w nb neg (.slice (some ⟨g, 0, none⟩) L cp) ms) (hL : ms.length = L) (hg : nb + 1 ≤ g) (hn : W.heap.size ≤ nb) (q Z : Nat) :
    Put W (w.setCell ⟨g, q, none⟩ (.int .u32 Z)) nb neg (.slice (some ⟨g, 0, none⟩) L cp) (ms.set q Z) := by
  subst hL
  obtain ⟨h1, h2, h3⟩ := h
  refine ⟨h1.far (p := ⟨g, q, none⟩) (by simp; omega) _, ?_, h3.setCell (p := ⟨g, q, none⟩) (by simp; omega) _⟩
  have := (h2.stored q (.int .u32 Z)).1
  have e : cl .u32 (ms.set q Z) = (cl .u32 ms).set q (.int .u32 Z) := by simp [cl, List.map_set, nv]
  rw [e, List.length_set]
  exact this
theorem Put.drew {W w : World} {nb : Nat} {neg : Bool} {v : Value} {ms : List Nat} (h : Put W w nb neg v ms) : Put W w.drew nb neg v ms := ⟨h.1, h.2.1.drew, h.2.2.drew⟩
theorem or_pow (l r : Nat) (hr : r < 32) (hl : l < 2 ^ r) : bits .or .u32 (l : Int) (2 ^ r % 4294967296) = ((l + 2 ^ r : Nat) : Int) := by
  have h1 : (2 : Nat) ^ r ≤ 2 ^ 31 := Nat.pow_le_pow_right (by decide) (by omega)
  have h2 : (2 : Nat) ^ 31 = 2147483648 := by decide
  have e : ((2 : Int) ^ r % 4294967296) = ((2 ^ r : Nat) : Int) := by
    have : ((2 : Int) ^ r) = ((2 ^ r : Nat) : Int) := by rw [Int.natCast_pow]; rfl
    rw [this]
    omega
  rw [e, u32_or_nat l (2 ^ r) (by omega) (by omega), Nat.or_comm, nat_join r (2 ^ r) l (Nat.mod_self _) hl, Nat.add_comm]
set_option maxHeartbeats 6400000 in
theorem refNum_yes (neg : Bool) (A : Option Addr) (c N : Nat) (w : World) (h : Bit w A (bl N) c N) (hl : bl N ≤ 1536) :
    Calls Tryd.prog 53 #[.agg #[.bool neg, .slice A (bl N) c]] w fun e w' => ∃ B d, e = .returned (.tuple #[.agg #[.bool neg, .slice B (dl N) d], .int .i64 0]) ∧ Fresh w w' B d N := by
  obtain ⟨W, hW⟩ : ∃ W, W = (w.alloc (.cells #[.bool neg, .slice A (bl N) c] 30)).alloc (.cells #[.bool false, .slice none 0 0] 24) := ⟨_, rfl⟩
  obtain ⟨t1, t2, hbW, hWs⟩ := boxesN w _ _ _ _ W hW
  have x1 := (h.below hbW).list
  obtain ⟨bs, hbs⟩ : ∃ bs, bs = digs 2 N := ⟨_, rfl⟩
  have hlow : Hid (Low 2 bs) := Lib.hid (by rw [hbs]; exact digs_low (by decide) N)
  have hlen : Hid (bs.length = bl N) := Lib.hid (by rw [hbs]; rfl)
  rw [← hbs] at x1
  have HBS := Lib.hid hbs
  clear hbs
  obtain ⟨n, hn⟩ : ∃ n, n = bl N := ⟨_, rfl⟩
  rw [← hn] at hl hlen t1 ⊢
  rw [← hn] at hW
  have HN := Lib.hid hn
  clear hn h
  go_enter Tryd.func53, Tryd.ntmps53
  go_wp2_with fail
  rw [← hW]
  have HW := Lib.hid hW
  clear hW
  have hV0 : Two (W.alloc (.cells #[.bool neg, .slice none 0 0] 24)) (w.heap.size + 1 + 1) 24 (.bool neg) (.slice none 0 0) := by
    have := Two.made W 24 (.bool neg) (.slice none 0 0)
    rwa [hWs] at this
  have HWS := Lib.hid hWs
  clear hWs
  go_loopw [5] (fun iv wr => ∃ (i : Nat) (ms : List Nat) (B : Option Addr) (d : Nat), i ≤ n ∧ iv = .int .i64 i ∧ Two wr (w.heap.size + 1 + 1) 24 (.bool neg) (.slice B ms.length d) ∧ wr.ownsRow (w.heap.size + 1 + 1 + 1) 43 1 (.slice B ms.length d) ms.length (cl .u32 ms) ∧ Hid (Nm bs i ms) ∧ Below W.heap.size W wr) (fun iv _ => n - (intOf iv).toNat)
  case atStart => exact ⟨0, [], none, 0, Nat.zero_le _, rfl, hV0, own_nil, Lib.hid (Nm.zero bs), below_al (Below.refl _ _) _⟩
  case round =>
    obtain ⟨i, ms, B, d, hi, rfl, hT, hown, hNm, hbel⟩ := hrel
    have k1 := (t1.below' hbel).fst
    have k2 := (t1.below' hbel).snd
    have j1 := hT.fst
    have j2 := hT.snd
    have j3 := hT.free 0
    have j4 := hT.free 1
    by_cases hlt : i < n
    · have hxl : i < bs.length := by rw [hlen.out]; exact hlt
      obtain ⟨ad, rfl, hab, cellW⟩ := x1.at hxl
      have cell := (hbel.cell (p := ad.add i) (by rw [add_block]; exact hab)).trans cellW
      have hml : ms.length ≤ 100 := by
        have := hNm.out.1
        omega
      obtain ⟨r, hr⟩ : ∃ r, r = i % 32 := ⟨_, rfl⟩
      obtain ⟨q, hq⟩ : ∃ q, q = i / 32 := ⟨_, rfl⟩
      have er : (i : Int) % 32 = r := by omega
      have eq : (i : Int) / 32 = q := by omega
      have hr32 : r < 32 := by omega
      have hq100 : q ≤ 100 := by omega
      have KR := Lib.hid hr
      have KQ := Lib.hid hq
      clear hr hq
      have hbit : bs[i] = 0 ∨ bs[i] = 1 := by
        have := hlow.out.at hxl
        omega
      have hsz := hbel.size
      by_cases h0 : r = 0
      · have e0 : ((r : Int) == 0) = true := by rw [h0]; rfl
        have HM := Lib.hid (hNm.out.more (by rw [← KR.out]; exact h0))
        have H0 := Lib.hid h0
        clear h0
        go_wp2_with (at_builtin; refine app_any (k := .u32) 22 43 4 Tryd.underlying22 u32_info (by decide) _ rfl _ _ rfl rfl (w.heap.size + 1 + 1 + 1) (.slice B ms.length d) ms.length _ rfl (hown.alloc _) _ (some ⟨wr.heap.size, 0, none⟩) 1 1 [0] rfl (one_lim .u32 wr 43 0) (Lib.hid rfl) (by omega) (by have := hT.lt; simp; omega) ?_; intro v3 w3 hown3 hgr3; refine Hid.out ?_)
        refine Lib.hid ?_
        obtain ⟨g, cp, rfl, hg, hg2⟩ := hown3.form (by omega)
        have hT3 : Two w3 (w.heap.size + 1 + 1) 24 (.bool neg) (.slice B ms.length d) := (hT.alloc _).grown hgr3 (fun e => by have := own_ge hown _ e.symm; omega)
        have hbel3 : Below W.heap.size W w3 := (below_al hbel _).grown hgr3 (by have := hbel.size; simp; omega) (fun k hk => by have := own_ge hown _ hk; have := HWS.out; omega)
        have cell3 := (hbel3.cell (p := ad.add i) (by rw [add_block]; exact hab)).trans cellW
        have p1 := (t1.below' hbel3).fst
        have p2 := (t1.below' hbel3).snd
        have p3 := hT3.fst
        have p4 := hT3.snd
        have p5 := hT3.free 0
        have p6 := hT3.free 1
        have hlast : w3.cell? ⟨g, q, none⟩ = some (.int .u32 0) := by
          rw [hown3.cellAt q (by have := HM.out.1; simp at this; have := KQ.out; omega), cl_at, KQ.out, HM.out.2.2.2]
          rfl
        have hfz : w3.frozen? ⟨g, q, none⟩ = false := hown3.frozenAt q
        have hgn : g ≠ w.heap.size + 1 + 1 := by omega
        have s1 : ∀ v : Value, (w3.setCell ⟨w.heap.size + 1 + 1, 1, none⟩ v).cell? (ad.add i) = some (.int .u8 bs[i]) := fun v => (World.cell?_setCell_other w3 _ _ v (fun e => by have := congrArg Addr.block e; rw [add_block] at this; simp at this; have := HWS.out; omega)).trans cell3
        have s2 : ∀ v : Value, (w3.setCell ⟨w.heap.size + 1 + 1, 1, none⟩ v).cell? ⟨g, q, none⟩ = some (.int .u32 0) := fun v => (World.cell?_setCell_other w3 _ _ v (fun e => by have := congrArg Addr.block e; simp at this; omega)).trans hlast
        have hq1 : q < ms.length + 1 := by have := HM.out.1; simp at this; have := KQ.out; omega
        clear k1 k2 j1 j2 j3 j4 cell hgr3
        have hPut : Put W (w3.setCell ⟨w.heap.size + 1 + 1, 1, none⟩ (.slice (some ⟨g, 0, none⟩) (ms.length + 1) cp)) (w.heap.size + 1 + 1) neg (.slice (some ⟨g, 0, none⟩) (ms.length + 1) cp) (ms ++ [0]) := Put.field hT3 (by simpa using hown3) hbel3 (by have := HWS.out; omega)
        have HPut := Lib.hid hPut
        clear hPut
        rcases hbit with hb | hb
        · have HNN := Lib.hid (Nm.nobit HM.out.1 HM.out.2.1 HM.out.2.2.1 hxl hb)
          rw [hb] at s1
          clear cell3 hown hown3
          go_wp2
          go_roundw
          case rel => exact ⟨i + 1, ms ++ [0], _, _, by omega, by go_num, by simpa using HPut.out.1, by simpa using HPut.out.2.1, HNN, HPut.out.2.2⟩
          case measure => simp [intOf]; omega
        · have hor := or_pow 0 r hr32 (Nat.two_pow_pos r)
          obtain ⟨Z, hZ⟩ : ∃ Z, Z = 0 + 2 ^ r := ⟨_, rfl⟩
          rw [← hZ] at hor
          have hz0 : ((0 : Nat) : Int) = 0 := rfl
          rw [hz0] at hor
          have HNN : Hid (Nm bs (i + 1) ((ms ++ [0]).set q Z)) := Lib.hid (by
            rw [hZ, KQ.out, KR.out]
            exact (Nm.bit HM.out.1 HM.out.2.1 HM.out.2.2.1 HM.out.2.2.2 (Nat.two_pow_pos _) hxl hb).1)
          rw [hb] at s1
          clear cell3 hown hown3 hZ hz0
          go_wp2_with fail
          go_region
          go_wp2
          have HP2 := (HPut.out.limb (by simp) hg (by have := HWS.out; omega) q Z).drew
          go_roundw
          case rel => exact ⟨i + 1, (ms ++ [0]).set q Z, _, _, by omega, by go_num, by simpa using HP2.1, by simpa using HP2.2.1, HNN, HP2.2.2⟩
          case measure => simp [intOf]; omega
      · have e0 : ((r : Int) == 0) = false := beq_eq_false_iff_ne.2 (by omega)
        have HL : Hid (ms.length = i / 32 + 1) := Lib.hid (hNm.out.same (by rw [← KR.out]; exact h0))
        have hqm : q < ms.length := by rw [HL.out, KQ.out]; omega
        have H0 := Lib.hid h0
        clear h0
        obtain ⟨g, cp, hBe, hg, hg2⟩ := hown.form (by omega)
        injection hBe with hB1 _ hB3
        subst hB1 hB3
        have hel : ms[q]? = some (ms[q]) := List.getElem?_eq_getElem hqm
        obtain ⟨l, hle⟩ : ∃ l, l = ms[q] := ⟨_, rfl⟩
        rw [← hle] at hel
        have hlast : wr.cell? ⟨g, q, none⟩ = some (.int .u32 l) := by
          rw [hown.cellAt q (by omega), cl_at, hel]
          rfl
        have HEL : Hid (ms[i / 32]? = some l) := Lib.hid (by rw [← KQ.out]; exact hel)
        have hltop : l < 2 ^ (i % 32) := hNm.out.top hlow.out (Nat.le_of_lt hxl) HEL.out
        clear hel hle
        have hfz : wr.frozen? ⟨g, q, none⟩ = false := hown.frozenAt q
        have hgn : g ≠ w.heap.size + 1 + 1 := by omega
        have HPut : Hid (Put W wr (w.heap.size + 1 + 1) neg (.slice (some ⟨g, 0, none⟩) ms.length d) ms) := Lib.hid ⟨hT, hown, hbel⟩
        rcases hbit with hb | hb
        · have HNN := Lib.hid (Nm.nobit HL.out hNm.out.2.1 hNm.out.2.2 hxl hb)
          rw [hb] at cell
          clear hown hlast hltop
          go_wp2
          go_roundw
          case rel => exact ⟨i + 1, ms, _, _, by omega, by go_num, HPut.out.1, HPut.out.2.1, HNN, HPut.out.2.2⟩
          case measure => simp [intOf]; omega
        · have hor := or_pow l r hr32 (by rw [KR.out]; exact hltop)
          obtain ⟨Z, hZ⟩ : ∃ Z, Z = l + 2 ^ r := ⟨_, rfl⟩
          rw [← hZ] at hor
          have HNN : Hid (Nm bs (i + 1) (ms.set q Z)) := Lib.hid (by
            rw [hZ, KQ.out, KR.out]
            exact (Nm.bit HL.out hNm.out.2.1 hNm.out.2.2 HEL.out hltop hxl hb).1)
          rw [hb] at cell
          clear hown hZ hltop
          go_wp2_with fail
          go_region
          go_wp2
          have HP2 := (HPut.out.limb rfl hg (by have := HWS.out; omega) q Z).drew
          go_roundw
          case rel => exact ⟨i + 1, ms.set q Z, _, _, by omega, by go_num, by simpa using HP2.1, by simpa using HP2.2.1, HNN, HP2.2.2⟩
          case measure => simp [intOf]; omega
    · obtain rfl : n = i := by omega
      have hms : Hid (ms = digs 4294967296 N) := Lib.hid (by
        have h1 := hNm.out
        have h2 := hlen.out
        rw [← h2, HBS.out] at h1
        exact h1.done)
      have hml : Hid (ms.length = dl N) := Lib.hid (by rw [hms.out]; rfl)
      rw [hml.out] at hT hown j2
      have u1 := (t2.below' hbel)
      have u2 := u1.fst
      have u3 := u1.snd
      have u4 := u1.free 0
      have u5 := u1.free 1
      go_wp2
      have hr := u1.set2 (a' := .bool neg) (b' := .slice B (dl N) d)
      have r0 := hr.fst
      have r1 := hr.snd
      refine bodyPost_ret (v := .tuple #[.agg #[.bool neg, .slice B (dl N) d], .int .i64 0]) (by simp [results, Tryd.results53, go_sem, r0, r1]) rfl ⟨B, d, rfl, ?_, below_two (g := w.heap.size + 1) (below_then hbW hbel) (by omega)⟩
      have ho := own_two (g := w.heap.size + 1) (a := .bool neg) (b := .slice B (dl N) d) (own_mono hown (by omega))
      rw [hms.out] at ho
      exact own_mono ho (by omega)
end Go.Proofs.YtocoflojlliapaaDoor
