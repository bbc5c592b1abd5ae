/- For every limit and all acts, SegCounts returns true: as many are taken and free as there are, Taken has each that is taken once, the last one last, and by generations the same. No condition. -/
import Derived.Test.YtmhbbhlmiinobaaM3
import Derived.Deep.DeepCutAuto
set_option linter.unusedVariables false
set_option linter.unusedSimpArgs false
namespace Go.Proofs.Ytmhbbhlmiinobaa.segCounts
open Go.ChangeShapes Go.WideShapes Go.ChangeAt Go.RowKit
open Go.Maps
/-- What holds at each round's head: the memory is right. -/
def Inv (w : World) (mb n : Nat) (wr : World) : Prop := ∃ m : M, m.S.length = n ∧ At (fun k => k < w.heap.size) wr mb m ∧ Below w.heap.size w wr
theorem Inv.mk' {w V V1 wr : World} {mb n X : Nat} {m : M} (hm : m.S.length = n) (hV : Below w.heap.size w V) (h1 : Below w.heap.size V V1) (h : At (fun k => k < w.heap.size ∨ k = X) wr mb m) (hk : Keep (fun k => k < w.heap.size ∨ k = X) V1 wr) : Inv w mb n wr :=
  ⟨m, hm, h.less (fun k hk => Or.inl hk), (hV.trans h1).trans (hk.below (by have := hV.size; have := h1.size; omega) (fun k hk => Or.inl hk))⟩
structure X5 (V : World) (b : Nat) (t : Ac) : Prop where
  o : V.heap[b]? = some (.cells #[.int .i64 t.d, .int .i64 t.a, .int .i64 t.b, .int .i64 t.c, .int .u64 t.x] 34 (0, 0))
theorem X5.keep {G : Nat → Prop} {V V' : World} {b : Nat} {t : Ac} (h : X5 V b t) (hk : Keep G V V') (hb : G b) : X5 V' b t := ⟨hk.heap hb h.o⟩
theorem X5.c0 {V : World} {b : Nat} {t : Ac} (h : X5 V b t) : V.cell? ⟨b, 0, none⟩ = some (.int .i64 t.d) := by rw [cell_of_row _ _ _ _ _ _ h.o]; rfl
theorem X5.c1 {V : World} {b : Nat} {t : Ac} (h : X5 V b t) : V.cell? ⟨b, 1, none⟩ = some (.int .i64 t.a) := by rw [cell_of_row _ _ _ _ _ _ h.o]; rfl
theorem X5.al {V : World} {b : Nat} {t : Ac} (h : X5 V b t) (o : Obj) : X5 (V.alloc o) b t := ⟨by rw [Below.heap_alloc _ _ _ (lt_of_block h.o)]; exact h.o⟩
theorem X5.c2 {V : World} {b : Nat} {t : Ac} (h : X5 V b t) : V.cell? ⟨b, 2, none⟩ = some (.int .i64 t.b) := by rw [cell_of_row _ _ _ _ _ _ h.o]; rfl
set_option maxRecDepth 100000 in
set_option maxHeartbeats 8000000 in
theorem walk_good (n : Nat) (A : Option Addr) (l : List Ac) (c : Nat) (w : World) (h8 : 8 ≤ n) (hn : n ≤ 1024) (hA : Acts w A l) (hl : l.length ≤ 300) :
    Calls Try.prog 6 #[.int .i64 n, .slice A l.length c] w fun e w' => e = .returned (.bool true) ∧ Below w.heap.size w w' := by
  have H9 := Lib.hid (at_new (G := fun k => k < w.heap.size) n w (fun k hk => hk) h8 hn)
  have HA := Lib.hid hA
  clear hA
  obtain ⟨L, hL⟩ : ∃ L, L = l.length := ⟨_, rfl⟩
  rw [← hL] at hl ⊢
  have HL := Lib.hid hL
  clear hL
  go_enter Try.func6, Try.ntmps6
  go_wp2_with fail
  go_at_call 9
  refine H9.out.mono ?_
  rintro e w1 ⟨rfl, h1, b1⟩
  obtain ⟨mb, hmb⟩ : ∃ mb, mb = w.heap.size + 1 := ⟨_, rfl⟩
  rw [← hmb] at h1 ⊢
  clear hmb
  have HI : Hid (Inv w mb n w1) := Lib.hid ⟨M.new n, by simp [M.new], h1, b1.below (Nat.le_refl _) (fun k hk => hk)⟩
  clear h1 b1
  go_wp2_with fail
  go_loopw [7] (fun iv wr => ∃ i : Nat, i ≤ L ∧ iv = .int .i64 i ∧ Hid (Inv w mb n wr)) (fun iv _ => L - (intOf iv).toNat)
  case atStart => exact ⟨0, by omega, rfl, HI⟩
  case round =>
    obtain ⟨i, hi, rfl, hI⟩ := hrel
    obtain ⟨V, hV⟩ : ∃ V, V = wr := ⟨_, rfl⟩
    rw [← hV] at hI ⊢
    clear hV
    by_cases hlt : i < L
    · obtain ⟨t, ht⟩ : ∃ t, l[i]? = some t := ⟨_, List.getElem?_eq_getElem (by have := HL.out; omega)⟩
      obtain ⟨m, hm, hat, hbV⟩ := hI.out
      rcases HA.out with h0 | ⟨b, o, rfl, hb, hc⟩
      · rw [h0] at ht; simp at ht
      obtain ⟨tok, hcells⟩ := hc i t ht
      have k0 : V.cell? ⟨b, o + i * 5, none⟩ = some (.int .i64 t.d) := (hbV.cell (p := ⟨b, o + i * 5, none⟩) hb).trans (hcells 0 _ rfl)
      have k1 : V.cell? ⟨b, o + i * 5 + 1, none⟩ = some (.int .i64 t.a) := (hbV.cell (p := ⟨b, o + i * 5 + 1, none⟩) hb).trans (hcells 1 _ rfl)
      have k2 : V.cell? ⟨b, o + i * 5 + 2, none⟩ = some (.int .i64 t.b) := (hbV.cell (p := ⟨b, o + i * 5 + 2, none⟩) hb).trans (hcells 2 _ rfl)
      have k3 : V.cell? ⟨b, o + i * 5 + 3, none⟩ = some (.int .i64 t.c) := (hbV.cell (p := ⟨b, o + i * 5 + 3, none⟩) hb).trans (hcells 3 _ rfl)
      have k4 : V.cell? ⟨b, o + i * 5 + 4, none⟩ = some (.int .u64 t.x) := (hbV.cell (p := ⟨b, o + i * 5 + 4, none⟩) hb).trans (hcells 4 _ rfl)
      clear hcells hc ht
      obtain ⟨X, hX⟩ : ∃ X, X = V.heap.size := ⟨_, rfl⟩
      have hat1 := hat.more (.cells #[.int .i64 t.d, .int .i64 t.a, .int .i64 t.b, .int .i64 t.c, .int .u64 t.x] 34)
      have hb1 : Below w.heap.size V (V.alloc (.cells #[.int .i64 t.d, .int .i64 t.a, .int .i64 t.b, .int .i64 t.c, .int .u64 t.x] 34)) := (Below.refl _ _).alloc (by have := hbV.size; omega) _
      have hx1 : X5 (V.alloc (.cells #[.int .i64 t.d, .int .i64 t.a, .int .i64 t.b, .int .i64 t.c, .int .u64 t.x] 34)) X t := ⟨by rw [hX]; exact heap_alloc_new _ _⟩
      rw [← hX] at hat1
      have HX := Lib.hid hX
      clear hX
      have HM := Lib.hid hm
      have hMO := hat.ok.olen
      rw [hm] at hMO
      by_cases hd0 : t.d = 0
      · have e0 : (t.d == 0) = true := by rw [hd0]; rfl
        clear hd0
        by_cases hbad : genB t.a = false ∨ kindB t.b = false
        · go_wp2_with fail
          rw [show V.heap.size = X from HX.out.symm]
          generalize V.alloc (.cells #[.int .i64 t.d, .int .i64 t.a, .int .i64 t.b, .int .i64 t.c, .int .u64 t.x] 34) = V1 at hat1 hb1 hx1 ⊢
          clear k0 k1 k2 k3 k4
          have HB1 := Lib.hid (And.intro hbV hb1)
          clear hbV hb1 hI hat hm
          go_at_call 13
          refine (take_arg hat1.2 hbad).mono ?_
          rintro e w' ⟨rfl, rfl⟩
          go_wp2_with fail
          go_at_call 21
          refine (at_taken hat1).mono ?_
          rintro e V2 ⟨rA, rc, rfl, hr2, hb2⟩
          have hx2 := hx1.keep (Keep.any (G := fun _ => True) hb2) trivial
          have x0 := hx2.c0
          have HF : Hid (Inv w mb n V2) := Lib.hid (Inv.mk' HM.out HB1.out.1 HB1.out.2 (hat1.below hb2) (Keep.any hb2))
          clear hbad hr2
          go_wp2_with fail
          go_roundw
          case rel => exact ⟨i + 1, by omega, by go_num, HF⟩
          case measure => simp [intOf]; omega
        · have hg : genB t.a = true := by
            rcases h : genB t.a with _ | _
            · exact absurd (Or.inl h) hbad
            · rfl
          have hk : kindB t.b = true := by
            rcases h : kindB t.b with _ | _
            · exact absurd (Or.inr h) hbad
            · rfl
          clear hbad
          by_cases hff : ff m.S = m.S.length
          · go_wp2_with fail
            rw [show V.heap.size = X from HX.out.symm]
            generalize V.alloc (.cells #[.int .i64 t.d, .int .i64 t.a, .int .i64 t.b, .int .i64 t.c, .int .u64 t.x] 34) = V1 at hat1 hb1 hx1 ⊢
            clear k0 k1 k2 k3 k4
            have HB1 := Lib.hid (And.intro hbV hb1)
            clear hbV hb1 hI hat hm
            go_at_call 13
            refine (at_full hat1 hg hk hff).mono ?_
            rintro e V2 ⟨rfl, hat2, kp2⟩
            have hzero : (({ m with l := m.S.length } : M).S.length : Int) - (({ m with l := m.S.length } : M).o.length : Int) = 0 := by
              have h1 := full_none hat1.ok hff
              show (m.S.length : Int) - (m.o.length : Int) = 0
              omega
            have HZ := Lib.hid hzero
            clear hzero hg hk hff
            go_wp2_with fail
            go_at_call 21
            refine (at_taken hat2).mono ?_
            rintro e V3 ⟨rA, rc, rfl, hr3, hb3⟩
            have hat3 := hat2.below hb3
            have hx3 := (hx1.keep kp2 (Or.inr rfl)).keep (Keep.any (G := fun _ => True) hb3) trivial
            clear hr3
            go_wp2_with fail
            go_at_call 22
            refine (at_free hat3).mono ?_
            rintro e V4 ⟨rfl, hat4, kp4⟩
            rw [HZ.out]
            have x0 := (hx3.keep kp4 (Or.inr rfl)).c0
            have HF : Hid (Inv w mb n V4) := Lib.hid (Inv.mk' (m := { m with l := m.S.length }) HM.out HB1.out.1 HB1.out.2 hat4 (kp2.trans ((Keep.any hb3).trans kp4)))
            go_wp2_with fail
            go_roundw
            case rel => exact ⟨i + 1, by omega, by go_num, HF⟩
            case measure => simp [intOf]; omega
          · have hlt' : ff m.S < m.S.length := by have := ff_le m.S; omega
            go_wp2_with fail
            rw [show V.heap.size = X from HX.out.symm]
            generalize V.alloc (.cells #[.int .i64 t.d, .int .i64 t.a, .int .i64 t.b, .int .i64 t.c, .int .u64 t.x] 34) = V1 at hat1 hb1 hx1 ⊢
            clear k0 k1 k2 k3 k4
            have HB1 := Lib.hid (And.intro hbV hb1)
            clear hbV hb1 hI hat hm
            go_at_call 13
            refine (at_take hat1 hg hk hlt').mono ?_
            rintro e V2 ⟨rfl, hat2, kp2⟩
            have hFn : ff m.S ≤ 1024 := by have := hat1.ok.hi; omega
            have HTO : Hid ((m.taken t.a t.b).o = m.o ++ [ff m.S]) := Lib.hid rfl
            have hol : m.o.length ≤ 1024 := by have := hat1.ok.olen; have := hat1.ok.hi; omega
            have hx2 := hx1.keep kp2 (Or.inr rfl)
            clear hg hk hff hlt' hx1 hat1
            go_wp2_with fail
            go_at_call 21
            refine (at_taken hat2).mono ?_
            rintro e V3 ⟨rA, rc, rfl, hr3, hb3⟩
            have hat3 := hat2.below hb3
            have x0 := (hx2.keep (Keep.any (G := fun _ => True) hb3) trivial).c0
            rw [HTO.out] at hr3 ⊢
            obtain ⟨rb, rfl, hrb, hrl, hrc⟩ := row_cell (j := m.o.length) (x := ff m.S) hr3 (by simp)
            rw [show (m.o ++ [ff m.S]).length = m.o.length + 1 from by simp]
            have bq : ((ff m.S : Int) != (ff m.S : Int)) = false := by simp
            have bz : (((m.o.length + 1 : Nat) : Int) == 0) = false := beq_eq_false_iff_ne.2 (by omega)
            have HF : Hid (Inv w mb n V3) := Lib.hid (Inv.mk' (taken_S.trans HM.out) HB1.out.1 HB1.out.2 hat3 (kp2.trans (Keep.any hb3)))
            clear hr3
            go_wp2_with fail
            go_roundw
            case rel => exact ⟨i + 1, by omega, by go_num, HF⟩
            case measure => simp [intOf]; omega
      · by_cases hd1 : t.d = 1
        · have e0 : (t.d == 0) = false := beq_eq_false_iff_ne.2 hd0
          have e1 : (t.d == 1) = true := by rw [hd1]; rfl
          clear hd0 hd1
          go_wp2_with fail
          rw [show V.heap.size = X from HX.out.symm]
          generalize V.alloc (.cells #[.int .i64 t.d, .int .i64 t.a, .int .i64 t.b, .int .i64 t.c, .int .u64 t.x] 34) = V1 at hat1 hb1 hx1 ⊢
          clear k0 k1 k2 k3 k4
          have HB1 := Lib.hid (And.intro hbV hb1)
          clear hbV hb1 hI hat hm
          go_at_call 15
          refine (at_give_any hat1 t.a).mono ?_
          rintro e V2 ⟨r, m2, rfl, hm2, hat2, kp2⟩
          have x0 := (hx1.keep kp2 (Or.inr rfl)).c0
          have HF : Hid (Inv w mb n V2) := Lib.hid (Inv.mk' (hm2.trans HM.out) HB1.out.1 HB1.out.2 hat2 kp2)
          go_wp2_with fail
          go_roundw
          case rel => exact ⟨i + 1, by omega, by go_num, HF⟩
          case measure => simp [intOf]; omega
        · by_cases hd2 : t.d = 2
          · have e0 : (t.d == 0) = false := beq_eq_false_iff_ne.2 hd0
            have e1 : (t.d == 1) = false := beq_eq_false_iff_ne.2 hd1
            have e2 : (t.d == 2) = true := by rw [hd2]; rfl
            clear hd0 hd1 hd2
            have hbb := tok.b.2
            go_wp2_with fail
            rw [show V.heap.size = X from HX.out.symm]
            generalize V.alloc (.cells #[.int .i64 t.d, .int .i64 t.a, .int .i64 t.b, .int .i64 t.c, .int .u64 t.x] 34) = V1 at hat1 hb1 hx1 ⊢
            clear k0 k1 k2 k3 k4
            have HB1 := Lib.hid (And.intro hbV hb1)
            clear hbV hb1 hI hat hm
            go_at_call 17
            refine (at_bump_any hat1 t.a t.b hbb).mono ?_
            rintro e V2 ⟨r, x, m2, rfl, hm2, hat2, kp2⟩
            have HF : Hid (Inv w mb n V2) := Lib.hid (Inv.mk' (hm2.trans HM.out) HB1.out.1 HB1.out.2 hat2 kp2)
            go_wp2_with fail
            go_roundw
            case rel => exact ⟨i + 1, by omega, by go_num, HF⟩
            case measure => simp [intOf]; omega
          · have e0 : (t.d == 0) = false := beq_eq_false_iff_ne.2 hd0
            have e1 : (t.d == 1) = false := beq_eq_false_iff_ne.2 hd1
            have e2 : (t.d == 2) = false := beq_eq_false_iff_ne.2 hd2
            clear hd0 hd1 hd2
            have HF : Hid (Inv w mb n (V.alloc (.cells #[.int .i64 t.d, .int .i64 t.a, .int .i64 t.b, .int .i64 t.c, .int .u64 t.x] 34))) := Lib.hid ⟨m, HM.out, hat1.less (fun k hk => Or.inl hk), hbV.trans hb1⟩
            go_wp2_with fail
            go_roundw
            case rel => exact ⟨i + 1, by omega, by go_num, HF⟩
            case measure => simp [intOf]; omega
    · obtain rfl : i = L := by omega
      obtain ⟨m, hm, hat, hbV⟩ := hI.out
      have hok := hat.ok
      have hol := hok.olen
      rw [hm] at hol
      have HM := Lib.hid hm
      have HOK := Lib.hid hok
      have hmm := @run_makeMap Try.prog
      go_wp2_with fail
      go_at_call 21
      refine (at_taken hat).mono ?_
      rintro e V2 ⟨A', c', rfl, hr2, hb2⟩
      have hb3 : Below V2.heap.size V2 (V2.alloc (.map #[] 0)) := (Below.refl _ _).alloc (Nat.le_refl _) _
      have hV3 : C2 w (fun k => k < w.heap.size ∨ (V.heap.size ≤ k ∧ k < (V2.alloc (.map #[] 0)).heap.size)) mb m V.heap.size A' c' V2.heap.size 0 (V2.alloc (.map #[] 0)) := by
        refine ⟨hat.fence (hb2.trans (hb3.mono hb2.size)), (Keep.any (G := fun _ => True) hb3).own hr2 (fun _ _ => trivial), ⟨.map [], World.ownsMap_made _ _ _ _, isMap_empty, fun k _ => rfl⟩, hbV.trans ((hb2.trans (hb3.mono hb2.size)).mono hbV.size), Or.inr ⟨hb2.size, by simp⟩, fun _ e => ?_, Nat.le_trans hbV.size hb2.size⟩
        have := (hr2.lt _ e).2
        omega
      obtain ⟨G2, hG2⟩ : ∃ G2 : Nat → Prop, G2 = fun k => k < w.heap.size ∨ (V.heap.size ≤ k ∧ k < (V2.alloc (.map #[] 0)).heap.size) := ⟨_, rfl⟩
      rw [← hG2] at hV3
      have HG : Hid (∀ k, k < w.heap.size → G2 k) := Lib.hid (fun k hk => by rw [hG2]; exact Or.inl hk)
      have HC := Lib.hid hV3
      clear hV3 hG2 hr2 hm hok hb3
      obtain ⟨K, hK⟩ : ∃ K, K = m.o.length := ⟨_, rfl⟩
      rw [← hK] at hol ⊢
      have HK := Lib.hid hK
      clear hK hI hat
      go_wp2_with fail
      generalize V2.alloc (.map #[] 0) = V3 at HC ⊢
      generalize V2.heap.size = B at HC ⊢
      go_loopw [14] (fun qv wr => ∃ q : Nat, q ≤ K ∧ qv = .int .i64 q ∧ Hid (C2 w G2 mb m V.heap.size A' c' B q wr)) (fun qv _ => K - (intOf qv).toNat)
      case atStart => exact ⟨0, by omega, rfl, HC⟩
      case round =>
        obtain ⟨q, hq, rfl, hC⟩ := hrel
        obtain ⟨U, hU⟩ : ∃ U, U = wr := ⟨_, rfl⟩
        rw [← hU] at hC ⊢
        clear hU
        by_cases hqK : q < K
        · obtain ⟨x, hx⟩ : ∃ x, m.o[q]? = some x := ⟨_, List.getElem?_eq_getElem (by have := HK.out; omega)⟩
          obtain ⟨s, hs⟩ := (HOK.out.mem x).1 (List.mem_of_getElem? hx)
          have hxl := get_lt hs.1
          have hx1 : x ≤ 1024 := by have := HOK.out.hi; omega
          obtain ⟨rb, rfl, hrb, hrl, hrc⟩ := row_cell hC.out.r hx
          have HS := Lib.hid (at_seg hC.out.a hs)
          have HX := Lib.hid hx
          clear hx hs hxl
          go_wp2_with fail
          go_at_call 19
          refine HS.out.mono ?_
          rintro e U2 ⟨y0, y1, y2, y3, rfl, hbU⟩
          have hC2 := (hC.out.below hbU).below ((Below.refl _ _).alloc (Nat.le_refl _) (.cells #[.int .i64 s.g, .int .i64 s.k, .int .i64 s.n, .int .i64 y0, .int .i64 y1, .int .i64 y2, .int .i64 y3] 51))
          obtain ⟨r1, U4, r2, r3, hC4⟩ := hC2.step HX.out hx1 (by omega)
          have hrc2 : (U2.alloc (.cells #[.int .i64 s.g, .int .i64 s.k, .int .i64 s.n, .int .i64 y0, .int .i64 y1, .int .i64 y2, .int .i64 y3] 51)).cell? ⟨rb, q, none⟩ = some (.int .i64 x) := by
            obtain ⟨b', e', _, _, h'⟩ := row_cell hC2.r HX.out
            cases e'
            exact h'
          have hrc4 : U4.cell? ⟨rb, q, none⟩ = some (.int .i64 x) := by
            obtain ⟨b', e', _, _, h'⟩ := row_cell hC4.r HX.out
            cases e'
            exact h'
          have HC4 := Lib.hid hC4
          clear hC2 hC4
          go_wp2_with fail
          go_roundw
          case rel => exact ⟨q + 1, by omega, by go_num, HC4⟩
          case measure => simp [intOf]; omega
        · obtain rfl : q = K := by omega
          have HAB : Hid (At (fun k => k < w.heap.size) U mb m ∧ Below w.heap.size w U) := Lib.hid ⟨⟨fun k hk => Nat.lt_of_lt_of_le hk hC.out.b.size, hC.out.a.2.mono (fun k hn hk => hn (HG.out k hk))⟩, hC.out.b⟩
          clear hC hmm
          go_wp2_with fail
          go_loopw [17, 18] (fun bv gv wr => ∃ g : Nat, g ≤ 5 ∧ gv = .int .i64 g ∧ bv = .int .i64 (sumG m g) ∧ Hid (At (fun k => k < w.heap.size) wr mb m ∧ Below w.heap.size w wr)) (fun _ gv _ => 5 - (intOf gv).toNat)
          case atStart => exact ⟨0, by omega, rfl, rfl, HAB⟩
          case round =>
            obtain ⟨g, hg, rfl, rfl, hI2⟩ := hrel
            obtain ⟨T, hT⟩ : ∃ T, T = wr := ⟨_, rfl⟩
            rw [← hT] at hI2 ⊢
            clear hT
            by_cases hg5 : g < 5
            · have hs1 := sum_le HOK.out (q := g) (by omega)
              have hs2 := sum_le HOK.out (q := g + 1) (by omega)
              simp only [sumG] at hs2
              have hg4 : (g : Int) ≤ 4 := by omega
              have hbT : Below T.heap.size T (T.alloc (.cells #[.int .i64 g] 3)) := (Below.refl _ _).alloc (Nat.le_refl _) _
              have HT1 := Lib.hid (at_taken1 (hI2.out.1.below hbT) g T.heap.size (by rw [cell_of_row _ _ _ _ _ _ (heap_alloc_new T _)]; rfl))
              have HSG : Hid (sumG m (g + 1) = sumG m g + cntG m g) := Lib.hid rfl
              go_wp2_with fail
              go_at_call 21
              refine HT1.out.mono ?_
              rintro e T2 ⟨A2, c2, rfl, hbT2⟩
              have HI3 : Hid (At (fun k => k < w.heap.size) T2 mb m ∧ Below w.heap.size w T2) := Lib.hid ⟨(hI2.out.1.below hbT).below hbT2, (hI2.out.2.trans (hbT.mono hI2.out.2.size)).trans (hbT2.mono (Nat.le_trans hI2.out.2.size hbT.size))⟩
              go_wp2_with fail
              go_roundw
              case rel => exact ⟨g + 1, by omega, by go_num, by rw [HSG.out]; go_num, HI3⟩
              case measure => simp [intOf]; omega
            · obtain rfl : g = 5 := by omega
              rw [sum_all HOK.out, ← HK.out, show ((5 : Nat) : Int) = 5 from rfl]
              go_wp2_with fail
              go_loopw [19, 20] (fun tv kv wr => ∃ k : Nat, k ≤ n ∧ kv = .int .i64 k ∧ tv = .int .i64 (cntT (m.S.take k)) ∧ Hid (At (fun k => k < w.heap.size) wr mb m ∧ Below w.heap.size w wr)) (fun _ kv _ => n - (intOf kv).toNat)
              case atStart => exact ⟨0, by omega, rfl, rfl, hI2⟩
              case round =>
                obtain ⟨k, hk, rfl, rfl, hI4⟩ := hrel
                obtain ⟨R, hR⟩ : ∃ R, R = wr := ⟨_, rfl⟩
                rw [← hR] at hI4 ⊢
                clear hR
                have hct : cntT (m.S.take k) ≤ 1024 := by have h1 := cntT_le (m.S.take k); have h2 : (m.S.take k).length ≤ k := List.length_take_le _ _; omega
                by_cases hkn : k < n
                · have hkl : k < m.S.length := by have := HM.out; omega
                  obtain ⟨s, hs⟩ : ∃ s, m.S[k]? = some s := ⟨_, List.getElem?_eq_getElem hkl⟩
                  have HCT := Lib.hid (cntT_take hs)
                  clear hkl
                  rcases hst : s.t with _ | _
                  · rw [hst] at HCT
                    have HS := Lib.hid (at_noseg hI4.out.1 (i := (k : Int)) (fun j x e hh => by
                      have : k = j := by omega
                      subst this
                      have h1 := hh.1
                      rw [hs] at h1
                      cases h1
                      exact absurd hh.2 (by rw [hst]; simp)))
                    clear hs hst
                    go_wp2_with fail
                    go_at_call 19
                    refine HS.out.mono ?_
                    rintro e R2 ⟨y0, y1, y2, y3, rfl, hbR⟩
                    have HI5 : ∀ o : Obj, Hid (At (fun k => k < w.heap.size) (R2.alloc o) mb m ∧ Below w.heap.size w (R2.alloc o)) := fun o => Lib.hid ⟨(hI4.out.1.below hbR).below ((Below.refl _ _).alloc (Nat.le_refl _) _), (hI4.out.2.trans (hbR.mono hI4.out.2.size)).alloc (Nat.le_trans hI4.out.2.size hbR.size) _⟩
                    go_wp2_with fail
                    go_roundw
                    case rel => exact ⟨k + 1, by omega, by go_num, by rw [HCT.out]; rfl, HI5 _⟩
                    case measure => simp [intOf]; omega
                  · rw [hst] at HCT
                    have HS := Lib.hid (at_seg hI4.out.1 ⟨hs, hst⟩)
                    clear hs hst
                    go_wp2_with fail
                    go_at_call 19
                    refine HS.out.mono ?_
                    rintro e R2 ⟨y0, y1, y2, y3, rfl, hbR⟩
                    have HI5 : ∀ o : Obj, Hid (At (fun k => k < w.heap.size) (R2.alloc o) mb m ∧ Below w.heap.size w (R2.alloc o)) := fun o => Lib.hid ⟨(hI4.out.1.below hbR).below ((Below.refl _ _).alloc (Nat.le_refl _) _), (hI4.out.2.trans (hbR.mono hI4.out.2.size)).alloc (Nat.le_trans hI4.out.2.size hbR.size) _⟩
                    go_wp2_with fail
                    go_roundw
                    case rel => exact ⟨k + 1, by omega, by go_num, by rw [HCT.out]; go_num, HI5 _⟩
                    case measure => simp [intOf]; omega
                · obtain rfl : k = n := by omega
                  rw [show cntT (m.S.take k) = q from by rw [List.take_of_length_le (by have := HM.out; omega), ← HOK.out.cnt]; exact HK.out.symm]
                  have HF := Lib.hid (at_free hI4.out.1)
                  have HL2 := Lib.hid (fun (Z : World) (h : At (fun k => k < w.heap.size) Z mb m) => limit_at h.2)
                  have b1 : ((k : Int) - (q : Int) + (q : Int) == (k : Int)) = true := by simp
                  go_wp2_with fail
                  go_at_call 22
                  refine HF.out.mono ?_
                  rintro e R2 ⟨rfl, hat6, kq6⟩
                  rw [HM.out, ← HK.out]
                  go_wp2_with fail
                  go_at_call 23
                  refine (HL2.out _ hat6).mono ?_
                  rintro e R3 ⟨rfl, rfl⟩
                  rw [HM.out]
                  go_wp2_with fail
                  go_at_call 8
                  refine (awake_any _).mono ?_
                  rintro e R4 ⟨rfl, hb8⟩
                  go_wp2_with fail
                  go_ret
                  exact ⟨rfl, (hI4.out.2.trans (kq6.below hI4.out.2.size (fun k hk => hk))).trans (hb8.mono (Nat.le_trans hI4.out.2.size kq6.size))⟩
set_option maxRecDepth 100000 in
theorem walk_bad (z : Int) (A : Option Addr) (k c : Nat) (w : World) (hz : z < 8 ∨ 1024 < z) (hk : k ≤ maxLen) :
    Calls Try.prog 6 #[.int .i64 z, .slice A k c] w fun e w' => e = .returned (.bool true) ∧ Below w.heap.size w w' := by
  have H9 := Lib.hid (new_bad z w hz)
  have H8 := Lib.hid (awake_any w)
  unfold maxLen at hk
  clear hz
  by_cases h3 : 300 < k
  all_goals
    go_enter Try.func6, Try.ntmps6
    go_wp2_with (first | (go_at_call 9; refine H9.out.mono ?_; rintro e w' ⟨rfl, rfl⟩) | (go_at_call 8; refine H8.out.mono ?_; rintro e w' ⟨rfl, hb⟩))
    go_ret
    exact ⟨rfl, hb⟩
set_option maxRecDepth 100000 in
theorem walk_long (n : Nat) (A : Option Addr) (k c : Nat) (w : World) (h8 : 8 ≤ n) (hn : n ≤ 1024) (hk : k ≤ maxLen) (h3 : 300 < k) :
    Calls Try.prog 6 #[.int .i64 n, .slice A k c] w fun e w' => e = .returned (.bool true) ∧ Below w.heap.size w w' := by
  have H9 := Lib.hid (new_good n w h8 hn)
  have H8 := Lib.hid (fun (V : World) => awake_any V)
  unfold maxLen at hk
  go_enter Try.func6, Try.ntmps6
  go_wp2_with (first | (go_at_call 9; refine H9.out.mono ?_; rintro e w1 ⟨rfl, _, hb1⟩) | (go_at_call 8; refine (H8.out _).mono ?_; rintro e w' ⟨rfl, hb⟩))
  go_ret
  exact ⟨rfl, hb1.trans (hb.mono hb1.size)⟩
theorem walk (z : Int) (A : Option Addr) (l : List Ac) (c : Nat) (w : World) (hA : Acts w A l) (hm : l.length ≤ maxLen) :
    Calls Try.prog 6 #[.int .i64 z, .slice A l.length c] w fun e w' => e = .returned (.bool true) ∧ Below w.heap.size w w' := by
  by_cases hz : z < 8 ∨ 1024 < z
  · exact walk_bad z A _ c w hz hm
  · obtain ⟨n, rfl⟩ : ∃ n : Nat, z = (n : Int) := ⟨z.toNat, by omega⟩
    by_cases h3 : 300 < l.length
    · exact walk_long n A _ c w (by omega) (by omega) hm h3
    · exact walk_good n A l c w (by omega) (by omega) hA (by omega)
/-! The row's step. -/
set_option maxRecDepth 100000 in
theorem lifted (os : Os) (started : os.Started) (H : Type) (enc : TypeId × Value → H) :
    ReturnsInHanded {} Try.checked os 6 .any (Rows.segCountsSpec.pre6 enc Try.prog Try.f6 Rows.segCountsRow.domain false) (Rows.segCountsSpec.post enc Try.prog Try.f6 false true false false) := by
  refine returnsInHanded_of_change (C := Try.checked) own started (by kernel_rfl) Try.func6
    (ChangeSpec.witness6 (enc := enc) (C := Try.checked) false ⟨#[], #[.int .i64 0, .slice none 0 0], []⟩ 8 (by kernel_rfl) (by kernel_rfl) (by kernel_rfl) (by kernel_rfl)) ?_
  intro W base args ds gs before hval0 hW hcnd _
  have hval : ∀ (j : Nat) t v, Try.f6.params[j]? = some t → args[j]? = some v → Value.okWide Try.prog W .any base t v := hval0
  have hW' := hW
  obtain ⟨p, q, hA0, hV, rfl, hfz, hnd⟩ := hW
  have hA : DataW.TrodAll enc Try.prog W 0 (fun _ => true) true Try.f6.params.toList args.toList ds p := hA0
  obtain ⟨rfl, rfl⟩ := trodVars_none hV
  simp only [List.append_nil] at hW'
  have hlt : ∀ x ∈ p, x.block < W.heap.size := fun x hx => by simpa using hW'.lt x hx
  have hAk := hA
  rw [Try.params6] at hA hval
  obtain ⟨v0, vs0, d0, ds0, p0, q0, hargs, rfl, rfl, h0, r0⟩ := trodAll_cons hA
  obtain ⟨v1, vs1, d1, ds1, p1, q1, rfl, rfl, rfl, h1, r1⟩ := trodAll_cons r0
  obtain ⟨rfl, rfl, rfl⟩ := trodAll_nil r1
  obtain rfl : args = #[v0, v1] := by cases args; simp_all
  obtain ⟨z0, rfl, rfl, rfl, w0⟩ := open_int Try.underlying3 (hval 0 3 v0 rfl rfl) h0
  obtain ⟨A1, l1, c1, rfl, a1, m1⟩ := open_acts (hval 1 22 v1 rfl rfl) h1
  refine (walk z0 A1 l1 c1 W a1 m1).mono fun e W' ⟨he, hg⟩ => ?_
  subst he
  exact ⟨_, rfl, _, _, _, [], _, [], hW', (trodAll_cons_mk (shut_bool Try.underlying4 _) trodAll_mk0), below_all hg (by kernel_rfl) hAk hlt, rfl, hg.frame _, fun h => by cases h⟩
theorem over : Rows.segCountsRow.holds Try.pinned (OpenSpec.ofChange Rows.segCountsSpec) :=
  OpenClaim.holds_of_wide 6 Try.f6 rfl rfl rfl rfl rfl rfl rfl ⟨rfl, rfl, rfl, rfl, rfl⟩ rfl rfl rfl rfl rfl (by kernel_rfl) Try.func6 (by kernel_rfl)
    (of_decide_eq_true (by kernel_rfl)) (by unfold Func.isWrapper; first | (rw [if_pos (by decide +kernel)]; kernel_rfl) | (rw [if_neg (by decide +kernel)]; exact ⟨rfl, rfl⟩))
    (fun os started H enc _ => lifted os started H enc)
/-- THE STATEMENT -/
theorem proved : Rows.SegCountsSaid :=
  over
#print axioms proved
end Go.Proofs.Ytmhbbhlmiinobaa.segCounts
