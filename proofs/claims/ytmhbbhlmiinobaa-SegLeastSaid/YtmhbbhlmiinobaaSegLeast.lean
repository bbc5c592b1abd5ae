/- For every limit and all acts, SegLeast returns true: what is taken is the least that is free, what is given is free again, one that is full is refused just if none is free. No condition. -/
import Derived.Test.YtmhbbhlmiinobaaM1
import Derived.Deep.DeepCutAuto
set_option linter.unusedVariables false
set_option linter.unusedSimpArgs false
namespace Go.Proofs.Ytmhbbhlmiinobaa.segLeast
open Go.ChangeShapes Go.WideShapes Go.ChangeAt Go.RowKit
/-- What holds at each round's head: the memory is right. -/
def Inv (w : World) (mb n : Nat) (wr : World) : Prop := ∃ m : M, m.S.length = n ∧ At (fun k => k < w.heap.size) wr mb m ∧ Below w.heap.size w wr
theorem Inv.mk' {w V V1 wr : World} {mb n X : Nat} {m : M} (hm : m.S.length = n) (hV : Below w.heap.size w V) (h1 : Below w.heap.size V V1) (h : At (fun k => k < w.heap.size ∨ k = X) wr mb m) (hk : Keep (fun k => k < w.heap.size ∨ k = X) V1 wr) : Inv w mb n wr :=
  ⟨m, hm, h.less (fun k hk => Or.inl hk), (hV.trans h1).trans (hk.below (by have := hV.size; have := h1.size; omega) (fun k hk => Or.inl hk))⟩
structure X5 (V : World) (b : Nat) (t : Ac) : Prop where
  o : V.heap[b]? = some (.cells #[.int .i64 t.d, .int .i64 t.a, .int .i64 t.b, .int .i64 t.c, .int .u64 t.x] 34 (0, 0))
theorem X5.keep {G : Nat → Prop} {V V' : World} {b : Nat} {t : Ac} (h : X5 V b t) (hk : Keep G V V') (hb : G b) : X5 V' b t := ⟨hk.heap hb h.o⟩
theorem X5.c0 {V : World} {b : Nat} {t : Ac} (h : X5 V b t) : V.cell? ⟨b, 0, none⟩ = some (.int .i64 t.d) := by rw [cell_of_row _ _ _ _ _ _ h.o]; rfl
theorem X5.c1 {V : World} {b : Nat} {t : Ac} (h : X5 V b t) : V.cell? ⟨b, 1, none⟩ = some (.int .i64 t.a) := by rw [cell_of_row _ _ _ _ _ _ h.o]; rfl
theorem X5.al {V : World} {b : Nat} {t : Ac} (h : X5 V b t) (o : Obj) : X5 (V.alloc o) b t := ⟨by rw [Below.heap_alloc _ _ _ (lt_of_block h.o)]; exact h.o⟩
theorem X5.c2 {V : World} {b : Nat} {t : Ac} (h : X5 V b t) : V.cell? ⟨b, 2, none⟩ = some (.int .i64 t.b) := by rw [cell_of_row _ _ _ _ _ _ h.o]; rfl
structure LInv (w V1 : World) (mb X : Nat) (m' : M) (t : Ac) (wr : World) : Prop where
  at' : At (fun k => k < w.heap.size ∨ k = X) wr mb m'
  x : X5 wr X t
  k : Keep (fun k => k < w.heap.size ∨ k = X) V1 wr
theorem LInv.below {w V1 : World} {mb X : Nat} {m' : M} {t : Ac} {wr wr' : World} (h : LInv w V1 mb X m' t wr) (hb : Below wr.heap.size wr wr') : LInv w V1 mb X m' t wr' :=
  ⟨h.at'.below hb, h.x.keep (Keep.any (G := fun _ => True) hb) trivial, h.k.trans (Keep.any hb)⟩
set_option maxRecDepth 100000 in
set_option maxHeartbeats 4000000 in
theorem walk_good (n : Nat) (A : Option Addr) (l : List Ac) (c : Nat) (w : World) (h8 : 8 ≤ n) (hn : n ≤ 1024) (hA : Acts w A l) (hl : l.length ≤ 300) :
    Calls Try.prog 7 #[.int .i64 n, .slice A l.length c] w fun e w' => e = .returned (.bool true) ∧ Below w.heap.size w w' := by
  have H9 := Lib.hid (at_new (G := fun k => k < w.heap.size) n w (fun k hk => hk) h8 hn)
  have HA := Lib.hid hA
  clear hA
  obtain ⟨L, hL⟩ : ∃ L, L = l.length := ⟨_, rfl⟩
  rw [← hL] at hl ⊢
  have HL := Lib.hid hL
  clear hL
  go_enter Try.func7, Try.ntmps7
  go_wp2_with fail
  go_at_call 9
  refine H9.out.mono ?_
  rintro e w1 ⟨rfl, h1, b1⟩
  obtain ⟨mb, hmb⟩ : ∃ mb, mb = w.heap.size + 1 := ⟨_, rfl⟩
  rw [← hmb] at h1 ⊢
  clear hmb
  have HI : Hid (Inv w mb n w1) := Lib.hid ⟨M.new n, by simp [M.new], h1, b1.below (Nat.le_refl _) (fun k hk => hk)⟩
  clear h1 b1
  go_wp2_with fail
  go_loopw [7] (fun iv wr => ∃ i : Nat, i ≤ L ∧ iv = .int .i64 i ∧ Hid (Inv w mb n wr)) (fun iv _ => L - (intOf iv).toNat)
  case atStart => exact ⟨0, by omega, rfl, HI⟩
  case round =>
    obtain ⟨i, hi, rfl, hI⟩ := hrel
    obtain ⟨V, hV⟩ : ∃ V, V = wr := ⟨_, rfl⟩
    rw [← hV] at hI ⊢
    clear hV
    by_cases hlt : i < L
    · obtain ⟨t, ht⟩ : ∃ t, l[i]? = some t := ⟨_, List.getElem?_eq_getElem (by have := HL.out; omega)⟩
      obtain ⟨m, hm, hat, hbV⟩ := hI.out
      rcases HA.out with h0 | ⟨b, o, rfl, hb, hc⟩
      · rw [h0] at ht; simp at ht
      obtain ⟨tok, hcells⟩ := hc i t ht
      have k0 : V.cell? ⟨b, o + i * 5, none⟩ = some (.int .i64 t.d) := (hbV.cell (p := ⟨b, o + i * 5, none⟩) hb).trans (hcells 0 _ rfl)
      have k1 : V.cell? ⟨b, o + i * 5 + 1, none⟩ = some (.int .i64 t.a) := (hbV.cell (p := ⟨b, o + i * 5 + 1, none⟩) hb).trans (hcells 1 _ rfl)
      have k2 : V.cell? ⟨b, o + i * 5 + 2, none⟩ = some (.int .i64 t.b) := (hbV.cell (p := ⟨b, o + i * 5 + 2, none⟩) hb).trans (hcells 2 _ rfl)
      have k3 : V.cell? ⟨b, o + i * 5 + 3, none⟩ = some (.int .i64 t.c) := (hbV.cell (p := ⟨b, o + i * 5 + 3, none⟩) hb).trans (hcells 3 _ rfl)
      have k4 : V.cell? ⟨b, o + i * 5 + 4, none⟩ = some (.int .u64 t.x) := (hbV.cell (p := ⟨b, o + i * 5 + 4, none⟩) hb).trans (hcells 4 _ rfl)
      clear hcells hc ht
      obtain ⟨X, hX⟩ : ∃ X, X = V.heap.size := ⟨_, rfl⟩
      have hat1 := hat.more (.cells #[.int .i64 t.d, .int .i64 t.a, .int .i64 t.b, .int .i64 t.c, .int .u64 t.x] 34)
      have hb1 : Below w.heap.size V (V.alloc (.cells #[.int .i64 t.d, .int .i64 t.a, .int .i64 t.b, .int .i64 t.c, .int .u64 t.x] 34)) := (Below.refl _ _).alloc (by have := hbV.size; omega) _
      have hx1 : X5 (V.alloc (.cells #[.int .i64 t.d, .int .i64 t.a, .int .i64 t.b, .int .i64 t.c, .int .u64 t.x] 34)) X t := ⟨by rw [hX]; exact heap_alloc_new _ _⟩
      rw [← hX] at hat1
      have HX := Lib.hid hX
      clear hX
      have HM := Lib.hid hm
      have hMO := hat.ok.olen
      rw [hm] at hMO
      go_wp2_with fail
      rw [show V.heap.size = X from HX.out.symm]
      generalize V.alloc (.cells #[.int .i64 t.d, .int .i64 t.a, .int .i64 t.b, .int .i64 t.c, .int .u64 t.x] 34) = V1 at hat1 hb1 hx1 ⊢
      clear k0 k1 k2 k3 k4
      have HB1 := Lib.hid (And.intro hbV hb1)
      clear hbV hb1 hI hat hm
      go_at_call 22
      refine (at_free hat1).mono ?_
      rintro e V2 ⟨rfl, hat2, kp2⟩
      have hx2 := hx1.keep kp2 (Or.inr rfl)
      clear hat1 hx1
      have x0 := hx2.c0
      have x1 := hx2.c1
      have x2 := hx2.c2
      rw [HM.out]
      by_cases hd0 : t.d = 0
      · have e0 : (t.d == 0) = true := by rw [hd0]; rfl
        clear hd0
        have bfr : ((n : Int) - (m.o.length : Int) != (n : Int) - (m.o.length : Int)) = false := by simp
        by_cases hbad : genB t.a = false ∨ kindB t.b = false
        · have HT := Lib.hid (take_arg hat2.2 hbad)
          have HFR := Lib.hid (at_free hat2)
          clear hbad
          go_wp2_with fail
          go_at_call 13
          refine HT.out.mono ?_
          rintro e w' ⟨rfl, rfl⟩
          go_wp2_with fail
          go_at_call 22
          refine HFR.out.mono ?_
          rintro e V3 ⟨rfl, hat3, kp3⟩
          rw [HM.out]
          have HF : Hid (Inv w mb n V3) := Lib.hid (Inv.mk' HM.out HB1.out.1 HB1.out.2 hat3 (kp2.trans kp3))
          go_wp2_with fail
          go_roundw
          case rel => exact ⟨i + 1, by omega, by go_num, HF⟩
          case measure => simp [intOf]; omega
        · have hg : genB t.a = true := by
            rcases h : genB t.a with _ | _
            · exact absurd (Or.inl h) hbad
            · rfl
          have hk : kindB t.b = true := by
            rcases h : kindB t.b with _ | _
            · exact absurd (Or.inr h) hbad
            · rfl
          clear hbad
          by_cases hff : ff m.S = m.S.length
          · have HT := Lib.hid (at_full hat2 hg hk hff)
            have hzero : (n : Int) - (m.o.length : Int) ≤ 0 := by
              have h1 := full_none hat2.ok hff
              have h2 := HM.out
              omega
            clear hg hk hff
            go_wp2_with fail
            go_at_call 13
            refine HT.out.mono ?_
            rintro e V3 ⟨rfl, hat3, kp3⟩
            go_wp2_with fail
            go_at_call 22
            refine (at_free hat3).mono ?_
            rintro e V4 ⟨rfl, hat4, kp4⟩
            rw [show (({ m with l := m.S.length } : M).S.length : Int) - (({ m with l := m.S.length } : M).o.length : Int) = (n : Int) - (m.o.length : Int) from by rw [show ({ m with l := m.S.length } : M).S.length = m.S.length from rfl, HM.out]]
            have HF : Hid (Inv w mb n V4) := Lib.hid (Inv.mk' (m := { m with l := m.S.length }) HM.out HB1.out.1 HB1.out.2 hat4 (kp2.trans (kp3.trans kp4)))
            go_wp2_with fail
            go_roundw
            case rel => exact ⟨i + 1, by omega, by go_num, HF⟩
            case measure => simp [intOf]; omega
          · have hlt' : ff m.S < m.S.length := by have := ff_le m.S; omega
            have HT := Lib.hid (at_take hat2 hg hk hlt')
            have HTB := Lib.hid (fun q (hq : q < ff m.S) => taken_below (g := t.a) (k := t.b) hlt' hq)
            have HTH := Lib.hid (taken_has (g := t.a) (k := t.b) hlt')
            have hFn : ff m.S ≤ 1024 := by have := hat2.ok.hi; omega
            obtain ⟨F, hF⟩ : ∃ F, F = ff m.S := ⟨_, rfl⟩
            rw [← hF] at hFn HTB HTH HT
            clear hg hk hff hlt' hF
            go_wp2_with fail
            go_at_call 13
            refine HT.out.mono ?_
            rintro e V3 ⟨rfl, hat3, kp3⟩
            have HLI : Hid (LInv w V1 mb X (m.taken t.a t.b) t V3) := Lib.hid ⟨hat3, hx2.keep kp3 (Or.inr rfl), kp2.trans kp3⟩
            clear hat2 hat3 hx2 kp2 kp3 x0 x1 x2
            go_wp2_with fail
            go_loopw [12] (fun qv wr => ∃ q : Nat, q ≤ F ∧ qv = .int .i64 q ∧ Hid (LInv w V1 mb X (m.taken t.a t.b) t wr)) (fun qv _ => F - (intOf qv).toNat)
            case atStart => exact ⟨0, by omega, rfl, HLI⟩
            case round =>
              obtain ⟨q, hq, rfl, hLI⟩ := hrel
              obtain ⟨U, hU⟩ : ∃ U, U = wr := ⟨_, rfl⟩
              rw [← hU] at hLI ⊢
              clear hU
              by_cases hqF : q < F
              · obtain ⟨s, hs⟩ := HTB.out q hqF
                have HS := Lib.hid (at_seg hLI.out.at' hs)
                clear hs
                go_wp2_with fail
                go_at_call 19
                refine HS.out.mono ?_
                rintro e U2 ⟨y0, y1, y2, y3, rfl, hbU⟩
                have HL2 : ∀ o : Obj, Hid (LInv w V1 mb X (m.taken t.a t.b) t (U2.alloc o)) := fun o => Lib.hid ((hLI.out.below hbU).below ((Below.refl _ _).alloc (Nat.le_refl _) _))
                go_wp2_with fail
                go_roundw
                case rel => exact ⟨q + 1, by omega, by go_num, HL2 _⟩
                case measure => simp [intOf]; omega
              · obtain rfl : q = F := by omega
                have HS := Lib.hid (at_seg hLI.out.at' HTH.out)
                go_wp2_with fail
                go_at_call 19
                refine HS.out.mono ?_
                rintro e U2 ⟨y0, y1, y2, y3, rfl, hbU⟩
                rw [show (Sg.fresh t.a t.b).g = t.a from rfl, show (Sg.fresh t.a t.b).k = t.b from rfl, show (((Sg.fresh t.a t.b).n : Nat) : Int) = 0 from rfl]
                have hL2 := hLI.out.below hbU
                have HL3 := Lib.hid (hL2.below ((Below.refl _ _).alloc (Nat.le_refl _) (.cells #[.int .i64 t.a, .int .i64 t.b, .int .i64 0, .int .i64 y0, .int .i64 y1, .int .i64 y2, .int .i64 y3] 51)))
                have x1 : ∀ o : Obj, (U2.alloc o).cell? ⟨X, 1, none⟩ = some (.int .i64 t.a) := fun o => (hL2.x.al o).c1
                have x2 : ∀ o : Obj, (U2.alloc o).cell? ⟨X, 2, none⟩ = some (.int .i64 t.b) := fun o => (hL2.x.al o).c2
                have ba : (t.a != t.a) = false := by simp
                have bb : (t.b != t.b) = false := by simp
                have HFR := Lib.hid (at_free HL3.out.at')
                have HSZ : Hid (((m.taken t.a t.b).S.length : Int) - ((m.taken t.a t.b).o.length : Int) = (n : Int) - (m.o.length : Int) - 1) := Lib.hid (by
                  rw [taken_S, HM.out, show (m.taken t.a t.b).o.length = m.o.length + 1 from by simp [M.taken]]; omega)
                have bz : ((n : Int) - (m.o.length : Int) - 1 != (n : Int) - (m.o.length : Int) - 1) = false := by simp
                clear hL2
                go_wp2_with fail
                go_at_call 22
                refine HFR.out.mono ?_
                rintro e U3 ⟨rfl, hat5, kp5⟩
                rw [HSZ.out]
                have HF : Hid (Inv w mb n U3) := Lib.hid (Inv.mk' (taken_S.trans HM.out) HB1.out.1 HB1.out.2 hat5 (HL3.out.k.trans kp5))
                go_wp2_with fail
                go_roundw
                case rel => exact ⟨i + 1, by omega, by go_num, HF⟩
                case measure => simp [intOf]; omega
      · by_cases hd1 : t.d = 1
        · have e0 : (t.d == 0) = false := beq_eq_false_iff_ne.2 hd0
          have e1 : (t.d == 1) = true := by rw [hd1]; rfl
          clear hd0 hd1
          rcases has_dec m t.a with ⟨j, s, hja, hi'⟩ | hno
          · rw [hja] at x1
            have HJ := Lib.hid hja
            have HI2 := Lib.hid hi'
            have HGL := Lib.hid (given_len hat2.ok hi')
            clear hja hi'
            go_wp2_with fail
            go_at_call 19
            refine (at_seg hat2 HI2.out).mono ?_
            rintro e V3 ⟨y0, y1, y2, y3, rfl, hb3⟩
            have hat3 := hat2.below hb3
            have hx3 := hx2.keep (Keep.any (G := fun _ => True) hb3) trivial
            have kp3 := kp2.trans (Keep.any (G := fun k => k < w.heap.size ∨ k = X) hb3)
            clear hat2 hx2 kp2
            clear x0 x1 x2
            have x1 : ∀ o : Obj, (V3.alloc o).cell? ⟨X, 1, none⟩ = some (.int .i64 j) := fun o => by rw [(hx3.al o).c1, HJ.out]
            go_wp2_with fail
            clear x1
            have hb4 : Below V3.heap.size V3 (V3.alloc (.cells #[.int .i64 s.g, .int .i64 s.k, .int .i64 s.n, .int .i64 y0, .int .i64 y1, .int .i64 y2, .int .i64 y3] 51)) := (Below.refl _ _).alloc (Nat.le_refl _) _
            generalize V3.alloc (.cells #[.int .i64 s.g, .int .i64 s.k, .int .i64 s.n, .int .i64 y0, .int .i64 y1, .int .i64 y2, .int .i64 y3] 51) = V4 at hb4 ⊢
            have hat4 := hat3.below hb4
            have hx4 := hx3.keep (Keep.any (G := fun _ => True) hb4) trivial
            have kp4 := kp3.trans (Keep.any (G := fun k => k < w.heap.size ∨ k = X) hb4)
            clear hat3 hx3 kp3
            go_at_call 15
            refine (at_give hat4 HI2.out).mono ?_
            rintro e V5 ⟨rfl, hat5, kq5⟩
            have hx5 := hx4.keep kq5 (Or.inr rfl)
            have kp5 := kp4.trans kq5
            clear hat4 hx4 kp4
            have x1 : V5.cell? ⟨X, 1, none⟩ = some (.int .i64 j) := by rw [hx5.c1, HJ.out]
            go_wp2_with fail
            clear x1
            go_at_call 19
            refine (at_noseg hat5 (given_not HI2.out)).mono ?_
            rintro e V6 ⟨y0, y1, y2, y3, rfl, hb6⟩
            have hat6 := hat5.below hb6
            have hx6 := hx5.keep (Keep.any (G := fun _ => True) hb6) trivial
            have kp6 := kp5.trans (Keep.any (G := fun k => k < w.heap.size ∨ k = X) hb6)
            clear hat5 hx5 kp5
            have HF6 := Lib.hid (at_free (hat6.below ((Below.refl _ _).alloc (Nat.le_refl _) (.cells #[.int .i64 0, .int .i64 0, .int .i64 0, .int .i64 y0, .int .i64 y1, .int .i64 y2, .int .i64 y3] 51))))
            have hgl := HGL.out
            have hsz : ((m.given j s).S.length : Int) - ((m.given j s).o.length : Int) = (n : Int) - (m.o.length : Int) + 1 := by
              rw [given_S, HM.out]; omega
            have HSZ := Lib.hid hsz
            have bq : ((n : Int) - (m.o.length : Int) + 1 != (n : Int) - (m.o.length : Int) + 1) = false := by simp
            clear hsz hgl
            go_wp2_with fail
            go_at_call 22
            refine HF6.out.mono ?_
            rintro e V7 ⟨rfl, hat7, kq7⟩
            rw [HSZ.out]
            have HF : Hid (Inv w mb n V7) := Lib.hid (Inv.mk' (given_S.trans HM.out) HB1.out.1 HB1.out.2 hat7 ((kp6.alloc _).trans kq7))
            go_wp2_with fail
            go_roundw
            case rel => exact ⟨i + 1, by omega, by go_num, HF⟩
            case measure => simp [intOf]; omega
          · have HNO := Lib.hid hno
            clear hno
            go_wp2_with fail
            go_at_call 19
            refine (at_noseg hat2 HNO.out).mono ?_
            rintro e V3 ⟨y0, y1, y2, y3, rfl, hb3⟩
            have hat3 := hat2.below hb3
            have hx3 := hx2.keep (Keep.any (G := fun _ => True) hb3) trivial
            have kp3 := kp2.trans (Keep.any (G := fun k => k < w.heap.size ∨ k = X) hb3)
            clear hat2 hx2 kp2
            clear x0 x1 x2
            have x1 : ∀ o : Obj, (V3.alloc o).cell? ⟨X, 1, none⟩ = some (.int .i64 t.a) := fun o => by rw [(hx3.al o).c1]
            go_wp2_with fail
            clear x1
            have hb4 : Below V3.heap.size V3 (V3.alloc (.cells #[.int .i64 0, .int .i64 0, .int .i64 0, .int .i64 y0, .int .i64 y1, .int .i64 y2, .int .i64 y3] 51)) := (Below.refl _ _).alloc (Nat.le_refl _) _
            generalize V3.alloc (.cells #[.int .i64 0, .int .i64 0, .int .i64 0, .int .i64 y0, .int .i64 y1, .int .i64 y2, .int .i64 y3] 51) = V4 at hb4 ⊢
            have hat4 := hat3.below hb4
            have hx4 := hx3.keep (Keep.any (G := fun _ => True) hb4) trivial
            have kp4 := kp3.trans (Keep.any (G := fun k => k < w.heap.size ∨ k = X) hb4)
            clear hat3 hx3 kp3
            go_at_call 15
            refine (give_none hat4.2 HNO.out).mono ?_
            rintro e V5 ⟨rfl, hb5⟩
            have hat5 := hat4.below hb5
            have hx5 := hx4.keep (Keep.any (G := fun _ => True) hb5) trivial
            have kp5 := kp4.trans (Keep.any (G := fun k => k < w.heap.size ∨ k = X) hb5)
            clear hat4 hx4 kp4
            have x1 : V5.cell? ⟨X, 1, none⟩ = some (.int .i64 t.a) := hx5.c1
            go_wp2_with fail
            clear x1
            go_at_call 19
            refine (at_noseg hat5 HNO.out).mono ?_
            rintro e V6 ⟨y0, y1, y2, y3, rfl, hb6⟩
            have hat6 := hat5.below hb6
            have hx6 := hx5.keep (Keep.any (G := fun _ => True) hb6) trivial
            have kp6 := kp5.trans (Keep.any (G := fun k => k < w.heap.size ∨ k = X) hb6)
            clear hat5 hx5 kp5
            have HF : ∀ o : Obj, Hid (Inv w mb n (V6.alloc o)) := fun o => Lib.hid (Inv.mk' HM.out HB1.out.1 HB1.out.2 (hat6.below ((Below.refl _ _).alloc (Nat.le_refl _) _)) (kp6.alloc _))
            go_wp2_with fail
            go_roundw
            case rel => exact ⟨i + 1, by omega, by go_num, HF _⟩
            case measure => simp [intOf]; omega
        · by_cases hd2 : t.d = 2
          · have e0 : (t.d == 0) = false := beq_eq_false_iff_ne.2 hd0
            have e1 : (t.d == 1) = false := beq_eq_false_iff_ne.2 hd1
            have e2 : (t.d == 2) = true := by rw [hd2]; rfl
            clear hd0 hd1 hd2
            have hbb := tok.b.2
            go_wp2_with fail
            go_at_call 17
            refine (at_bump_any hat2 t.a t.b hbb).mono ?_
            rintro e V3 ⟨r, x, m3, rfl, hm3, hat3, kp3⟩
            have hfin : Inv w mb n V3 := Inv.mk' (hm3.trans HM.out) HB1.out.1 HB1.out.2 hat3 (kp2.trans kp3)
            have HF := Lib.hid hfin
            clear hfin
            go_wp2_with fail
            go_roundw
            case rel => exact ⟨i + 1, by omega, by go_num, HF⟩
            case measure => simp [intOf]; omega
          · have e0 : (t.d == 0) = false := beq_eq_false_iff_ne.2 hd0
            have e1 : (t.d == 1) = false := beq_eq_false_iff_ne.2 hd1
            have e2 : (t.d == 2) = false := beq_eq_false_iff_ne.2 hd2
            clear hd0 hd1 hd2
            have HF : Hid (Inv w mb n V2) := Lib.hid (Inv.mk' HM.out HB1.out.1 HB1.out.2 hat2 kp2)
            go_wp2_with fail
            go_roundw
            case rel => exact ⟨i + 1, by omega, by go_num, HF⟩
            case measure => simp [intOf]; omega
    · obtain rfl : i = L := by omega
      have H8 := Lib.hid (awake_any V)
      go_wp2_with fail
      go_at_call 8
      refine H8.out.mono ?_
      rintro e w2 ⟨rfl, b2⟩
      go_wp2_with fail
      go_ret
      obtain ⟨m, hm, hat, hbV⟩ := hI.out
      exact ⟨rfl, hbV.trans (b2.mono hbV.size)⟩
set_option maxRecDepth 100000 in
theorem walk_bad (z : Int) (A : Option Addr) (k c : Nat) (w : World) (hz : z < 8 ∨ 1024 < z) (hk : k ≤ maxLen) :
    Calls Try.prog 7 #[.int .i64 z, .slice A k c] w fun e w' => e = .returned (.bool true) ∧ Below w.heap.size w w' := by
  have H9 := Lib.hid (new_bad z w hz)
  have H8 := Lib.hid (awake_any w)
  unfold maxLen at hk
  clear hz
  by_cases h3 : 300 < k
  all_goals
    go_enter Try.func7, Try.ntmps7
    go_wp2_with (first | (go_at_call 9; refine H9.out.mono ?_; rintro e w' ⟨rfl, rfl⟩) | (go_at_call 8; refine H8.out.mono ?_; rintro e w' ⟨rfl, hb⟩))
    go_ret
    exact ⟨rfl, hb⟩
set_option maxRecDepth 100000 in
theorem walk_long (n : Nat) (A : Option Addr) (k c : Nat) (w : World) (h8 : 8 ≤ n) (hn : n ≤ 1024) (hk : k ≤ maxLen) (h3 : 300 < k) :
    Calls Try.prog 7 #[.int .i64 n, .slice A k c] w fun e w' => e = .returned (.bool true) ∧ Below w.heap.size w w' := by
  have H9 := Lib.hid (new_good n w h8 hn)
  have H8 := Lib.hid (fun (V : World) => awake_any V)
  unfold maxLen at hk
  go_enter Try.func7, Try.ntmps7
  go_wp2_with (first | (go_at_call 9; refine H9.out.mono ?_; rintro e w1 ⟨rfl, _, hb1⟩) | (go_at_call 8; refine (H8.out _).mono ?_; rintro e w' ⟨rfl, hb⟩))
  go_ret
  exact ⟨rfl, hb1.trans (hb.mono hb1.size)⟩
theorem walk (z : Int) (A : Option Addr) (l : List Ac) (c : Nat) (w : World) (hA : Acts w A l) (hm : l.length ≤ maxLen) :
    Calls Try.prog 7 #[.int .i64 z, .slice A l.length c] w fun e w' => e = .returned (.bool true) ∧ Below w.heap.size w w' := by
  by_cases hz : z < 8 ∨ 1024 < z
  · exact walk_bad z A _ c w hz hm
  · obtain ⟨n, rfl⟩ : ∃ n : Nat, z = (n : Int) := ⟨z.toNat, by omega⟩
    by_cases h3 : 300 < l.length
    · exact walk_long n A _ c w (by omega) (by omega) hm h3
    · exact walk_good n A l c w (by omega) (by omega) hA (by omega)
/-! The row's step. -/
set_option maxRecDepth 100000 in
theorem lifted (os : Os) (started : os.Started) (H : Type) (enc : TypeId × Value → H) :
    ReturnsInHanded {} Try.checked os 7 .any (Rows.segLeastSpec.pre6 enc Try.prog Try.f7 Rows.segLeastRow.domain false) (Rows.segLeastSpec.post enc Try.prog Try.f7 false true false false) := by
  refine returnsInHanded_of_change (C := Try.checked) own started (by kernel_rfl) Try.func7
    (ChangeSpec.witness6 (enc := enc) (C := Try.checked) false ⟨#[], #[.int .i64 0, .slice none 0 0], []⟩ 8 (by kernel_rfl) (by kernel_rfl) (by kernel_rfl) (by kernel_rfl)) ?_
  intro W base args ds gs before hval0 hW hcnd _
  have hval : ∀ (j : Nat) t v, Try.f7.params[j]? = some t → args[j]? = some v → Value.okWide Try.prog W .any base t v := hval0
  have hW' := hW
  obtain ⟨p, q, hA0, hV, rfl, hfz, hnd⟩ := hW
  have hA : DataW.TrodAll enc Try.prog W 0 (fun _ => true) true Try.f7.params.toList args.toList ds p := hA0
  obtain ⟨rfl, rfl⟩ := trodVars_none hV
  simp only [List.append_nil] at hW'
  have hlt : ∀ x ∈ p, x.block < W.heap.size := fun x hx => by simpa using hW'.lt x hx
  have hAk := hA
  rw [Try.params7] at hA hval
  obtain ⟨v0, vs0, d0, ds0, p0, q0, hargs, rfl, rfl, h0, r0⟩ := trodAll_cons hA
  obtain ⟨v1, vs1, d1, ds1, p1, q1, rfl, rfl, rfl, h1, r1⟩ := trodAll_cons r0
  obtain ⟨rfl, rfl, rfl⟩ := trodAll_nil r1
  obtain rfl : args = #[v0, v1] := by cases args; simp_all
  obtain ⟨z0, rfl, rfl, rfl, w0⟩ := open_int Try.underlying3 (hval 0 3 v0 rfl rfl) h0
  obtain ⟨A1, l1, c1, rfl, a1, m1⟩ := open_acts (hval 1 22 v1 rfl rfl) h1
  refine (walk z0 A1 l1 c1 W a1 m1).mono fun e W' ⟨he, hg⟩ => ?_
  subst he
  exact ⟨_, rfl, _, _, _, [], _, [], hW', (trodAll_cons_mk (shut_bool Try.underlying4 _) trodAll_mk0), below_all hg (by kernel_rfl) hAk hlt, rfl, hg.frame _, fun h => by cases h⟩
theorem over : Rows.segLeastRow.holds Try.pinned (OpenSpec.ofChange Rows.segLeastSpec) :=
  OpenClaim.holds_of_wide 7 Try.f7 rfl rfl rfl rfl rfl rfl rfl ⟨rfl, rfl, rfl, rfl, rfl⟩ rfl rfl rfl rfl rfl (by kernel_rfl) Try.func7 (by kernel_rfl)
    (of_decide_eq_true (by kernel_rfl)) (by unfold Func.isWrapper; first | (rw [if_pos (by decide +kernel)]; kernel_rfl) | (rw [if_neg (by decide +kernel)]; exact ⟨rfl, rfl⟩))
    (fun os started H enc _ => lifted os started H enc)
/-- THE STATEMENT -/
theorem proved : Rows.SegLeastSaid :=
  over
#print axioms proved
end Go.Proofs.Ytmhbbhlmiinobaa.segLeast
