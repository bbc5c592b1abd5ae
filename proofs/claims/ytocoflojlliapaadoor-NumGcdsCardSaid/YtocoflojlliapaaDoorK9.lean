import Derived.Test.YtocoflojlliapaaDoorK7
import Derived.Test.YtocoflojlliapaaDoorK8
import Derived.Deep.RegionHeld3
import Derived.Deep.AppendLies
/- The document's number of a value, and the law's own 'is'. -/
set_option linter.unusedVariables false
namespace Go.Proofs.YtocoflojlliapaaDoor
open Go.RowKit
/-- the value z, as a row of bits -/
def BVal (w : World) (r : Bool) (B : Option Addr) (m d : Nat) (z : Int) : Prop := r = decide (z < 0) ∧ m = bl z.natAbs ∧ Bit w B m d z.natAbs
theorem BVal.below {w w' : World} {r : Bool} {B : Option Addr} {m d : Nat} {z : Int} (h : BVal w r B m d z) (hb : Below w.heap.size w w') : BVal w' r B m d z := ⟨h.1, h.2.1, h.2.2.below hb⟩
theorem pow32a (k : Nat) : (4294967296 : Nat) ^ k = 2 ^ (32 * k) := by rw [Nat.pow_mul]
theorem bl_dl (N m k : Nat) (h : k = 32 * m) : bl N ≤ k ↔ dl N ≤ m := by rw [bl_le, dl_le, pow32a, h]
set_option maxHeartbeats 1600000 in
theorem refNum_no (neg : Bool) (B : Option Addr) (m d : Nat) (w : World) (hbits : 1536 < m) (hm : m ≤ 100000000) :
    Calls Tryd.prog 53 #[.agg #[.bool neg, .slice B m d]] w fun e w' => e = .returned (.tuple #[.agg #[.bool false, .slice none 0 0], .int .i64 6]) ∧ Below w.heap.size w w' := by
  obtain ⟨W, hW⟩ : ∃ W, W = (w.alloc (.cells #[.bool neg, .slice B m d] 30)).alloc (.cells #[.bool false, .slice none 0 0] 24) := ⟨_, rfl⟩
  have hbW : Below w.heap.size w W := by rw [hW]; exact below_al (below_al (Below.refl _ _) _) _
  have t1 : Two W w.heap.size 30 (.bool neg) (.slice B m d) := by rw [hW]; exact (Two.made w 30 _ _).alloc _
  have t2 : Two W (w.heap.size + 1) 24 (.bool false) (.slice none 0 0) := by
    rw [hW]
    have h := Two.made (w.alloc (.cells #[.bool neg, .slice B m d] 30)) 24 (.bool false) (.slice none 0 0)
    simpa using h
  have k1 := t1.fst
  have k2 := t1.snd
  have k3 := t2.fst
  have k4 := t2.snd
  have k5 := t2.free 0
  have k6 := t2.free 1
  go_enter Tryd.func53, Tryd.ntmps53
  go_wp2_with fail
  rw [← hW]
  have HW := Lib.hid hW
  clear hW
  go_wp2
  all_goals exact bodyPost_ret (v := .tuple #[.agg #[.bool false, .slice none 0 0], .int .i64 6]) (by simp [results, Tryd.results53, go_sem, k3, k4]) rfl ⟨rfl, (by first | exact hbW | exact below_two (g := w.heap.size + 1) hbW (by omega))⟩
theorem refNum_tells {r : Bool} {B : Option Addr} {m d : Nat} {z : Int} (w : World) (h : BVal w r B m d z) (hm : m ≤ 100000000) :
    Calls Tryd.prog 53 #[.agg #[.bool r, .slice B m d]] w fun e w' => Tells w w' e z := by
  obtain ⟨rfl, rfl, hb⟩ := h
  by_cases hf : dl z.natAbs ≤ 48
  · refine (refNum_yes (decide (z < 0)) B d z.natAbs w hb ((bl_dl _ 48 1536 rfl).2 hf)).mono fun e w' hq => ?_
    obtain ⟨A, c, rfl, hfr⟩ := hq
    refine ⟨_, A, _, c, by rw [resV_yes hf], ?_, hfr.2⟩
    rw [resZ_yes hf]
    exact ⟨rfl, rfl, hf, (Mag.of_fresh hfr).1⟩
  · refine (refNum_no _ B _ d w (by have := mt (bl_dl z.natAbs 48 1536 rfl).1 hf; omega) hm).mono fun e w' hq => ?_
    obtain ⟨rfl, hb⟩ := hq
    refine ⟨false, none, 0, 0, by rw [resV_no hf], ?_, hb⟩
    rw [resZ_no hf]
    exact can_nil _
set_option maxHeartbeats 3200000 in
theorem is_can {r r2 : Bool} {A B : Option Addr} {m c m2 d : Nat} {z : Int} (w : World) (h : Can w r A m c (resZ z)) (h2 : BVal w r2 B m2 d z) (hm : m2 ≤ 100000000) (v : Int) (hv : Hid (resV z = v)) :
    Calls Tryd.prog 25 #[.agg #[.bool r, .slice A m c], .int .i64 v, .agg #[.bool r2, .slice B m2 d]] w fun e w' => e = .returned (.bool true) ∧ Below w.heap.size w w' := by
  obtain ⟨W, hW⟩ : ∃ W, W = (w.alloc (.cells #[.bool r, .slice A m c] 24)).alloc (.cells #[.bool r2, .slice B m2 d] 30) := ⟨_, rfl⟩
  have hbW : Below w.heap.size w W := by rw [hW]; exact below_al (below_al (Below.refl _ _) _) _
  have t1 : Two W w.heap.size 24 (.bool r) (.slice A m c) := by rw [hW]; exact (Two.made w 24 _ _).alloc _
  have t2 : Two W (w.heap.size + 1) 30 (.bool r2) (.slice B m2 d) := by
    rw [hW]
    have h := Two.made (w.alloc (.cells #[.bool r, .slice A m c] 24)) 30 (.bool r2) (.slice B m2 d)
    simpa using h
  have Q := h.below hbW
  have RN := fun V (h : BVal V r2 B m2 d z) => Lib.hid ((refNum_tells V h hm).mono fun e w' (hq : Tells V w' e z) => (show ∃ r A m c, e = .returned (.tuple #[.agg #[.bool r, .slice A m c], .int .i64 v]) ∧ Can w' r A m c (resZ z) ∧ Below V.heap.size V w' from hv.out ▸ hq))
  have q2 := h2.below hbW
  have k1 := t2.fst
  have k2 := t2.snd
  go_enter Tryd.func25, Tryd.ntmps25
  go_wp2_with fail
  rw [← hW]
  have HW := Lib.hid hW
  clear hW h h2
  refine ((RN W q2).out).mono ?_
  rintro e y1 ⟨r3, A3, m3, c3, rfl, Q3, b1⟩
  have bb := below_then b1 (below_al (Below.refl _ _) (.cells #[.bool r3, .slice A3 m3 c3] 24))
  replace t1 := t1.below' bb
  replace Q := Q.below bb
  replace Q3 := Q3.below (below_al (Below.refl _ _) (.cells #[.bool r3, .slice A3 m3 c3] 24))
  have tz := Two.made y1 24 (.bool r3) (.slice A3 m3 c3)
  have B1 := below_then hbW bb
  clear bb b1 k1 k2
  have k1 := t1.fst
  have k2 := t1.snd
  have k3 := tz.fst
  have k4 := tz.snd
  go_wp2_with fail
  have CT := Lib.hid (same_can Q Q3)
  refine (CT.out).mono ?_
  rintro e y2 ⟨rfl, bb⟩
  go_wp2
  go_ret
  exact ⟨rfl, below_then B1 bb⟩
set_option maxHeartbeats 1600000 in
theorem turn_any {r : Bool} {B : Option Addr} {m d : Nat} {z : Int} (w : World) (h : BVal w r B m d z) (hm : m ≤ 1000000) :
    Calls Tryd.prog 26 #[.agg #[.bool r, .slice B m d]] w fun e w' => ∃ r' m', e = .returned (.agg #[.bool r', .slice B m' d]) ∧ BVal w' r' B m' d (-z) ∧ Below w.heap.size w w' := by
  obtain ⟨W, hW⟩ : ∃ W, W = (w.alloc (.cells #[.bool r, .slice B m d] 30)).alloc (.cells #[.bool false, .slice none 0 0] 30) := ⟨_, rfl⟩
  have hbW : Below w.heap.size w W := by rw [hW]; exact below_al (below_al (Below.refl _ _) _) _
  have t1 : Two W w.heap.size 30 (.bool r) (.slice B m d) := by rw [hW]; exact (Two.made w 30 _ _).alloc _
  have t2 : Two W (w.heap.size + 1) 30 (.bool false) (.slice none 0 0) := by
    rw [hW]
    have h := Two.made (w.alloc (.cells #[.bool r, .slice B m d] 30)) 30 (.bool false) (.slice none 0 0)
    simpa using h
  have q := h.below hbW
  have hg : w.heap.size ≤ w.heap.size + 1 := Nat.le_succ _
  have VA : ∀ V, BVal V r B m d z → Hid (Calls Tryd.prog 51 #[.bool (!r), .slice B m d] V fun e w' => ∃ r' m', e = .returned (.agg #[.bool r', .slice B m' d]) ∧ (r' = decide (-z < 0) ∧ m' = bl (-z).natAbs) ∧ Below V.heap.size V w') := fun V hv => Lib.hid (by
    obtain ⟨rfl, rfl, hb⟩ := hv
    refine (value_any _ B _ d z.natAbs V hb (by omega)).mono fun e w' ⟨he, hw⟩ => ?_
    subst he
    refine ⟨_, _, rfl, ⟨?_, by rw [Int.natAbs_neg]⟩, hw⟩
    by_cases h0 : z.natAbs = 0
    · have hz : z = 0 := by omega
      subst hz
      rfl
    · rw [signB_pos _ h0]
      by_cases hz : z < 0
      · rw [decide_eq_true hz, decide_eq_false (show ¬ (-z < 0) by omega)]; rfl
      · rw [decide_eq_false hz, decide_eq_true (show -z < 0 by omega)]; rfl)
  have k1 := t1.fst
  have k2 := t1.snd
  go_enter Tryd.func26, Tryd.ntmps26
  go_wp2_with fail
  rw [← hW]
  have HW := Lib.hid hW
  clear hW
  refine ((VA W q).out).mono ?_
  rintro e y1 ⟨r', m', rfl, hr, b1⟩
  have HR := Lib.hid hr
  have z1 := (t2.below' b1).fst
  have z2 := (t2.below' b1).snd
  have z3 := (t2.below' b1).free 0
  have z4 := (t2.below' b1).free 1
  have B1 := below_then hbW b1
  clear hr
  go_wp2
  have hx := (t2.below' b1).set2 (a' := .bool r') (b' := .slice B m' d)
  have x0 := hx.fst
  have x1 := hx.snd
  have bb := below_two (a := .bool r') (b := .slice B m' d) B1 hg
  obtain ⟨e1, e2⟩ := HR.out
  refine bodyPost_ret (v := .agg #[.bool r', .slice B m' d]) (by simp [results, Tryd.results26, go_sem, x0, x1]) rfl ⟨r', m', rfl, ⟨e1, e2, ?_⟩, bb⟩
  have hb := (h.below bb).2.2.trim
  have hm2 : m' = bl z.natAbs := by rw [e2, Int.natAbs_neg]
  rw [← hm2] at hb
  rw [Int.natAbs_neg]
  exact hb
end Go.Proofs.YtocoflojlliapaaDoor
/- The law's own 'spoil': what was answered is written over; what was there ahead of it stays. -/
set_option linter.unusedVariables false
namespace Go.Proofs.YtocoflojlliapaaDoor
open Go.RowKit
/-- a row that may be written: m numbers at g -/
def Writ (w : World) (g m : Nat) : Prop := (∀ i, i < m → ∃ x : Nat, x < 4294967296 ∧ w.cell? ⟨g, i, none⟩ = some (.int .u32 x)) ∧ ∀ i, w.frozen? ⟨g, i, none⟩ = false
theorem Writ.below {w w' : World} {g m : Nat} (h : Writ w g m) (hb : Below w.heap.size w w') (hg : g < w.heap.size) : Writ w' g m :=
  ⟨fun i hi => by obtain ⟨x, hx, hc⟩ := h.1 i hi; exact ⟨x, hx, (hb.cell hg).trans hc⟩, fun i => by
    have e := hb.block g hg
    have hf := h.2 i
    unfold World.frozen? at hf ⊢
    rw [e]
    exact hf⟩
theorem Writ.set {w : World} {g m : Nat} (h : Writ w g m) (j x : Nat) (hx : x < 4294967296) : Writ (w.setCell ⟨g, j, none⟩ (.int .u32 x)) g m := by
  refine ⟨fun i hi => ?_, fun i => ?_⟩
  · by_cases e : i = j
    · subst e
      obtain ⟨y, hy, hc⟩ := h.1 i hi
      exact ⟨x, hx, World.cell?_setCell_same _ _ _ hc⟩
    · obtain ⟨y, hy, hc⟩ := h.1 i hi
      exact ⟨y, hy, (World.cell?_setCell_other w _ _ _ (fun h0 => e (congrArg Addr.off h0).symm)).trans hc⟩
  · rw [World.frozen?_setCell]
    exact h.2 i
set_option maxHeartbeats 1600000 in
theorem spoil_row (r : Bool) (g m c : Nat) (base : Nat) (w : World) (h : Writ w g m) (hg : g < w.heap.size) (hb : base ≤ g) (hm : m ≤ 1000) :
    Calls Tryd.prog 29 #[.agg #[.bool r, .slice (some ⟨g, 0, none⟩) m c]] w fun e w' => e = .returned (.tuple #[]) ∧ Below base w w' := by
  obtain ⟨W, hW⟩ : ∃ W, W = w.alloc (.cells #[.bool r, .slice (some ⟨g, 0, none⟩) m c] 24) := ⟨_, rfl⟩
  have hbW : Below w.heap.size w W := by rw [hW]; exact below_al (Below.refl _ _) _
  have t1 : Two W w.heap.size 24 (.bool r) (.slice (some ⟨g, 0, none⟩) m c) := by rw [hW]; exact Two.made w 24 _ _
  have hr := h.below hbW hg
  go_enter Tryd.func29, Tryd.ntmps29
  go_wp2_with fail
  rw [← hW]
  have HW := Lib.hid hW
  clear hW h
  go_loopw [2] (fun iv wr => ∃ i : Nat, i ≤ m ∧ iv = .int .i64 i ∧ Two wr w.heap.size 24 (.bool r) (.slice (some ⟨g, 0, none⟩) m c) ∧ Writ wr g m ∧ Below base w wr) (fun iv _ => m - (intOf iv).toNat)
  case atStart => exact ⟨0, Nat.zero_le _, rfl, t1, hr, hbW.mono (by omega)⟩
  case round =>
    obtain ⟨i, hi, rfl, hT, hR, hB⟩ := hrel
    have k1 := hT.fst
    have k2 := hT.snd
    by_cases hlt : i < m
    · obtain ⟨x, hx, hc⟩ := hR.1 i hlt
      have hf := hR.2 i
      have hne : g ≠ w.heap.size := by omega
      go_wp2
      go_roundw
      case rel => exact ⟨i + 1, by omega, by go_num, hT.far (p := ⟨g, i, none⟩) (by simp; omega) _, by have h1 := hR.set i ((x + 1) % 4294967296) (Nat.mod_lt _ (by decide)); simpa using h1, hB.setCell (p := ⟨g, i, none⟩) hb _⟩
      case measure => simp [intOf]; omega
    · go_wp2
      exact bodyPost_end (v := .tuple #[]) (by simp [results, Tryd.results29, go_sem]) rfl ⟨rfl, hB⟩
theorem writ_of_fresh {w w1 : World} {g c N : Nat} (h : Fresh w w1 (some ⟨g, 0, none⟩) c N) : Writ w1 g (dl N) ∧ w.heap.size ≤ g := by
  refine ⟨⟨fun i hi => ?_, fun i => ?_⟩, own_ge h.1 g rfl⟩
  · have hi' : i < (digs 4294967296 N).length := hi
    have hc := h.1.cellAt i (by simpa [cl] using hi')
    refine ⟨(digs 4294967296 N)[i], Low.at (digs_low (by decide) N) hi', ?_⟩
    rw [cl_hit .u32 _ i hi'] at hc
    exact hc
  · exact h.1.frozenAt i
end Go.Proofs.YtocoflojlliapaaDoor
/- The document's 'less' of two rows of bits. -/
set_option linter.unusedVariables false
namespace Go.Proofs.YtocoflojlliapaaDoor
open Go.RowKit
set_option maxHeartbeats 1600000 in
theorem less_same (A1 A2 : Option Addr) (xs ys : List Nat) (n c1 c2 : Nat) (B : Nat) (w : World) (h1 : Lim .u8 B w A1 xs) (h2 : Lim .u8 B w A2 ys) (hx : Low 2 xs) (hy : Low 2 ys)
    (hn1 : xs.length = n) (hn2 : ys.length = n) (hl : n ≤ 1000000) (L : Bool) (hL : Hid (decide (val 2 xs < val 2 ys) = L)) :
    Calls Tryd.prog 55 #[.slice A1 n c1, .slice A2 n c2] w fun e w' => e = .returned (.bool L) ∧ Below w.heap.size w w' := by
  have N1 := Lib.hid hn1
  have N2 := Lib.hid hn2
  clear hn1 hn2
  have HX := Lib.hid hx
  have HY := Lib.hid hy
  clear hx hy
  go_enter Tryd.func55, Tryd.ntmps55
  go_wp2
  go_loopw [5] (fun i wr => ∃ (j : Int) (m : Nat), -1 ≤ j ∧ j < n ∧ i = .int .i64 j ∧ Hid (xs.drop (j + 1).toNat = ys.drop (j + 1).toNat) ∧ wr = w.drewN m) (fun i _ => (intOf i + 1).toNat)
  case atStart => exact ⟨n - 1, 0, by omega, by omega, rfl, Lib.hid (by rw [show ((n : Int) - 1 + 1).toNat = n by omega, List.drop_of_length_le (by rw [N1.out]; exact Nat.le_refl _), List.drop_of_length_le (by rw [N2.out]; exact Nat.le_refl _)]), rfl⟩
  case round =>
    obtain ⟨j, m, hj0, hj1, rfl, hd, rfl⟩ := hrel
    by_cases hlt : 0 ≤ j
    · obtain ⟨p, rfl⟩ := Int.eq_ofNat_of_zero_le hlt
      have hpn : p < n := by omega
      have p1 : p < xs.length := by have := N1.out; omega
      have p2 : p < ys.length := by have := N2.out; omega
      obtain ⟨a1, rfl, _, cell1⟩ := h1.at p1
      obtain ⟨a2, rfl, _, cell2⟩ := h2.at p2
      have HD : Hid (xs.drop (p + 1) = ys.drop (p + 1)) := Lib.hid hd.out
      clear hd
      obtain ⟨X, hX⟩ : ∃ X, X = xs[p] := ⟨_, rfl⟩
      obtain ⟨Y, hY⟩ : ∃ Y, Y = ys[p] := ⟨_, rfl⟩
      rw [← hX] at cell1
      rw [← hY] at cell2
      have KX := Lib.hid hX
      have KY := Lib.hid hY
      clear hX hY
      by_cases hxy : X = Y
      · have HE : Hid (xs.drop p = ys.drop p) := Lib.hid (drop_more p1 p2 HD.out (by rw [← KX.out, ← KY.out]; exact hxy))
        subst hxy
        go_wp2
        go_quiet (fail)
        go_wp2
        go_roundw
        case rel => exact ⟨(p : Int) - 1, _, by omega, by omega, by go_num, Lib.hid (by rw [show ((p : Int) - 1 + 1).toNat = p by omega]; exact HE.out), rfl⟩
        case measure => simp [intOf]
      · have F : Hid (decide (X < Y) = L) := Lib.hid (by
          rw [← hL.out]
          rcases Nat.lt_or_ge X Y with h | h
          · rw [decide_eq_true h, decide_eq_true (val_cmp (by decide) HX.out HY.out (by rw [N1.out, N2.out]) p1 HD.out (by rw [← KX.out, ← KY.out]; exact h))]
          · have h3 := val_cmp (b := 2) (by decide) HY.out HX.out (by rw [N1.out, N2.out]) p2 HD.out.symm (by rw [← KX.out, ← KY.out]; omega)
            rw [decide_eq_false (by omega), decide_eq_false (by omega)])
        have ex : ((X : Int) == (Y : Int)) = false := by simp; omega
        go_wp2
        go_quiet (fail)
        go_wp2
        go_quiet (fail)
        go_wp2
        go_ret
        exact ⟨by simp; exact F.out, below_drewN (below_drewN (below_drewN (Below.refl _ _) _) _) _⟩
    · have hj : j = -1 := by omega
      subst hj
      have F : Hid (L = false) := Lib.hid (by
        rw [← hL.out]
        have := hd.out
        simp at this
        rw [this]
        simp)
      go_wp2
      go_ret
      exact ⟨by rw [F.out]; rfl, below_drewN (Below.refl _ _) _⟩
set_option maxHeartbeats 800000 in
theorem less_len (A1 A2 : Option Addr) (n m c1 c2 : Nat) (w : World) (h : n ≠ m) (l1 : n ≤ 1000000) (l2 : m ≤ 1000000) (L : Bool) (hL : Hid (decide (n < m) = L)) :
    Calls Tryd.prog 55 #[.slice A1 n c1, .slice A2 m c2] w fun e w' => e = .returned (.bool L) ∧ Below w.heap.size w w' := by
  rcases Nat.lt_or_ge n m with hlt | hlt
  · have F : Hid (L = true) := Lib.hid (by rw [← hL.out]; exact decide_eq_true hlt)
    go_enter Tryd.func55, Tryd.ntmps55
    go_wp2
    go_ret
    exact ⟨by rw [F.out]; simp, Below.refl _ _⟩
  · have F : Hid (L = false) := Lib.hid (by rw [← hL.out]; exact decide_eq_false (by omega))
    go_enter Tryd.func55, Tryd.ntmps55
    go_wp2
    go_ret
    exact ⟨by rw [F.out]; simp; omega, Below.refl _ _⟩
theorem less_bit {A1 A2 : Option Addr} {c1 c2 a b : Nat} (w : World) (h1 : Bit w A1 (bl a) c1 a) (h2 : Bit w A2 (bl b) c2 b) (l1 : bl a ≤ 1000000) (l2 : bl b ≤ 1000000) :
    Calls Tryd.prog 55 #[.slice A1 (bl a) c1, .slice A2 (bl b) c2] w fun e w' => e = .returned (.bool (decide (a < b))) ∧ Below w.heap.size w w' := by
  by_cases h : bl a = bl b
  · refine less_same A1 A2 (digs 2 a) (digs 2 b) (bl a) c1 c2 w.heap.size w h1.list h2.list (digs_low (by decide) a) (digs_low (by decide) b) rfl h.symm l1 _ (Lib.hid (by rw [digs_val (by decide) a, digs_val (by decide) b])) |> fun hc => ?_
    rw [← h]
    exact hc
  · refine less_len A1 A2 (bl a) (bl b) c1 c2 w h l1 l2 _ (Lib.hid ?_)
    rcases Nat.lt_or_ge a b with hab | hab
    · have := bl_mono (Nat.le_of_lt hab)
      rw [decide_eq_true hab, decide_eq_true (by omega)]
    · have := bl_mono hab
      rw [decide_eq_false (by omega), decide_eq_false (by omega)]
end Go.Proofs.YtocoflojlliapaaDoor
/- The document's Cmp of two values. -/
set_option linter.unusedVariables false
namespace Go.Proofs.YtocoflojlliapaaDoor
open Go.RowKit
theorem boxesV (w : World) (a b a' b' : Value) : ∀ W, W = (w.alloc (.cells #[a, b] 30)).alloc (.cells #[a', b'] 30) →
    Two W w.heap.size 30 a b ∧ Two W (w.heap.size + 1) 30 a' b' ∧ Below w.heap.size w W := by
  rintro W rfl
  refine ⟨(Two.made w 30 a b).alloc _, ?_, below_al (below_al (Below.refl _ _) _) _⟩
  have h := Two.made (w.alloc (.cells #[a, b] 30)) 30 a' b'
  simpa using h
set_option maxHeartbeats 1600000 in
theorem refcmp_like_f (A1 A2 : Option Addr) (c1 c2 a b : Nat) (res : Int) (sm gr : Bool) (w : World) (h1 : Bit w A1 (bl a) c1 a) (h2 : Bit w A2 (bl b) c2 b) (l1 : bl a ≤ 1000000) (l2 : bl b ≤ 1000000)
    (hs : Hid (decide (a < b) = sm)) (hg : Hid (decide (b < a) = gr)) (hcase : Hid (sm = true ∧ gr = false ∧ res = -1 ∨ sm = false ∧ gr = true ∧ res = 1 ∨ sm = false ∧ gr = false ∧ res = 0)) :
    Calls Tryd.prog 28 #[.agg #[.bool false, .slice A1 (bl a) c1], .agg #[.bool false, .slice A2 (bl b) c2]] w fun e w' => e = .returned (.int .i64 res) ∧ Below w.heap.size w w' := by
  obtain ⟨W, hW⟩ : ∃ W, W = (w.alloc (.cells #[.bool false, .slice A1 (bl a) c1] 30)).alloc (.cells #[.bool false, .slice A2 (bl b) c2] 30) := ⟨_, rfl⟩
  obtain ⟨t1, t2, hbW⟩ := boxesV w _ _ _ _ W hW
  have m1 := h1.below hbW
  have m2 := h2.below hbW
  have L1 : ∀ V, Below W.heap.size W V → Hid (Calls Tryd.prog 55 #[.slice A1 (bl a) c1, .slice A2 (bl b) c2] V fun e w' => e = .returned (.bool sm) ∧ Below W.heap.size W w') := fun V hb => Lib.hid ((less_bit V (m1.below hb) (m2.below hb) l1 l2).mono fun e w' ⟨he, hw⟩ => ⟨by rw [he, hs.out], below_then hb hw⟩)
  have L2 : ∀ V, Below W.heap.size W V → Hid (Calls Tryd.prog 55 #[.slice A2 (bl b) c2, .slice A1 (bl a) c1] V fun e w' => e = .returned (.bool gr) ∧ Below W.heap.size W w') := fun V hb => Lib.hid ((less_bit V (m2.below hb) (m1.below hb) l2 l1).mono fun e w' ⟨he, hw⟩ => ⟨by rw [he, hg.out], below_then hb hw⟩)
  have KS : ∀ V, Below W.heap.size W V → (Below W.heap.size W V ∧ V.cell? ⟨w.heap.size, 0, none⟩ = some (.bool false) ∧ V.cell? ⟨w.heap.size, 1, none⟩ = some (.slice A1 (bl a) c1) ∧ V.cell? ⟨w.heap.size + 1, 0, none⟩ = some (.bool false) ∧ V.cell? ⟨w.heap.size + 1, 1, none⟩ = some (.slice A2 (bl b) c2)) :=
    fun V hb => ⟨hb, (t1.below' hb).fst, (t1.below' hb).snd, (t2.below' hb).fst, (t2.below' hb).snd⟩
  have KH := fun V hb => Lib.hid (KS V hb)
  have k1 := t1.fst
  have k2 := t1.snd
  have k3 := t2.fst
  have k4 := t2.snd
  go_enter Tryd.func28, Tryd.ntmps28
  go_wp2_with fail
  rw [← hW]
  have HW := Lib.hid hW
  have B0 : Below W.heap.size W W := Below.refl _ _
  have B0' : Below W.heap.size W W.drew := B0.drew
  clear hW
  go_wp2_with fail
  go_region_held3 (fun V => Below W.heap.size W V ∧ V.cell? ⟨w.heap.size, 0, none⟩ = some (.bool false) ∧ V.cell? ⟨w.heap.size, 1, none⟩ = some (.slice A1 (bl a) c1) ∧ V.cell? ⟨w.heap.size + 1, 0, none⟩ = some (.bool false) ∧ V.cell? ⟨w.heap.size + 1, 1, none⟩ = some (.slice A2 (bl b) c2)) (exact KS _ (by first | assumption | exact Below.drew (by assumption)))
    (first | (go_at_call 55; (first
      | ((with_reducible refine ((L1 _ (by assumption)).out).mono ?_); rintro e y1 ⟨rfl, bb1⟩)
      | ((with_reducible refine ((L2 _ (by assumption)).out).mono ?_); rintro e y2 ⟨rfl, bb2⟩))))
  clear k1 k2 k3 k4 KS L1 L2
  obtain ⟨_, k1, k2, k3, k4⟩ := (KH _ bb2).out
  have BB := Lib.hid bb2
  clear bb1 bb2 KH
  have HC := hcase.out
  clear hcase
  rcases HC with ⟨rfl, rfl, rfl⟩ | ⟨rfl, rfl, rfl⟩ | ⟨rfl, rfl, rfl⟩
  all_goals
    go_wp2
    go_ret
    exact ⟨rfl, below_then hbW BB.out⟩
set_option maxHeartbeats 1600000 in
theorem refcmp_like_t (A1 A2 : Option Addr) (c1 c2 a b : Nat) (res : Int) (sm gr : Bool) (w : World) (h1 : Bit w A1 (bl a) c1 a) (h2 : Bit w A2 (bl b) c2 b) (l1 : bl a ≤ 1000000) (l2 : bl b ≤ 1000000)
    (hs : Hid (decide (a < b) = sm)) (hg : Hid (decide (b < a) = gr)) (hcase : Hid (sm = true ∧ gr = false ∧ res = 1 ∨ sm = false ∧ gr = true ∧ res = -1 ∨ sm = false ∧ gr = false ∧ res = 0)) :
    Calls Tryd.prog 28 #[.agg #[.bool true, .slice A1 (bl a) c1], .agg #[.bool true, .slice A2 (bl b) c2]] w fun e w' => e = .returned (.int .i64 res) ∧ Below w.heap.size w w' := by
  obtain ⟨W, hW⟩ : ∃ W, W = (w.alloc (.cells #[.bool true, .slice A1 (bl a) c1] 30)).alloc (.cells #[.bool true, .slice A2 (bl b) c2] 30) := ⟨_, rfl⟩
  obtain ⟨t1, t2, hbW⟩ := boxesV w _ _ _ _ W hW
  have m1 := h1.below hbW
  have m2 := h2.below hbW
  have L1 : ∀ V, Below W.heap.size W V → Hid (Calls Tryd.prog 55 #[.slice A1 (bl a) c1, .slice A2 (bl b) c2] V fun e w' => e = .returned (.bool sm) ∧ Below W.heap.size W w') := fun V hb => Lib.hid ((less_bit V (m1.below hb) (m2.below hb) l1 l2).mono fun e w' ⟨he, hw⟩ => ⟨by rw [he, hs.out], below_then hb hw⟩)
  have L2 : ∀ V, Below W.heap.size W V → Hid (Calls Tryd.prog 55 #[.slice A2 (bl b) c2, .slice A1 (bl a) c1] V fun e w' => e = .returned (.bool gr) ∧ Below W.heap.size W w') := fun V hb => Lib.hid ((less_bit V (m2.below hb) (m1.below hb) l2 l1).mono fun e w' ⟨he, hw⟩ => ⟨by rw [he, hg.out], below_then hb hw⟩)
  have KS : ∀ V, Below W.heap.size W V → (Below W.heap.size W V ∧ V.cell? ⟨w.heap.size, 0, none⟩ = some (.bool true) ∧ V.cell? ⟨w.heap.size, 1, none⟩ = some (.slice A1 (bl a) c1) ∧ V.cell? ⟨w.heap.size + 1, 0, none⟩ = some (.bool true) ∧ V.cell? ⟨w.heap.size + 1, 1, none⟩ = some (.slice A2 (bl b) c2)) :=
    fun V hb => ⟨hb, (t1.below' hb).fst, (t1.below' hb).snd, (t2.below' hb).fst, (t2.below' hb).snd⟩
  have KH := fun V hb => Lib.hid (KS V hb)
  have k1 := t1.fst
  have k2 := t1.snd
  have k3 := t2.fst
  have k4 := t2.snd
  go_enter Tryd.func28, Tryd.ntmps28
  go_wp2_with fail
  rw [← hW]
  have HW := Lib.hid hW
  have B0 : Below W.heap.size W W := Below.refl _ _
  have B0' : Below W.heap.size W W.drew := B0.drew
  clear hW
  go_wp2_with fail
  go_region_held3 (fun V => Below W.heap.size W V ∧ V.cell? ⟨w.heap.size, 0, none⟩ = some (.bool true) ∧ V.cell? ⟨w.heap.size, 1, none⟩ = some (.slice A1 (bl a) c1) ∧ V.cell? ⟨w.heap.size + 1, 0, none⟩ = some (.bool true) ∧ V.cell? ⟨w.heap.size + 1, 1, none⟩ = some (.slice A2 (bl b) c2)) (exact KS _ (by first | assumption | exact Below.drew (by assumption)))
    (first | (go_at_call 55; (first
      | ((with_reducible refine ((L1 _ (by assumption)).out).mono ?_); rintro e y1 ⟨rfl, bb1⟩)
      | ((with_reducible refine ((L2 _ (by assumption)).out).mono ?_); rintro e y2 ⟨rfl, bb2⟩))))
  clear k1 k2 k3 k4 KS L1 L2
  obtain ⟨_, k1, k2, k3, k4⟩ := (KH _ bb2).out
  have BB := Lib.hid bb2
  clear bb1 bb2 KH
  have HC := hcase.out
  clear hcase
  rcases HC with ⟨rfl, rfl, rfl⟩ | ⟨rfl, rfl, rfl⟩ | ⟨rfl, rfl, rfl⟩
  all_goals
    go_wp2
    go_ret
    exact ⟨rfl, below_then hbW BB.out⟩
set_option maxHeartbeats 1600000 in
theorem refcmp_un_t (A1 A2 : Option Addr) (n1 c1 n2 c2 : Nat) (w : World) :
    Calls Tryd.prog 28 #[.agg #[.bool true, .slice A1 n1 c1], .agg #[.bool false, .slice A2 n2 c2]] w fun e w' => e = .returned (.int .i64 (-1)) ∧ Below w.heap.size w w' := by
  obtain ⟨W, hW⟩ : ∃ W, W = (w.alloc (.cells #[.bool true, .slice A1 n1 c1] 30)).alloc (.cells #[.bool false, .slice A2 n2 c2] 30) := ⟨_, rfl⟩
  obtain ⟨t1, t2, hbW⟩ := boxesV w _ _ _ _ W hW
  have k1 := t1.fst
  have k3 := t2.fst
  go_enter Tryd.func28, Tryd.ntmps28
  go_wp2_with fail
  rw [← hW]
  have HW := Lib.hid hW
  clear hW
  go_wp2
  go_ret
  exact ⟨rfl, hbW⟩
set_option maxHeartbeats 1600000 in
theorem refcmp_un_f (A1 A2 : Option Addr) (n1 c1 n2 c2 : Nat) (w : World) :
    Calls Tryd.prog 28 #[.agg #[.bool false, .slice A1 n1 c1], .agg #[.bool true, .slice A2 n2 c2]] w fun e w' => e = .returned (.int .i64 (1)) ∧ Below w.heap.size w w' := by
  obtain ⟨W, hW⟩ : ∃ W, W = (w.alloc (.cells #[.bool false, .slice A1 n1 c1] 30)).alloc (.cells #[.bool true, .slice A2 n2 c2] 30) := ⟨_, rfl⟩
  obtain ⟨t1, t2, hbW⟩ := boxesV w _ _ _ _ W hW
  have k1 := t1.fst
  have k3 := t2.fst
  go_enter Tryd.func28, Tryd.ntmps28
  go_wp2_with fail
  rw [← hW]
  have HW := Lib.hid hW
  clear hW
  go_wp2
  go_ret
  exact ⟨rfl, hbW⟩
theorem refcmp_at {r1 r2 : Bool} {A1 A2 : Option Addr} {m1 c1 m2 c2 : Nat} {x y : Int} (w : World) (h1 : BVal w r1 A1 m1 c1 x) (h2 : BVal w r2 A2 m2 c2 y) (l1 : m1 ≤ 1000000) (l2 : m2 ≤ 1000000) :
    Calls Tryd.prog 28 #[.agg #[.bool r1, .slice A1 m1 c1], .agg #[.bool r2, .slice A2 m2 c2]] w fun e w' => e = .returned (.int .i64 (cmpI x y)) ∧ Below w.heap.size w w' := by
  obtain ⟨rfl, rfl, b1⟩ := h1
  obtain ⟨rfl, rfl, b2⟩ := h2
  by_cases hx : x < 0 <;> by_cases hy : y < 0
  · rw [decide_eq_true hx, decide_eq_true hy]
    refine refcmp_like_t A1 A2 c1 c2 _ _ _ _ _ w b1 b2 l1 l2 (Lib.hid rfl) (Lib.hid rfl) (Lib.hid ?_)
    rcases Int.lt_trichotomy x y with h | h | h
    · right; left; exact ⟨decide_eq_false (by omega), decide_eq_true (by omega), cmpI_lt h⟩
    · right; right; exact ⟨decide_eq_false (by omega), decide_eq_false (by omega), cmpI_eq h⟩
    · left; exact ⟨decide_eq_true (by omega), decide_eq_false (by omega), cmpI_gt h⟩
  · rw [decide_eq_true hx, decide_eq_false hy, cmpI_lt (show x < y by omega)]
    exact refcmp_un_t A1 A2 _ c1 _ c2 w
  · rw [decide_eq_false hx, decide_eq_true hy, cmpI_gt (show y < x by omega)]
    exact refcmp_un_f A1 A2 _ c1 _ c2 w
  · rw [decide_eq_false hx, decide_eq_false hy]
    refine refcmp_like_f A1 A2 c1 c2 _ _ _ _ _ w b1 b2 l1 l2 (Lib.hid rfl) (Lib.hid rfl) (Lib.hid ?_)
    rcases Int.lt_trichotomy x y with h | h | h
    · left; exact ⟨decide_eq_true (by omega), decide_eq_false (by omega), cmpI_lt h⟩
    · right; right; exact ⟨decide_eq_false (by omega), decide_eq_false (by omega), cmpI_eq h⟩
    · right; left; exact ⟨decide_eq_false (by omega), decide_eq_true (by omega), cmpI_gt h⟩
end Go.Proofs.YtocoflojlliapaaDoor
/- The document's Same, where it says no. -/
set_option linter.unusedVariables false
namespace Go.Proofs.YtocoflojlliapaaDoor
open Go.RowKit
set_option maxHeartbeats 1600000 in
theorem same_diff (neg : Bool) (A1 A2 : Option Addr) (xs ys : List Nat) (n c1 c2 : Nat) (w : World) (h1 : Lim .u32 w.heap.size w A1 xs) (h2 : Lim .u32 w.heap.size w A2 ys) (hn : Hid (xs.length = n)) (hm : Hid (ys.length = n)) (hl : n ≤ 1000000) (hne : Hid (xs ≠ ys)) :
    Calls Tryd.prog 33 #[.agg #[.bool neg, .slice A1 n c1], .agg #[.bool neg, .slice A2 n c2]] w fun e w' => e = .returned (.bool false) ∧ Below w.heap.size w w' := by
  obtain ⟨W, hW⟩ : ∃ W, W = (w.alloc (.cells #[.bool neg, .slice A1 n c1] 24)).alloc (.cells #[.bool neg, .slice A2 n c2] 24) := ⟨_, rfl⟩
  obtain ⟨t1, t2, hbW, _⟩ := boxes24 w _ _ _ _ W hW
  have g1 := h1.below' hbW
  have g2 := h2.below' hbW
  have k1 := t1.fst
  have k2 := t1.snd
  have k3 := t2.fst
  have k4 := t2.snd
  go_enter Tryd.func33, Tryd.ntmps33
  go_wp2_with fail
  rw [← hW]
  have HW := Lib.hid hW
  clear hW h1 h2
  go_loopw [5] (fun i wr => ∃ k m : Nat, k ≤ n ∧ i = .int .i64 k ∧ Hid (xs.take k = ys.take k) ∧ wr = W.drewN m) (fun i _ => n - (intOf i).toNat)
  case atStart => exact ⟨0, 0, Nat.zero_le _, rfl, Lib.hid (by simp), rfl⟩
  case round =>
    obtain ⟨k, m, hk, rfl, hd, rfl⟩ := hrel
    by_cases hlt : k < n
    · have hxl : k < xs.length := by rw [hn.out]; exact hlt
      have hyl : k < ys.length := by rw [hm.out]; exact hlt
      obtain ⟨a1, rfl, _, q1⟩ := g1.at hxl
      obtain ⟨a2, rfl, _, q2⟩ := g2.at hyl
      have HS : Hid (xs[k] = ys[k] → xs.take (k + 1) = ys.take (k + 1)) := Lib.hid (fun he => by rw [take_snoc xs k hxl, take_snoc ys k hyl, hd.out, he])
      generalize xs[k] = X at q1 HS
      generalize ys[k] = Y at q2 HS
      by_cases hxy : X = Y
      · have HE := Lib.hid (HS.out hxy)
        clear HS
        subst hxy
        go_wp2
        go_quiet (fail)
        go_wp2
        go_roundw
        case rel => exact ⟨k + 1, _, by omega, by go_num, HE, rfl⟩
        case measure => simp [intOf]; omega
      · have ex : ((X : Int) != (Y : Int)) = true := by simp; omega
        clear HS
        go_wp2
        go_quiet (fail)
        go_wp2
        go_ret
        exact ⟨rfl, below_drewN (below_drewN hbW _) _⟩
    · exact absurd (by
        have h := hd.out
        have e : k = n := by omega
        rw [List.take_of_length_le (by rw [hn.out]; omega), List.take_of_length_le (by rw [hm.out]; omega)] at h
        exact h) hne.out
set_option maxHeartbeats 800000 in
theorem same_len (r1 r2 : Bool) (A1 A2 : Option Addr) (n m c1 c2 : Nat) (w : World) (hne : n ≠ m) :
    Calls Tryd.prog 33 #[.agg #[.bool r1, .slice A1 n c1], .agg #[.bool r2, .slice A2 m c2]] w fun e w' => e = .returned (.bool false) ∧ Below w.heap.size w w' := by
  obtain ⟨W, hW⟩ : ∃ W, W = (w.alloc (.cells #[.bool r1, .slice A1 n c1] 24)).alloc (.cells #[.bool r2, .slice A2 m c2] 24) := ⟨_, rfl⟩
  obtain ⟨t1, t2, hbW, _⟩ := boxes24 w _ _ _ _ W hW
  have k1 := t1.fst
  have k2 := t1.snd
  have k3 := t2.fst
  have k4 := t2.snd
  have ex : ((n : Int) != (m : Int)) = true := by simp; omega
  cases r1 <;> cases r2
  all_goals
    go_enter Tryd.func33, Tryd.ntmps33
    go_wp2_with fail
    rw [← hW]
    have HW := Lib.hid hW
    clear hW
    go_wp2
    go_ret
    exact ⟨rfl, hbW⟩
theorem same_sign (r : Bool) (A1 A2 : Option Addr) (n m c1 c2 : Nat) (w : World) :
    Calls Tryd.prog 33 #[.agg #[.bool r, .slice A1 n c1], .agg #[.bool (!r), .slice A2 m c2]] w fun e w' => e = .returned (.bool false) ∧ Below w.heap.size w w' := by
  cases r
  all_goals
    go_enter Tryd.func33, Tryd.ntmps33
    go_wp2
    go_ret
    exact ⟨rfl, below_al (below_al (Below.refl _ _) _) _⟩
end Go.Proofs.YtocoflojlliapaaDoor
/- What is answered lies in memory of its own, and may be written over. -/
set_option linter.unusedVariables false
namespace Go.Proofs.YtocoflojlliapaaDoor
open Go.RowKit
/-- what a call answers, in memory of its own, in one word -/
def TellsF (w w' : World) (e : Ending) (z : Int) : Prop := ∃ r A m c, e = .returned (.tuple #[.agg #[.bool r, .slice A m c], .int .i64 (resV z)]) ∧ r = decide (resZ z < 0) ∧ m = dl (resZ z).natAbs ∧ m ≤ 48 ∧ Fresh w w' A c (resZ z).natAbs
theorem Gives.tellsF {w w' : World} {e : Ending} {z : Int} (h : Gives w w' e z) : TellsF w w' e z := by
  obtain ⟨R, N, hs, hz⟩ := h
  have hN := sg_abs hz
  by_cases hf : dl z.natAbs ≤ 48
  · obtain ⟨A, c, rfl, hfr⟩ := hs.yes (hN ▸ hf)
    refine ⟨_, A, _, c, by rw [resV_yes hf], ?_, ?_, ?_, ?_⟩
    · rw [resZ_yes hf]; exact signB_sg hz
    · rw [resZ_yes hf, hN]
    · rw [hN]; exact hf
    · rw [resZ_yes hf]; exact hN ▸ hfr
  · obtain ⟨rfl, hb⟩ := hs.no (by rw [hN]; omega)
    refine ⟨false, none, 0, 0, by rw [resV_no hf], ?_, ?_, by omega, ?_⟩
    · rw [resZ_no hf]; rfl
    · rw [resZ_no hf]; rfl
    · rw [resZ_no hf]; exact fresh_nil hb
/-- all blocks but those from lo on, below hi, are as they were -/
structure Save (lo hi : Nat) (w w' : World) : Prop where
  os : w'.os = w.os
  tape : w'.tape = w.tape
  output : w'.output = w.output
  size : w.heap.size ≤ w'.heap.size
  block : ∀ k, k < w.heap.size → (k < lo ∨ hi ≤ k) → w'.heap[k]? = w.heap[k]?
/-- a row of m limbs that may be written, in a block from lo on, below hi -/
def Room (w : World) (lo hi : Nat) (A : Option Addr) (m : Nat) : Prop := hi ≤ w.heap.size ∧ (m = 0 ∨ ∃ g, A = some ⟨g, 0, none⟩ ∧ lo ≤ g ∧ g < hi ∧ Writ w g m)
section
variable {w w' V V' : World} {lo hi m g : Nat} {A : Option Addr}
theorem Room.below (h : Room w lo hi A m) (hb : Below w.heap.size w w') : Room w' lo hi A m := by
  obtain ⟨h0, h1⟩ := h
  refine ⟨Nat.le_trans h0 hb.size, ?_⟩
  rcases h1 with h1 | ⟨g, h1, h2, h3, h4⟩
  · exact .inl h1
  · exact .inr ⟨g, h1, h2, h3, h4.below hb (by omega)⟩
theorem Save.room {lo' hi' : Nat} (hs : Save lo' hi' w w') (h : Room w lo hi A m) (ho : hi ≤ lo' ∨ hi' ≤ lo) : Room w' lo hi A m := by
  obtain ⟨h0, h1⟩ := h
  refine ⟨Nat.le_trans h0 hs.size, ?_⟩
  rcases h1 with h1 | ⟨g, h1, h2, h3, h4⟩
  · exact .inl h1
  · refine .inr ⟨g, h1, h2, h3, ?_, ?_⟩
    · intro i hi
      obtain ⟨x, hx, hc⟩ := h4.1 i hi
      exact ⟨x, hx, (World.cell?_of_block (a := ⟨g, i, none⟩) (hs.block g (by omega) (by omega))).trans hc⟩
    · intro i
      exact (World.frozen?_of_block (a := ⟨g, i, none⟩) (hs.block g (by omega) (by omega))).trans (h4.2 i)
theorem Room.of_fresh {w1 : World} {c N : Nat} (h : Fresh w w1 A c N) : Room w1 w.heap.size w1.heap.size A (dl N) := by
  refine ⟨Nat.le_refl _, ?_⟩
  rcases Nat.eq_zero_or_pos (dl N) with h0 | h0
  · exact .inl h0
  · obtain ⟨g, cap, hv, hb, hlt⟩ := h.1.form h0
    injection hv with hA _ _
    subst hA
    exact .inr ⟨g, rfl, hb, hlt, (writ_of_fresh h).1⟩
theorem Save.below (h : Save lo hi w w') : Below (min lo w.heap.size) w w' := ⟨h.os, h.tape, h.output, h.size, fun k hk => h.block k (by omega) (by omega)⟩
theorem Save.after {w0 : World} (h : Save lo hi w w') (hb : Below w0.heap.size w0 w) (hl : w0.heap.size ≤ lo) : Below w0.heap.size w0 w' := hb.trans (h.below.mono (by have := hb.size; omega))
theorem Save.two {t : TypeId} {a b : Value} (h : Save lo hi w w') (k : Two w g t a b) (hg : g < lo ∨ hi ≤ g) : Two w' g t a b := (h.block g k.lt hg).trans k
end
/-- 'spoil': the row is written over, and nothing else -/
theorem spoil_nil (r : Bool) (A : Option Addr) (c : Nat) (w : World) (lo hi : Nat) :
    Calls Tryd.prog 29 #[.agg #[.bool r, .slice A 0 c]] w fun e w' => e = .returned (.tuple #[]) ∧ Save lo hi w w' := by
  have hT := Two.made w 24 (.bool r) (.slice A 0 c)
  have k1 := hT.snd
  have k0 := hT.fst
  have hb : Below w.heap.size w (w.alloc (.cells #[.bool r, .slice A 0 c] 24)) := below_al (Below.refl _ _) _
  have hs : Save lo hi w (w.alloc (.cells #[.bool r, .slice A 0 c] 24)) := ⟨hb.os, hb.tape, hb.output, hb.size, fun k hk _ => hb.block k hk⟩
  clear hb hT
  go_enter Tryd.func29, Tryd.ntmps29
  go_wp2
  go_rounds 1
  go_wp2
  exact bodyPost_end (v := .tuple #[]) (by simp [results, Tryd.results29, go_sem]) rfl ⟨rfl, hs⟩
set_option maxHeartbeats 1600000 in
theorem spoil_save (r : Bool) (g m c : Nat) (lo hi : Nat) (w : World) (h : Writ w g m) (hg : g < w.heap.size) (hlo : lo ≤ g) (hhi : g < hi) (hm : m ≤ 1000) :
    Calls Tryd.prog 29 #[.agg #[.bool r, .slice (some ⟨g, 0, none⟩) m c]] w fun e w' => e = .returned (.tuple #[]) ∧ Save lo hi w w' := by
  obtain ⟨W, hW⟩ : ∃ W, W = w.alloc (.cells #[.bool r, .slice (some ⟨g, 0, none⟩) m c] 24) := ⟨_, rfl⟩
  have hbW : Below w.heap.size w W := by rw [hW]; exact below_al (Below.refl _ _) _
  have t1 : Two W w.heap.size 24 (.bool r) (.slice (some ⟨g, 0, none⟩) m c) := by rw [hW]; exact Two.made w 24 _ _
  have hr := h.below hbW hg
  have hs : Save lo hi w W := ⟨hbW.os, hbW.tape, hbW.output, hbW.size, fun k hk _ => hbW.block k hk⟩
  have ST : ∀ V (i : Nat) (u : Value), Save lo hi w V → Save lo hi w (V.setCell ⟨g, i, none⟩ u) := fun V i u hv =>
    ⟨hv.os, hv.tape, hv.output, by simpa using hv.size, fun k hk hko => (Below.heap_setCell V ⟨g, i, none⟩ u k (by simp; omega)).trans (hv.block k hk hko)⟩
  go_enter Tryd.func29, Tryd.ntmps29
  go_wp2_with fail
  rw [← hW]
  have HW := Lib.hid hW
  clear hW h hbW
  go_loopw [2] (fun iv wr => ∃ i : Nat, i ≤ m ∧ iv = .int .i64 i ∧ Two wr w.heap.size 24 (.bool r) (.slice (some ⟨g, 0, none⟩) m c) ∧ Writ wr g m ∧ Save lo hi w wr) (fun iv _ => m - (intOf iv).toNat)
  case atStart => exact ⟨0, Nat.zero_le _, rfl, t1, hr, hs⟩
  case round =>
    obtain ⟨i, hi, rfl, hT, hR, hB⟩ := hrel
    have k1 := hT.fst
    have k2 := hT.snd
    by_cases hlt : i < m
    · obtain ⟨x, hx, hc⟩ := hR.1 i hlt
      have hf := hR.2 i
      have hne : g ≠ w.heap.size := by omega
      have HB := Lib.hid hB
      clear hB
      go_wp2
      go_roundw
      case rel => exact ⟨i + 1, by omega, by go_num, hT.far (p := ⟨g, i, none⟩) (by simp; omega) _, by have h1 := hR.set i ((x + 1) % 4294967296) (Nat.mod_lt _ (by decide)); simpa using h1, ST _ i _ HB.out⟩
      case measure => simp [intOf]; omega
    · go_wp2
      exact bodyPost_end (v := .tuple #[]) (by simp [results, Tryd.results29, go_sem]) rfl ⟨rfl, hB⟩
theorem spoil_room (r : Bool) (A : Option Addr) (m c : Nat) (lo hi : Nat) (w : World) (h : Room w lo hi A m) (hm : m ≤ 1000) :
    Calls Tryd.prog 29 #[.agg #[.bool r, .slice A m c]] w fun e w' => e = .returned (.tuple #[]) ∧ Save lo hi w w' := by
  obtain ⟨h0, h1⟩ := h
  rcases h1 with rfl | ⟨g, rfl, h2, h3, h4⟩
  · exact spoil_nil r A c w lo hi
  · exact spoil_save r g m c lo hi w h4 (by omega) h2 h3 hm
/-! ### a number's limbs themselves -/
def Limbs (w : World) (A : Option Addr) (n c : Nat) (xs : List Nat) : Prop := Lim .u32 w.heap.size w A xs ∧ Low 4294967296 xs ∧ xs.length = n ∧ n ≤ c
section
variable {w w' : World} {A : Option Addr} {n c : Nat} {xs : List Nat}
theorem Limbs.below (h : Limbs w A n c xs) (hb : Below w.heap.size w w') : Limbs w' A n c xs := ⟨h.1.below' hb, h.2⟩
theorem Limbs.mag (h : Limbs w A n c xs) : Mag w A n c (val 4294967296 xs) := ⟨xs, h.1, h.2.1, h.2.2.1, rfl, h.2.2.2⟩
theorem Limbs.at (r : Bool) (h : Limbs w A n c xs) : NumAt w r A n c (sg r (val 4294967296 xs)) := ⟨_, h.mag, rfl⟩
theorem NumAt.row {r : Bool} {z : Int} (h : NumAt w r A n c z) : ∃ xs, Limbs w A n c xs ∧ sg r (val 4294967296 xs) = z := by
  obtain ⟨M, ⟨xs, h1, h2, h3, h4, h5⟩, hs⟩ := h
  exact ⟨xs, ⟨h1, h2, h3, h5⟩, by rw [h4]; exact hs⟩
theorem same_rows {r : Bool} {A2 : Option Addr} {c2 : Nat} (h : Limbs w A n c xs) (h2 : Limbs w A2 n c2 xs) (hl : n ≤ 1000000) :
    Calls Tryd.prog 33 #[.agg #[.bool r, .slice A n c], .agg #[.bool r, .slice A2 n c2]] w fun e w' => e = .returned (.bool true) ∧ Below w.heap.size w w' :=
  same_yes r A A2 xs n c c2 w h.1 h2.1 (Lib.hid h.2.2.1) hl
end
end Go.Proofs.YtocoflojlliapaaDoor
/- The document's Copy. -/
set_option linter.unusedVariables false
namespace Go.Proofs.YtocoflojlliapaaDoor
open Go.RowKit
theorem run_app_any {k : IntKind} (t e : TypeId) (bytes : Nat) (ht : Tryd.prog.underlying t = some (.slice e)) (hinfo : (Tryd.prog.info? e).map (fun i => (i.zero, i.size, i.bytes)) = some (some (.int k 0), 1, bytes)) (hby : bytes ≤ 4)
    (w : World) (base : Nat) (v : Value) (n : Nat) (xs : List Nat) (hown : w.ownsRow base e 1 v n (cl k xs))
    (B : Nat) (A : Option Addr) (m c : Nat) (ys : List Nat) (hlim : Lim k B w A ys) (hm : Hid (ys.length = m)) (hb : n + m ≤ 17592186044416) (hbase : base ≤ w.heap.size) :
    ∃ v' w', (Builtin.append_ #[t, t] t #[v, .slice A m c]).run Tryd.prog w = .ok v' w' ∧ w'.ownsRow base e 1 v' (n + m) (cl k (xs ++ ys)) ∧ w.grownBy w' v.ownBlock := by
  by_cases hy : ys = []
  · subst hy
    have hm0 : m = 0 := by
      have := hm.out
      simpa using this.symm
    subst hm0
    exact ⟨v, w, run_append_zero t e ht hinfo base v n _ A c w hown, by simpa using hown, World.grownBy.refl w _⟩
  · obtain ⟨ad, rfl, _, _⟩ := hlim hy
    obtain ⟨i0, hi, hz0, hz1, hz2⟩ := info_parts hinfo
    obtain ⟨v', w', hr, h2, h3, _, h5⟩ := run_append_own_at (P := Tryd.prog) w base t t e i0 _ 1 bytes ht hi hz0 hz1 hz2 rfl (by decide) v n (cl k xs) hown ad m c (cl k ys) (by rw [cl_len, Nat.mul_one]; exact hm.out) hlim.cells (cl_one _ _) (by unfold maxLen; omega) (by
      have : (n + m) * bytes ≤ 17592186044416 * 4 := Nat.mul_le_mul hb hby
      omega) hbase
    exact ⟨v', w', hr, by rw [cl_append]; exact h2, h3⟩
/-- the same, at a step of a region that draws its order -/
theorem step_app_any {k : IntKind} (t e : TypeId) (bytes : Nat) (ht : Tryd.prog.underlying t = some (.slice e)) (hinfo : (Tryd.prog.info? e).map (fun i => (i.zero, i.size, i.bytes)) = some (some (.int k 0), 1, bytes)) (hby : bytes ≤ 4)
    (w : World) {ops : Array Oper} {o : Oper} {a : Act} {K : Act → World → Prop} {Q : Exit → Act → World → Prop} {E : Prop} (hgd : o.guard = none) (s x : Operand)
    (ho : o.op = .call { callee := .builtin .append, args := #[s, x], argTypes := #[t, t] }) (hty : o.type = t) (base : Nat) (v : Value) (n : Nat) (xs : List Nat) (hs : a.eval s = v) (hown : w.ownsRow base e 1 v n (cl k xs))
    (B : Nat) (A : Option Addr) (m c : Nat) (ys : List Nat) (hx : a.eval x = .slice A m c) (hlim : Lim k B w A ys) (hm : Hid (ys.length = m)) (hb : n + m ≤ 17592186044416) (hbase : base ≤ w.heap.size)
    (h : ∀ v' w', w'.ownsRow base e 1 v' (n + m) (cl k (xs ++ ys)) → w.grownBy w' v.ownBlock → K (a.put o.dst v') w') :
    if Region.wanted o (yielded ops a.tmps) = true then Oper.wp Tryd.prog o a w K Q else E := by
  have hw : Region.wanted o (yielded ops a.tmps) = true := by simp [Region.wanted, hgd]
  rw [if_pos hw]
  obtain ⟨v', w', hr, h2, h3⟩ := run_app_any (k := k) t e bytes ht hinfo hby w base v n xs hown B A m c ys hlim hm hb hbase
  unfold Oper.wp execOp
  simp only [ho, hty, resolve, invoke, builtin, Sem.run_bind, Sem.run_pure, Result.andThen_ok, List.map_toArray, List.map_cons, List.map_nil, hs, hx, hr]
  exact h v' w' h2 h3
set_option maxHeartbeats 1600000 in
theorem copy_row (r : Bool) (A : Option Addr) (n c : Nat) (xs : List Nat) (w : World) (h : Limbs w A n c xs) (hl : n ≤ 1000) :
    Calls Tryd.prog 19 #[.agg #[.bool r, .slice A n c]] w fun e w' => ∃ B d, e = .returned (.agg #[.bool r, .slice B n d]) ∧ Limbs w' B n d xs ∧ Below w.heap.size w w' := by
  obtain ⟨W, hW⟩ : ∃ W, W = (w.alloc (.cells #[.bool r, .slice A n c] 24)).alloc (.cells #[.bool false, .slice none 0 0] 24) := ⟨_, rfl⟩
  obtain ⟨t1, t2, hbW, hWs⟩ := boxes24 w _ _ _ _ W hW
  have R := h.below hbW
  have HL := Lib.hid R.2.2.1
  have HLo := Lib.hid R.2.1
  have LM := R.1
  have k1 := t1.fst
  have k2 := t1.snd
  go_enter Tryd.func19, Tryd.ntmps19
  go_wp2_with fail
  rw [← hW]
  have HW := Lib.hid hW
  have HWS := Lib.hid hWs
  clear hW hWs h R
  have BL : Below W.heap.size W (W.drew.alloc (.cells #[] 43)) := below_al (Below.refl _ _).drew _
  have BO : (W.drew.alloc (.cells #[] 43)).ownsRow W.heap.size 43 1 (.slice (some ⟨W.heap.size, 0, none⟩) 0 0) 0 (cl .u32 []) :=
    World.ownsRow_lit (base := W.heap.size) (e := 43) (size := 1) W.drew #[] 0 (Nat.le_refl _) (by unfold maxLen; omega) rfl
  have LB := LM.below BL
  have SB : W.heap.size ≤ (W.drew.alloc (.cells #[] 43)).heap.size := BL.size
  go_region_held3 (fun V => V.cell? ⟨w.heap.size, 0, none⟩ = some (.bool r) ∧ V.cell? ⟨w.heap.size, 1, none⟩ = some (.slice A n c)) (first | go_keep | exact ⟨hk0, hk1⟩)
    ((refine step_app_any (k := .u32) 22 43 4 Tryd.underlying22 u32_info (by decide) _ rfl _ _ rfl rfl W.heap.size (.slice (some ⟨W.heap.size, 0, none⟩) 0 0) 0 [] (by rfl) BO W.heap.size A n c xs (by rfl) LB HL (by omega) SB ?_; intro v1 w1 hown hgr; obtain ⟨B, d, rfl⟩ := own_slice hown; have hb1 : Below W.heap.size W w1 := BL.grown hgr SB (by simp [Value.ownBlock]); have hk0 := (t1.below' hb1).fst; have hk1 := (t1.below' hb1).snd; have hk2 := (t2.below' hb1).fst; have hk3 := (t2.below' hb1).snd; have hk4 := (t2.below' hb1).free 0; have hk5 := (t2.below' hb1).free 1))
  rw [List.nil_append] at hown
  go_wp2
  have hf := (t2.below' hb1).set2 (a' := .bool r) (b' := .slice B n d)
  have f0 := hf.fst
  have f1 := hf.snd
  have HO : Hid (w1.ownsRow W.heap.size 43 1 (.slice B n d) n (cl .u32 xs)) := Lib.hid (by simpa using hown)
  refine bodyPost_ret (v := .agg #[.bool r, .slice B n d]) (by simp [results, Tryd.results19, go_sem, f0, f1]) rfl ⟨B, d, rfl, ⟨?_, HLo.out, HL.out, own_cap HO.out⟩, below_two (g := w.heap.size + 1) (below_then hbW hb1) (by omega)⟩
  have ho := own_two (g := w.heap.size + 1) (a := .bool r) (b := .slice B n d) (own_mono HO.out (by have := HWS.out; omega))
  have := Lim.of_own (k := .u32) (xs := xs) (by rw [HL.out]; exact ho)
  exact this
end Go.Proofs.YtocoflojlliapaaDoor
/- May, and the document's May: one answer. -/
set_option linter.unusedVariables false
namespace Go.Proofs.YtocoflojlliapaaDoor
open Go.RowKit
/-- whether the number may be, as it stands -/
def mayB (r : Bool) (xs : List Nat) : Bool := if xs = [] then !r else decide (xs.getLastD 0 ≠ 0 ∧ xs.length ≤ 48)
theorem last_get {xs : List Nat} {n : Nat} (h : xs.length = n) (h0 : 0 < n) : xs[n - 1]? = some (xs.getLastD 0) := by
  subst h
  rw [List.getLastD_eq_getLast?, List.getLast?_eq_getElem?]
  have : xs.length - 1 < xs.length := by omega
  rw [List.getElem?_eq_getElem this]
  rfl
theorem may_row {r : Bool} {A : Option Addr} {n c : Nat} {xs : List Nat} (w : World) (h : Limbs w A n c xs) (hl : n ≤ 35184372088832) :
    Calls Tryd.prog 23 #[.agg #[.bool r, .slice A n c]] w fun e w' => e = .returned (.bool (mayB r xs)) ∧ Below w.heap.size w w' := by
  rcases Nat.eq_zero_or_pos n with h0 | h0
  · subst h0
    have e : xs = [] := List.length_eq_zero_iff.1 h.2.2.1
    rw [e]
    exact may_nil r A c w
  · have hx : xs ≠ [] := fun e => by have := h.2.2.1; rw [e] at this; simp at this; omega
    have hl2 := h.2.2.1
    refine may_more r A n c xs w h.1 (Lib.hid h.2.2.1) h0 hl _ _ (Lib.hid (last_get h.2.2.1 h0)) ?_
    unfold mayB
    rw [if_neg hx]
    by_cases hz : xs.getLastD 0 = 0
    · exact .inl ⟨hz, decide_eq_false (fun hh => hh.1 hz)⟩
    · by_cases h48 : n ≤ 48
      · exact .inr (.inl ⟨by omega, h48, decide_eq_true ⟨hz, by omega⟩⟩)
      · exact .inr (.inr ⟨by omega, by omega, decide_eq_false (by omega)⟩)
/-- the document's Same of the number that may be, and the one that was handed in -/
theorem same_may {r r2 : Bool} {A B : Option Addr} {m c n d : Nat} {xs : List Nat} {z : Int} (w : World) (h : Can w r A m c z) (h2 : Limbs w B n d xs) (hz : sg r2 (val 4294967296 xs) = z) (hl : n ≤ 1000) :
    Calls Tryd.prog 33 #[.agg #[.bool r, .slice A m c], .agg #[.bool r2, .slice B n d]] w fun e w' => e = .returned (.bool (mayB r2 xs)) ∧ Below w.heap.size w w' := by
  obtain ⟨rfl, rfl, h48, hm⟩ := h
  have hN := sg_abs hz
  have ht : trimL xs = digs 4294967296 z.natAbs := by rw [← hN]; exact (digs_of (by decide) h2.2.1).symm
  have hL := h2.2.2.1
  rcases List.eq_nil_or_concat xs with rfl | ⟨ys, y, rfl⟩
  · obtain rfl : n = 0 := by simpa using hL.symm
    have z0 : z = 0 := by
      have : z.natAbs = 0 := by rw [← hN]; rfl
      omega
    subst z0
    have e1 : dl (Int.natAbs 0) = 0 := rfl
    rw [e1] at hm ⊢
    cases r2
    · exact same_yes false A B [] 0 c d w (Lim.empty _) (Lim.empty _) (Lib.hid rfl) (by omega)
    · exact same_sign false A B 0 0 c d w
  · have hx : ys ++ [y] ≠ [] := by simp
    by_cases hy : y = 0
    · subst hy
      have e : mayB r2 (ys ++ [0]) = false := by unfold mayB; rw [if_neg hx]; simp
      rw [List.concat_eq_append] at *
      rw [e]
      refine same_len _ r2 A B _ n c d w ?_
      have h1 := trimL_len ys
      rw [trimL_zero] at ht
      have h2 : dl z.natAbs = (trimL ys).length := by unfold dl; rw [ht]
      simp at hL
      omega
    · rw [List.concat_eq_append] at *
      rw [trimL_last hy] at ht
      have hd : dl z.natAbs = n := by unfold dl; rw [← ht, hL]
      have e : mayB r2 (ys ++ [y]) = true := by
        unfold mayB
        rw [if_neg hx]
        simp [hy]
        simp at hL
        omega
      have hs : decide (z < 0) = r2 := by
        rw [← signB_sg hz, signB_pos]
        intro h0
        rw [hN] at h0
        rw [h0] at ht
        simp [digs_zero] at ht
      rw [e, hs]
      rw [hd] at hm ⊢
      exact same_yes r2 A B (ys ++ [y]) n c d w (by
        have := (hd ▸ hm : Mag w A (dl z.natAbs) c z.natAbs).list
        rw [← ht] at this
        exact this) h2.1 (Lib.hid hL) (by omega)
theorem tells_letters {w w' : World} {e : Ending} {z v Z : Int} (h : Tells w w' e z) (hv : resV z = v) (hZ : resZ z = Z) :
    ∃ r A m c, e = .returned (.tuple #[.agg #[.bool r, .slice A m c], .int .i64 v]) ∧ Can w' r A m c Z ∧ Below w.heap.size w w' := by
  subst hv hZ
  exact h
theorem may_big {r : Bool} {xs : List Nat} {z : Int} (hx : Low 4294967296 xs) (hz : sg r (val 4294967296 xs) = z) (h : resV z = 6) : mayB r xs = false := by
  have hN := sg_abs hz
  have hd : ¬ dl z.natAbs ≤ 48 := fun h2 => by rw [resV_yes h2] at h; omega
  have ht : (trimL xs).length = dl z.natAbs := by rw [← hN]; unfold dl; rw [digs_of (by decide) hx]
  have hl := trimL_len xs
  unfold mayB
  by_cases h0 : xs = []
  · subst h0
    simp [trimL] at ht
    omega
  · rw [if_neg h0]
    exact decide_eq_false (by omega)
theorem refval_row {r : Bool} {A : Option Addr} {n c : Nat} {xs : List Nat} {z : Int} (w : World) (h : Limbs w A n c xs) (hz : sg r (val 4294967296 xs) = z) (hl : n ≤ 1000) :
    Calls Tryd.prog 20 #[.agg #[.bool r, .slice A n c]] w fun e w' => ∃ r' B m d, e = .returned (.agg #[.bool r', .slice B m d]) ∧ BVal w' r' B m d z ∧ Below w.heap.size w w' := by
  refine (refValue r A n c _ w h.mag hl).mono fun e w' hq => ?_
  obtain ⟨B, d, rfl, hb, hbel⟩ := hq
  refine ⟨_, B, _, d, rfl, ⟨signB_sg hz, by rw [sg_abs hz], by rw [← sg_abs hz]; exact hb⟩, hbel⟩
theorem BVal.len {w : World} {r r' : Bool} {B : Option Addr} {m d n k : Nat} {xs : List Nat} {z : Int} (h : BVal w r B m d z) (hx : Low 4294967296 xs) (hl : xs.length = n) (hz : sg r' (val 4294967296 xs) = z) (hk : k = 32 * n) : m ≤ k := by
  rw [h.2.1]
  refine (bl_dl _ n k hk).2 ?_
  rw [← sg_abs hz]
  unfold dl
  rw [digs_of (by decide) hx]
  have := trimL_len xs
  omega
set_option maxHeartbeats 1600000 in
theorem refmay_row {r : Bool} {A : Option Addr} {n c : Nat} {xs : List Nat} {z : Int} (w : World) (h : Limbs w A n c xs) (hz : sg r (val 4294967296 xs) = z) (hl : n ≤ 1000) :
    Calls Tryd.prog 24 #[.agg #[.bool r, .slice A n c]] w fun e w' => e = .returned (.bool (mayB r xs)) ∧ Below w.heap.size w w' := by
  obtain ⟨W, hW⟩ : ∃ W, W = w.alloc (.cells #[.bool r, .slice A n c] 24) := ⟨_, rfl⟩
  have hbW : Below w.heap.size w W := by rw [hW]; exact below_al (Below.refl _ _) _
  have t1 : Two W w.heap.size 24 (.bool r) (.slice A n c) := by rw [hW]; exact Two.made w 24 _ _
  have R := h.below hbW
  have hx := h.2.1
  have hn := h.2.2.1
  obtain ⟨L, hL⟩ : ∃ L, mayB r xs = L := ⟨_, rfl⟩
  rw [hL]
  have VA : ∀ V, Limbs V A n c xs → Hid (Calls Tryd.prog 20 #[.agg #[.bool r, .slice A n c]] V fun e w' => ∃ r' B m d, e = .returned (.agg #[.bool r', .slice B m d]) ∧ (BVal w' r' B m d z ∧ m ≤ 32000) ∧ Below V.heap.size V w') := fun V hv => Lib.hid ((refval_row V hv hz hl).mono fun e w' hq => by
    obtain ⟨r', B, m, d, he, hb, hw⟩ := hq
    exact ⟨r', B, m, d, he, ⟨hb, Nat.le_trans (hb.len hx hn hz rfl) (by omega)⟩, hw⟩)
  have SM : ∀ V r1 A1 m1 c1, Limbs V A n c xs → Can V r1 A1 m1 c1 z → Hid (Calls Tryd.prog 33 #[.agg #[.bool r1, .slice A1 m1 c1], .agg #[.bool r, .slice A n c]] V fun e w' => e = .returned (.bool L) ∧ Below V.heap.size V w') := fun V r1 A1 m1 c1 h1 h2 => Lib.hid (by rw [← hL]; exact same_may V h2 h1 hz hl)
  obtain ⟨v, hv⟩ : ∃ v, resV z = v := ⟨_, rfl⟩
  have RN : ∀ V r1 B m d, BVal V r1 B m d z ∧ m ≤ 32000 → Hid (Calls Tryd.prog 53 #[.agg #[.bool r1, .slice B m d]] V fun e w' => ∃ r A m c, e = .returned (.tuple #[.agg #[.bool r, .slice A m c], .int .i64 v]) ∧ Can w' r A m c (resZ z) ∧ Below V.heap.size V w') := fun V r1 B m d h1 => Lib.hid ((refNum_tells V h1.1 (by omega)).mono fun e w' hq => tells_letters hq hv rfl)
  have C : (v = 6 ∧ L = false) ∨ (v = 0 ∧ Hid (resZ z = z)) := by
    by_cases hd : dl z.natAbs ≤ 48
    · exact .inr ⟨by rw [← hv, resV_yes hd], Lib.hid (resZ_yes hd)⟩
    · have h6 := resV_no hd
      exact .inl ⟨by rw [← hv, h6], by rw [← hL]; exact may_big hx hz h6⟩
  have k1 := t1.fst
  have k2 := t1.snd
  clear hL hv hx hn hz h
  go_enter Tryd.func24, Tryd.ntmps24
  go_wp2_with fail
  rw [← hW]
  have HW := Lib.hid hW
  clear hW
  refine ((VA W R).out).mono ?_
  rintro e y1 ⟨r', B, m, d, rfl, hB, b1⟩
  go_wp2_with fail
  refine ((RN _ r' B m d hB).out).mono ?_
  rintro e y2 ⟨r1, A1, m1, c1, rfl, hC, b2⟩
  have bb := below_then (below_then b1 b2) (below_al (Below.refl _ _) (.cells #[.bool r1, .slice A1 m1 c1] 24))
  have hC' := hC.below (below_al (Below.refl _ _) (.cells #[.bool r1, .slice A1 m1 c1] 24))
  have tz := Two.made y2 24 (.bool r1) (.slice A1 m1 c1)
  replace t1 := t1.below' bb
  replace R := R.below bb
  replace hbW := below_then hbW bb
  clear bb k1 k2 b1 b2 VA RN hB hC
  have k1 := t1.fst
  have k2 := t1.snd
  have k3 := tz.fst
  have k4 := tz.snd
  rcases C with ⟨rfl, rfl⟩ | ⟨rfl, hZ⟩
  · go_wp2
    go_ret
    exact ⟨rfl, hbW⟩
  · rw [hZ.out] at hC'
    have CT := SM _ r1 A1 m1 c1 R hC'
    clear SM hZ
    go_wp2_with fail
    refine (CT.out).mono ?_
    rintro e y3 ⟨rfl, bb⟩
    go_wp2
    go_ret
    exact ⟨rfl, below_then hbW bb⟩
end Go.Proofs.YtocoflojlliapaaDoor
