import Derived.Test.YtocoflojlliapaaDoorProg
import Derived.Test.YtocoflojlliapaaDoorK1
import Derived.WalkKit
import Derived.Handy
import Derived.OneCell
import Derived.Outline
import Derived.Lib.Hide
import Derived.BigQuiet
import Derived.StillTailTactics
import Derived.Laws.MakeOwn
import Derived.Laws.OwnMore
import Derived.Deep.RegionHeld3
set_option linter.unusedVariables false
namespace Go.Proofs.YtocoflojlliapaaDoor
open Go.RowKit
def lenOf (v : Value) : Nat := match v with | .slice _ n _ => n | _ => 0
set_option maxHeartbeats 400000 in
theorem trim_any (A : Option Addr) (xs : List Nat) (c : Nat) (B : Nat) (w : World) (hx : Lim .u32 B w A xs) (hc : xs.length ≤ c) (hl : xs.length ≤ 140737488355328) :
    Calls Tryd.prog 54 #[.slice A xs.length c] w fun e w' => e = .returned (.slice A (trimL xs).length c) ∧ w = w' := by
  go_enter Tryd.func54, Tryd.ntmps54
  go_wp2
  go_loop [0] (fun l => ∃ k : Nat, k ≤ xs.length ∧ l = .slice A k c ∧ trimL (xs.take k) = trimL xs) (fun l => lenOf l)
  case atStart => exact ⟨xs.length, Nat.le_refl _, rfl, by rw [List.take_length]⟩
  case round =>
    obtain ⟨k, hk, rfl, ht⟩ := hrel
    have HT := Lib.hid ht
    clear ht
    by_cases h0 : k = 0
    · subst h0
      go_wp2
      go_ret
      have := HT.out
      rw [← this]
      exact ⟨rfl, rfl⟩
    · obtain ⟨ad, rfl, hb, hcell⟩ := hx.at (i := k - 1) (by omega)
      by_cases hz : xs[k - 1]'(by omega) = 0
      · rw [hz] at hcell
        go_wp2
        go_round
        case rel => exact ⟨k - 1, by omega, by go_num, by
          rw [← HT.out, show xs.take k = xs.take (k - 1) ++ [0] by
            rw [← hz, ← take_snoc xs (k - 1) (by omega), show k - 1 + 1 = k by omega], trimL_zero]⟩
        case measure => simp [lenOf]; omega
      · go_wp2
        go_ret
        have e : xs.take k = xs.take (k - 1) ++ [xs[k - 1]'(by omega)] := by rw [← take_snoc xs (k - 1) (by omega), show k - 1 + 1 = k by omega]
        have := HT.out
        rw [← this, e, trimL_last hz, ← e]
        simp
        omega

set_option maxHeartbeats 400000 in
theorem limb_any (A : Option Addr) (xs : List Nat) (c i : Nat) (B : Nat) (w : World) (hx : Lim .u32 B w A xs) (hl : xs.length ≤ 140737488355328) (hi : i ≤ 140737488355328) :
    Calls Tryd.prog 56 #[.slice A xs.length c, .int .i64 i] w fun e w' => e = .returned (.int .u32 (lmb xs i : Nat)) ∧ w = w' := by
  by_cases h : i < xs.length
  · obtain ⟨ad, rfl, hb, hcell⟩ := hx.at h
    have H := Lib.hid (lmb_in h)
    go_enter Tryd.func56, Tryd.ntmps56
    go_wp2
    go_ret
    rw [H.out]
    exact ⟨rfl, rfl⟩
  · have H := Lib.hid (lmb_out (xs := xs) (i := i) (by omega))
    go_enter Tryd.func56, Tryd.ntmps56
    go_wp2
    go_ret
    rw [H.out]
    exact ⟨rfl, rfl⟩
set_option maxHeartbeats 400000 in
theorem add32 (x y c : Nat) (x1 : x < 4294967296) (y1 : y < 4294967296) (c1 : c < 4294967296) (w : World) :
    Calls Tryd.prog 91 #[.int .u32 x, .int .u32 y, .int .u32 c] w fun e w' => e = .returned (.tuple #[.int .u32 (addLo x y c : Nat), .int .u32 (addHi x y c : Nat)]) ∧ w = w' := by
  have H1 := Lib.hid (show ((x : Int) + y + c) % 4294967296 = (addLo x y c : Nat) by unfold addLo; omega)
  have H2 := Lib.hid (show ((x : Int) + y + c) / 4294967296 = (addHi x y c : Nat) by unfold addHi; omega)
  go_enter Tryd.func91, Tryd.ntmps91
  go_wp2
  go_ret2
  rw [← H1.out, ← H2.out]
  exact ⟨rfl, rfl⟩
set_option maxHeartbeats 400000 in
theorem sub32 (x y b : Nat) (x1 : x < 4294967296) (y1 : y < 4294967296) (b1 : b ≤ 1) (w : World) :
    Calls Tryd.prog 82 #[.int .u32 x, .int .u32 y, .int .u32 b] w fun e w' => e = .returned (.tuple #[.int .u32 (subLo x y b : Nat), .int .u32 (subHi x y b : Nat)]) ∧ w = w' := by
  have H1 := Lib.hid (subLo_int x y b x1 y1 b1)
  have H2 := Lib.hid (sub32_bits x y b x1 y1 b1)
  go_enter Tryd.func82, Tryd.ntmps82
  go_wp2
  go_ret2
  rw [← H2.out, ← H1.out]
  exact ⟨rfl, rfl⟩
set_option maxHeartbeats 400000 in
theorem mul32 (x y : Nat) (x1 : x < 4294967296) (y1 : y < 4294967296) (w : World) :
    Calls Tryd.prog 101 #[.int .u32 x, .int .u32 y] w fun e w' => e = .returned (.tuple #[.int .u32 (mulHi x y : Nat), .int .u32 (mulLo x y : Nat)]) ∧ w = w' := by
  have h0 := mul_sq x1 y1
  have h1 : (x : Int) * y ≤ 18446744065119617025 := by
    rw [← Int.natCast_mul]
    omega
  have h2 : 0 ≤ (x : Int) * y := by
    rw [← Int.natCast_mul]
    omega
  have H1 := Lib.hid (show ((x : Int) * y) % 4294967296 = (mulLo x y : Nat) by unfold mulLo; rw [← Int.natCast_mul]; omega)
  have H2 := Lib.hid (show ((x : Int) * y) / 4294967296 = (mulHi x y : Nat) by unfold mulHi; rw [← Int.natCast_mul]; omega)
  clear h0
  go_enter Tryd.func101, Tryd.ntmps101
  go_wp2
  go_ret2
  rw [← H1.out, ← H2.out]
  exact ⟨rfl, rfl⟩
def divLo (h l y : Nat) : Nat := (h * 4294967296 + l) / y
def divHi (h l y : Nat) : Nat := (h * 4294967296 + l) % y
theorem wraps_u64 (n : Int) (h₀ : 0 ≤ n) (h₁ : n < 2 ^ 64) : IntKind.u64.wrap n = n := by rw [IntKind.wrap_u64]; omega
set_option maxHeartbeats 400000 in
theorem div32i (h l y z : Int) (h0 : 0 ≤ h) (hy : h < y) (y1 : y < 4294967296) (l0 : 0 ≤ l) (l1 : l < 4294967296) (eo : bits .or .u64 (h * 4294967296) l = z) (z0 : 0 ≤ z) (z1 : z ≤ 18446744073709551615)
    (q0 : 0 ≤ z / y) (q1 : z / y < 4294967296) (r0 : 0 ≤ z % y) (r1 : z % y < 4294967296) (e0 : (y != 0) = true) (w : World) :
    Calls Tryd.prog 83 #[.int .u32 h, .int .u32 l, .int .u32 y] w fun e w' => e = .returned (.tuple #[.int .u32 (z / y), .int .u32 (z % y)]) ∧ ∃ n, w' = w.drewN n := by
  go_enter Tryd.func83, Tryd.ntmps83
  go_wp2
  go_quiet (fail)
  go_wp2
  go_ret2
  exact ⟨rfl, _, rfl⟩
theorem div32 (h l y : Nat) (hy : h < y) (y1 : y < 4294967296) (l1 : l < 4294967296) (w : World) :
    Calls Tryd.prog 83 #[.int .u32 h, .int .u32 l, .int .u32 y] w fun e w' => e = .returned (.tuple #[.int .u32 (divLo h l y : Nat), .int .u32 (divHi h l y : Nat)]) ∧ ∃ n, w' = w.drewN n := by
  have eo : bits .or .u64 ((h : Int) * 4294967296) l = (h : Int) * 4294967296 + l := bits_join .u64 64 (by decide) wraps_u64 32 _ _ (by omega) (by omega) (by omega) (by omega) (by omega) (by omega)
  have hq : (h * 4294967296 + l) / y < 4294967296 := by
    rw [Nat.div_lt_iff_lt_mul (by omega)]
    have : (h + 1) * 4294967296 ≤ y * 4294967296 := Nat.mul_le_mul_right _ hy
    rw [Nat.mul_comm y] at this
    omega
  have hr : (h * 4294967296 + l) % y < y := Nat.mod_lt _ (by omega)
  have e1 : (h : Int) * 4294967296 + l = ((h * 4294967296 + l : Nat) : Int) := by omega
  rw [e1] at eo
  have hz : h * 4294967296 + l < 18446744073709551616 := by omega
  have k1 : ((h * 4294967296 + l : Nat) : Int) / y = (divLo h l y : Nat) := by unfold divLo; exact (Int.natCast_ediv _ _).symm
  have k2 : ((h * 4294967296 + l : Nat) : Int) % y = (divHi h l y : Nat) := by unfold divHi; exact (Int.natCast_emod _ _).symm
  have b1 : divLo h l y < 4294967296 := hq
  have b2 : divHi h l y < y := hr
  have := div32i h l y _ (by omega) (by omega) (by omega) (by omega) (by omega) eo (by omega) (by omega) (by rw [k1]; omega) (by rw [k1]; omega) (by rw [k2]; omega) (by rw [k2]; omega) (by rw [bne_iff_ne]; omega) w
  rw [k1, k2] at this
  exact this
end Go.Proofs.YtocoflojlliapaaDoor
set_option linter.unusedVariables false
namespace Go.Proofs.YtocoflojlliapaaDoor
open Go.RowKit
theorem drew2 (w : World) (a b : Nat) : ∃ m, (w.drewN a).drewN b = w.drewN m := ⟨a + b, by rw [World.drewN_drewN]⟩
theorem drew3 (w : World) (a b c : Nat) : ∃ m, ((w.drewN a).drewN b).drewN c = w.drewN m := ⟨a + b + c, by simp [World.drewN_drewN, Nat.add_assoc]⟩
theorem drop_more {xs ys : List Nat} {p : Nat} (hp : p < xs.length) (hq : p < ys.length) (hd : xs.drop (p + 1) = ys.drop (p + 1)) (he : xs[p] = ys[p]) : xs.drop p = ys.drop p := by
  rw [List.drop_eq_getElem_cons hp, List.drop_eq_getElem_cons hq, hd, he]
set_option maxHeartbeats 800000 in
theorem compare_same (A1 A2 : Option Addr) (xs ys : List Nat) (n c1 c2 : Nat) (B : Nat) (w : World) (h1 : Lim .u32 B w A1 xs) (h2 : Lim .u32 B w A2 ys) (hx : Low 4294967296 xs) (hy : Low 4294967296 ys)
    (hn1 : xs.length = n) (hn2 : ys.length = n) (hl : n ≤ 140737488355328) :
    Calls Tryd.prog 57 #[.slice A1 n c1, .slice A2 n c2] w fun e w' => e = .returned (.int .i64 (cmpN (val 4294967296 xs) (val 4294967296 ys))) ∧ ∃ m, w' = w.drewN m := by
  have N1 := Lib.hid hn1
  have N2 := Lib.hid hn2
  clear hn1 hn2
  have HX := Lib.hid hx
  have HY := Lib.hid hy
  clear hx hy
  go_enter Tryd.func57, Tryd.ntmps57
  go_wp2
  go_loopw [21] (fun i wr => ∃ k m : Nat, k ≤ n ∧ i = .int .i64 k ∧ Hid (xs.drop (n - k) = ys.drop (n - k)) ∧ wr = w.drewN m) (fun i _ => n - (intOf i).toNat)
  case atStart => exact ⟨0, 0, Nat.zero_le _, rfl, Lib.hid (by rw [Nat.sub_zero, List.drop_of_length_le (by rw [N1.out]; exact Nat.le_refl _), List.drop_of_length_le (by rw [N2.out]; exact Nat.le_refl _)]), rfl⟩
  case round =>
    obtain ⟨k, m, hk, rfl, hd, rfl⟩ := hrel
    by_cases hlt : k < n
    · have p1 : n - 1 - k < xs.length := by have := N1.out; omega
      have p2 : n - 1 - k < ys.length := by have := N2.out; omega
      obtain ⟨a1, rfl, _, cell1⟩ := h1.at p1
      obtain ⟨a2, rfl, _, cell2⟩ := h2.at p2
      have he : (n : Int) - 1 - k = ((n - 1 - k : Nat) : Int) := by omega
      have HP : Hid (n - 1 - k + 1 = n - k) := Lib.hid (by omega)
      have HK : Hid (n - (k + 1) = n - 1 - k) := Lib.hid (by omega)
      have HD : Hid (xs.drop (n - 1 - k + 1) = ys.drop (n - 1 - k + 1)) := Lib.hid (by rw [HP.out]; exact hd.out)
      clear hd
      have hpn : n - 1 - k < n := by omega
      obtain ⟨X, hX⟩ : ∃ X, X = xs[n - 1 - k] := ⟨_, rfl⟩
      obtain ⟨Y, hY⟩ : ∃ Y, Y = ys[n - 1 - k] := ⟨_, rfl⟩
      rw [← hX] at cell1
      rw [← hY] at cell2
      have KX := Lib.hid hX
      have KY := Lib.hid hY
      clear hX hY
      generalize hp : n - 1 - k = p at *
      have KP := Lib.hid hp
      clear hp
      by_cases hxy : X < Y
      · have F : Hid (cmpN (val 4294967296 xs) (val 4294967296 ys) = -1) := Lib.hid (cmpN_lt (val_cmp (by decide) HX.out HY.out (by rw [N1.out, N2.out]) p1 HD.out (by rw [← KX.out, ← KY.out]; exact hxy)))
        go_wp2
        go_quiet (fail)
        go_wp2
        go_ret
        rw [F.out]
        exact ⟨rfl, drew2 _ _ _⟩
      · by_cases hyx : Y < X
        · have F : Hid (cmpN (val 4294967296 xs) (val 4294967296 ys) = 1) := Lib.hid (cmpN_gt (val_cmp (by decide) HY.out HX.out (by rw [N1.out, N2.out]) p2 HD.out.symm (by rw [← KX.out, ← KY.out]; exact hyx)))
          go_wp2
          go_quiet (fail)
          go_wp2
          go_quiet (fail)
          go_wp2
          go_ret
          rw [F.out]
          exact ⟨rfl, drew3 _ _ _ _⟩
        · have HE : Hid (xs.drop p = ys.drop p) := Lib.hid (drop_more p1 p2 HD.out (by rw [← KX.out, ← KY.out]; omega))
          go_wp2
          go_quiet (fail)
          go_wp2
          go_quiet (fail)
          go_wp2
          go_roundw
          case rel => exact ⟨k + 1, _, by omega, by go_num, Lib.hid (by rw [HK.out]; exact HE.out), rfl⟩
          case measure => simp [intOf]; omega
    · have HF : Hid (cmpN (val 4294967296 xs) (val 4294967296 ys) = 0) := Lib.hid (by
        have := hd.out
        rw [show n - k = 0 by omega] at this
        simp only [List.drop_zero] at this
        rw [this]
        exact cmpN_self _)
      clear hd
      go_wp2
      go_ret
      rw [HF.out]
      exact ⟨rfl, _, rfl⟩
theorem compare_less (A1 A2 : Option Addr) (n1 n2 c1 c2 : Nat) (w : World) (h : n1 < n2) (hl : n2 ≤ 140737488355328) :
    Calls Tryd.prog 57 #[.slice A1 n1 c1, .slice A2 n2 c2] w fun e w' => e = .returned (.int .i64 (-1)) ∧ w = w' := by
  go_enter Tryd.func57, Tryd.ntmps57
  go_wp2
  go_ret
  exact ⟨rfl, rfl⟩
theorem compare_more (A1 A2 : Option Addr) (n1 n2 c1 c2 : Nat) (w : World) (h : n2 < n1) (hl : n1 ≤ 140737488355328) :
    Calls Tryd.prog 57 #[.slice A1 n1 c1, .slice A2 n2 c2] w fun e w' => e = .returned (.int .i64 1) ∧ w = w' := by
  go_enter Tryd.func57, Tryd.ntmps57
  go_wp2
  go_ret
  exact ⟨rfl, rfl⟩
/-- two magnitudes, trimmed, compared -/
theorem compare_any (A1 A2 : Option Addr) (a b c1 c2 : Nat) (B : Nat) (w : World) (h1 : Lim .u32 B w A1 (digs 4294967296 a)) (h2 : Lim .u32 B w A2 (digs 4294967296 b))
    (l1 : (digs 4294967296 a).length ≤ 140737488355328) (l2 : (digs 4294967296 b).length ≤ 140737488355328) :
    Calls Tryd.prog 57 #[.slice A1 (digs 4294967296 a).length c1, .slice A2 (digs 4294967296 b).length c2] w fun e w' => e = .returned (.int .i64 (cmpN a b)) ∧ ∃ m, w' = w.drewN m := by
  rcases Nat.lt_trichotomy (digs 4294967296 a).length (digs 4294967296 b).length with h | h | h
  · rw [cmpN_lt (len_lt_val (by decide) h)]
    exact (compare_less _ _ _ _ _ _ _ h l2).mono fun _ _ ⟨he, hw⟩ => ⟨he, 0, by rw [World.drewN_zero]; exact hw.symm⟩
  · have := compare_same A1 A2 _ _ (digs 4294967296 a).length c1 c2 B w h1 h2 (digs_low (by decide) a) (digs_low (by decide) b) rfl h.symm l1
    rw [digs_val (by decide), digs_val (by decide), ] at this
    rw [← h]
    exact this
  · rw [cmpN_gt (len_lt_val (by decide) h)]
    exact (compare_more _ _ _ _ _ _ _ h l1).mono fun _ _ ⟨he, hw⟩ => ⟨he, 0, by rw [World.drewN_zero]; exact hw.symm⟩
end Go.Proofs.YtocoflojlliapaaDoor
set_option linter.unusedVariables false
namespace Go.Proofs.YtocoflojlliapaaDoor
open Go.RowKit
theorem u32_info : (Tryd.prog.info? 43).map (fun i => (i.zero, i.size, i.bytes)) = some (some (.int .u32 0), 1, 4) := by kernel_rfl
theorem u8_info : (Tryd.prog.info? 5).map (fun i => (i.zero, i.size, i.bytes)) = some (some (.int .u8 0), 1, 1) := by kernel_rfl
/-- noughts -/
def zer (n : Nat) : List Nat := List.replicate n 0
/-- a block's cells -/
def ca (k : IntKind) (xs : List Nat) : Array Value := (cl k xs).toArray
theorem made_cells (k : IntKind) (n : Nat) : madeCells (Value.int k 0).cells (n * 1) = ca k (zer n) := by
  apply Array.ext
  · simp [madeCells, ca, cl, zer]
  · intro i h1 h2
    simp [madeCells, ca, cl, zer, Value.cells, nv]
    rw [Nat.mod_one]
    rfl
theorem make32 (n : Nat) (z : Int) (hz : z = n) (hn : n ≤ 35184372088832) (W : World) :
    (Instr.makeSlice 22 (.int .i64 z) (.int .i64 z)).run Tryd.prog W = .ok (.slice (some ⟨W.heap.size, 0, none⟩) n n) (W.alloc (.cells (ca .u32 (zer n)) 43)) := by
  subst hz
  obtain ⟨i0, hi, hz0, hz1, hz2⟩ := info_parts u32_info
  have := run_make (P := Tryd.prog) W 22 43 i0 _ Tryd.underlying22 hi hz0 .i64 .i64 (n : Int) (n : Int) (by omega) (by omega) (by rw [hz2]; omega) (by omega)
  rw [this, Int.toNat_natCast, hz1, made_cells]
theorem make8 (n : Nat) (z : Int) (hz : z = n) (hn : n ≤ 35184372088832) (W : World) :
    (Instr.makeSlice 28 (.int .i64 z) (.int .i64 z)).run Tryd.prog W = .ok (.slice (some ⟨W.heap.size, 0, none⟩) n n) (W.alloc (.cells (ca .u8 (zer n)) 5)) := by
  subst hz
  obtain ⟨i0, hi, hz0, hz1, hz2⟩ := info_parts u8_info
  have := run_make (P := Tryd.prog) W 28 5 i0 _ Tryd.underlying28 hi hz0 .i64 .i64 (n : Int) (n : Int) (by omega) (by omega) (by rw [hz2]; omega) (by omega)
  rw [this, Int.toNat_natCast, hz1, made_cells]
theorem Nums.new (w : World) (t : TypeId) (k : IntKind) (xs : List Nat) : Nums k t (w.alloc (.cells (ca k xs) t)) w.heap.size xs := Nums.made w t k xs
theorem zer_len (n : Nat) : (zer n).length = n := by simp [zer]
/-- what a function that makes a row of numbers leaves: n limbs that come to v, in the first new block -/
def Made (w w' : World) (n v : Nat) : Prop := ∃ zs, zs.length = n ∧ Low 4294967296 zs ∧ val 4294967296 zs = v ∧ Nums .u32 43 w' w.heap.size zs ∧ Below w.heap.size w w'
/-- a row that is filled from its beginning: the first ones come to v -/
def Fill (n i v : Nat) (zs : List Nat) : Prop := zs.length = n ∧ Low 4294967296 zs ∧ val 4294967296 (zs.take i) = v
theorem Fill.zero (n : Nat) : Fill n 0 0 (zer n) := ⟨zer_len n, Low.rep (by decide) n, by simp [val]⟩
theorem Fill.set {n i v : Nat} {zs : List Nat} (h : Fill n i v zs) {x : Nat} (hx : x < 4294967296) (hi : i < n) : Fill n (i + 1) (v + 4294967296 ^ i * x) (zs.set i x) := by
  obtain ⟨hl, hlow, hv⟩ := h
  refine ⟨by simp [hl], hlow.set hx, ?_⟩
  have e : (zs.set i x).take (i + 1) = zs.take i ++ [x] := by
    rw [take_snoc _ i (by simp [hl, hi]), List.getElem_set_self, List.take_set_of_le (Nat.le_refl i)]
  rw [e, val_snoc, hv, List.length_take, Nat.min_eq_left (by omega)]
theorem Fill.full {n v : Nat} {zs : List Nat} (h : Fill n n v zs) : zs.length = n ∧ Low 4294967296 zs ∧ val 4294967296 zs = v := by
  refine ⟨h.1, h.2.1, ?_⟩
  have := h.2.2
  rwa [List.take_of_length_le (by rw [h.1]; exact Nat.le_refl n)] at this
theorem limb_at (A : Option Addr) (xs : List Nat) (n c i : Nat) (B : Nat) (w : World) (hx : Lim .u32 B w A xs) (hn : Hid (xs.length = n)) (hl : n ≤ 140737488355328) (hi : i ≤ 140737488355328) :
    Calls Tryd.prog 56 #[.slice A n c, .int .i64 i] w fun e w' => e = .returned (.int .u32 (lmb xs i : Nat)) ∧ w = w' := by
  have h := hn.out
  subst h
  exact limb_any A xs c i B w hx hl hi
set_option maxHeartbeats 1600000 in
theorem plus_less (A1 A2 : Option Addr) (xs ys : List Nat) (c1 c2 m n : Nat) (w : World) (h1 : Lim .u32 w.heap.size w A1 xs) (h2 : Lim .u32 w.heap.size w A2 ys) (hx : Low 4294967296 xs) (hy : Low 4294967296 ys)
    (l1 : Hid (xs.length = m)) (l2 : Hid (ys.length = n)) (l3 : m < n) (hm : m ≤ 1000000) (hl : n ≤ 1000000) :
    Calls Tryd.prog 80 #[.slice A1 m c1, .slice A2 n c2] w fun e w' => e = .returned (.slice (some ⟨w.heap.size, 0, none⟩) (n + 1) (n + 1)) ∧ Made w w' (n + 1) (val 4294967296 xs + val 4294967296 ys) := by
  have hmk := make32 (n + 1) ((n : Int) + 1) (by omega) (by omega)
  have HX := Lib.hid hx
  have HY := Lib.hid hy
  clear hx hy
  go_enter Tryd.func80, Tryd.ntmps80
  go_wp2_with fail
  go_loopw [7, 18] (fun cv i wr => ∃ (k c : Nat) (zs : List Nat), k ≤ n ∧ i = .int .i64 k ∧ cv = .int .u32 c ∧ c ≤ 1 ∧ Hid (∃ v, Fill (n + 1) k v zs ∧ v + 4294967296 ^ k * c = val 4294967296 (xs.take k) + val 4294967296 (ys.take k)) ∧
      Nums .u32 43 wr w.heap.size zs ∧ Below w.heap.size w wr) (fun _ i _ => n - (intOf i).toNat)
  case atStart => exact ⟨0, 0, zer (n + 1), Nat.zero_le _, rfl, rfl, by omega, Lib.hid ⟨0, Fill.zero _, by simp [val]⟩, Nums.new _ _ _ _, (Below.refl _ _).alloc (Nat.le_refl _) _⟩
  case round =>
    obtain ⟨k, c, zs, hk, rfl, rfl, hc, hF, hN, hbel⟩ := hrel
    have hzl : k < zs.length := by
      obtain ⟨v, hf, _⟩ := hF.out
      rw [hf.1]
      omega
    by_cases hlt : k < n
    · have hcell := hN.at hzl
      have hfree := hN.free k
      have k1 : lmb xs k < 4294967296 := lmb_lt HX.out k
      have k2 : lmb ys k < 4294967296 := lmb_lt HY.out k
      have hlim1 := h1.below hbel
      have hlim2 := h2.below hbel
      go_wp2_with (first
        | (go_at_call 56; (first | (with_reducible refine (limb_at A1 xs m c1 k _ _ hlim1 l1 (by omega) (by omega)).mono ?_) | (with_reducible refine (limb_at A2 ys n c2 k _ _ hlim2 l2 (by omega) (by omega)).mono ?_)); rintro e w' ⟨rfl, rfl⟩)
        | (go_at_call 91; refine (add32 _ _ _ k1 k2 (by omega) _).mono ?_; rintro e w' ⟨rfl, rfl⟩))
      go_roundw
      case rel => exact ⟨k + 1, addHi (lmb xs k) (lmb ys k) c, zs.set k (addLo (lmb xs k) (lmb ys k) c), by omega, by go_num, rfl, addHi_le _ _ _ k1 k2 hc, Lib.hid (by
        obtain ⟨v, hf, he⟩ := hF.out
        refine ⟨_, hf.set (addLo_lt _ _ _) (by omega), ?_⟩
        rw [val_take_lmb, val_take_lmb, Nat.pow_succ]
        exact add_step he (add_eq _ _ _)), hN.set _ _, hbel.setCell (Nat.le_refl _) _⟩
      case measure => simp [intOf]; omega
    · obtain rfl : n = k := by omega
      have hcell := hN.at hzl
      have hfree := hN.free n
      go_wp2
      go_ret
      refine ⟨rfl, ?_⟩
      obtain ⟨v, hf, he⟩ := hF.out
      have hf2 := (hf.set (x := c) (by omega) (by omega)).full
      refine ⟨_, hf2.1, hf2.2.1, ?_, hN.set _ _, hbel.setCell (Nat.le_refl _) _⟩
      rw [hf2.2.2, he, List.take_of_length_le (by rw [l1.out]; omega), List.take_of_length_le (by rw [l2.out]; omega)]
set_option maxHeartbeats 1600000 in
theorem plus_more (A1 A2 : Option Addr) (xs ys : List Nat) (c1 c2 m n : Nat) (w : World) (h1 : Lim .u32 w.heap.size w A1 xs) (h2 : Lim .u32 w.heap.size w A2 ys) (hx : Low 4294967296 xs) (hy : Low 4294967296 ys)
    (l1 : Hid (xs.length = m)) (l2 : Hid (ys.length = n)) (l3 : n ≤ m) (hm : m ≤ 1000000) (hl : n ≤ 1000000) :
    Calls Tryd.prog 80 #[.slice A1 m c1, .slice A2 n c2] w fun e w' => e = .returned (.slice (some ⟨w.heap.size, 0, none⟩) (m + 1) (m + 1)) ∧ Made w w' (m + 1) (val 4294967296 xs + val 4294967296 ys) := by
  have hmk := make32 (m + 1) ((m : Int) + 1) (by omega) (by omega)
  have HX := Lib.hid hx
  have HY := Lib.hid hy
  clear hx hy
  go_enter Tryd.func80, Tryd.ntmps80
  go_wp2_with fail
  go_loopw [7, 18] (fun cv i wr => ∃ (k c : Nat) (zs : List Nat), k ≤ m ∧ i = .int .i64 k ∧ cv = .int .u32 c ∧ c ≤ 1 ∧ Hid (∃ v, Fill (m + 1) k v zs ∧ v + 4294967296 ^ k * c = val 4294967296 (xs.take k) + val 4294967296 (ys.take k)) ∧
      Nums .u32 43 wr w.heap.size zs ∧ Below w.heap.size w wr) (fun _ i _ => m - (intOf i).toNat)
  case atStart => exact ⟨0, 0, zer (m + 1), Nat.zero_le _, rfl, rfl, by omega, Lib.hid ⟨0, Fill.zero _, by simp [val]⟩, Nums.new _ _ _ _, (Below.refl _ _).alloc (Nat.le_refl _) _⟩
  case round =>
    obtain ⟨k, c, zs, hk, rfl, rfl, hc, hF, hN, hbel⟩ := hrel
    have hzl : k < zs.length := by
      obtain ⟨v, hf, _⟩ := hF.out
      rw [hf.1]
      omega
    by_cases hlt : k < m
    · have hcell := hN.at hzl
      have hfree := hN.free k
      have k1 : lmb xs k < 4294967296 := lmb_lt HX.out k
      have k2 : lmb ys k < 4294967296 := lmb_lt HY.out k
      have hlim1 := h1.below hbel
      have hlim2 := h2.below hbel
      go_wp2_with (first
        | (go_at_call 56; (first | (with_reducible refine (limb_at A1 xs m c1 k _ _ hlim1 l1 (by omega) (by omega)).mono ?_) | (with_reducible refine (limb_at A2 ys n c2 k _ _ hlim2 l2 (by omega) (by omega)).mono ?_)); rintro e w' ⟨rfl, rfl⟩)
        | (go_at_call 91; refine (add32 _ _ _ k1 k2 (by omega) _).mono ?_; rintro e w' ⟨rfl, rfl⟩))
      go_roundw
      case rel => exact ⟨k + 1, addHi (lmb xs k) (lmb ys k) c, zs.set k (addLo (lmb xs k) (lmb ys k) c), by omega, by go_num, rfl, addHi_le _ _ _ k1 k2 hc, Lib.hid (by
        obtain ⟨v, hf, he⟩ := hF.out
        refine ⟨_, hf.set (addLo_lt _ _ _) (by omega), ?_⟩
        rw [val_take_lmb, val_take_lmb, Nat.pow_succ]
        exact add_step he (add_eq _ _ _)), hN.set _ _, hbel.setCell (Nat.le_refl _) _⟩
      case measure => simp [intOf]; omega
    · obtain rfl : m = k := by omega
      have hcell := hN.at hzl
      have hfree := hN.free m
      go_wp2
      go_ret
      refine ⟨rfl, ?_⟩
      obtain ⟨v, hf, he⟩ := hF.out
      have hf2 := (hf.set (x := c) (by omega) (by omega)).full
      refine ⟨_, hf2.1, hf2.2.1, ?_, hN.set _ _, hbel.setCell (Nat.le_refl _) _⟩
      rw [hf2.2.2, he, List.take_of_length_le (by rw [l1.out]; omega), List.take_of_length_le (by rw [l2.out]; omega)]
theorem plus_any (A1 A2 : Option Addr) (xs ys : List Nat) (c1 c2 : Nat) (w : World) (h1 : Lim .u32 w.heap.size w A1 xs) (h2 : Lim .u32 w.heap.size w A2 ys) (hx : Low 4294967296 xs) (hy : Low 4294967296 ys)
    (l1 : xs.length ≤ 1000000) (l2 : ys.length ≤ 1000000) :
    Calls Tryd.prog 80 #[.slice A1 xs.length c1, .slice A2 ys.length c2] w fun e w' => e = .returned (.slice (some ⟨w.heap.size, 0, none⟩) (max xs.length ys.length + 1) (max xs.length ys.length + 1)) ∧ Made w w' (max xs.length ys.length + 1) (val 4294967296 xs + val 4294967296 ys) := by
  rcases Nat.lt_or_ge xs.length ys.length with h | h
  · rw [Nat.max_eq_right (by omega)]
    exact plus_less A1 A2 xs ys c1 c2 _ _ w h1 h2 hx hy (Lib.hid rfl) (Lib.hid rfl) h l1 l2
  · rw [Nat.max_eq_left (by omega)]
    exact plus_more A1 A2 xs ys c1 c2 _ _ w h1 h2 hx hy (Lib.hid rfl) (Lib.hid rfl) h l1 l2
end Go.Proofs.YtocoflojlliapaaDoor
set_option linter.unusedVariables false
namespace Go.Proofs.YtocoflojlliapaaDoor
open Go.RowKit
set_option maxHeartbeats 1600000 in
theorem minus_at (A1 A2 : Option Addr) (xs ys : List Nat) (c1 c2 m n : Nat) (w : World) (h1 : Lim .u32 w.heap.size w A1 xs) (h2 : Lim .u32 w.heap.size w A2 ys) (hx : Low 4294967296 xs) (hy : Low 4294967296 ys)
    (l1 : Hid (xs.length = m)) (l2 : Hid (ys.length = n)) (l3 : n ≤ m) (hm : m ≤ 1000000) (hge : Hid (val 4294967296 ys ≤ val 4294967296 xs)) :
    Calls Tryd.prog 63 #[.slice A1 m c1, .slice A2 n c2] w fun e w' => e = .returned (.slice (some ⟨w.heap.size, 0, none⟩) m m) ∧ Made w w' m (val 4294967296 xs - val 4294967296 ys) := by
  have hmk := make32 m (m : Int) rfl (by omega)
  have HX := Lib.hid hx
  have HY := Lib.hid hy
  clear hx hy
  go_enter Tryd.func63, Tryd.ntmps63
  go_wp2_with fail
  go_loopw [6, 13] (fun cv i wr => ∃ (k c : Nat) (zs : List Nat), k ≤ m ∧ i = .int .i64 k ∧ cv = .int .u32 c ∧ c ≤ 1 ∧ Hid (∃ v, Fill m k v zs ∧ v + val 4294967296 (ys.take k) = val 4294967296 (xs.take k) + 4294967296 ^ k * c) ∧
      Nums .u32 43 wr w.heap.size zs ∧ Below w.heap.size w wr) (fun _ i _ => m - (intOf i).toNat)
  case atStart => exact ⟨0, 0, zer m, Nat.zero_le _, rfl, rfl, by omega, Lib.hid ⟨0, Fill.zero _, by simp [val]⟩, Nums.new _ _ _ _, (Below.refl _ _).alloc (Nat.le_refl _) _⟩
  case round =>
    obtain ⟨k, c, zs, hk, rfl, rfl, hc, hF, hN, hbel⟩ := hrel
    by_cases hlt : k < m
    · have hzl : k < zs.length := by
        obtain ⟨v, hf, _⟩ := hF.out
        rw [hf.1]
        omega
      have hxl : k < xs.length := by rw [l1.out]; exact hlt
      have hcell := hN.at hzl
      have hfree := hN.free k
      have k1 : xs[k] < 4294967296 := HX.out.at hxl
      have k2 : lmb ys k < 4294967296 := lmb_lt HY.out k
      have hlim2 := h2.below hbel
      obtain ⟨a1, rfl, hab, cell1⟩ := (h1.below hbel).at hxl
      obtain ⟨X, hX⟩ : ∃ X, X = xs[k] := ⟨_, rfl⟩
      rw [← hX] at cell1 k1
      have KX := Lib.hid (hX.trans (lmb_in hxl).symm)
      clear hX
      go_wp2_with fail
      have hst : ∀ v : Value, (wr.setCell ⟨w.heap.size, k, none⟩ v).cell? (a1.add k) = some (.int .u32 X) := fun v =>
        (World.cell?_setCell_other wr _ _ v (fun e => by have := congrArg Addr.block e; rw [add_block] at this; simp at this; omega)).trans cell1
      go_region_held3 (fun w' => w'.cell? (a1.add k) = some (.int .u32 X)) (first | go_keep | exact hst _)
        (first
          | (go_at_call 56; refine (limb_at A2 ys n c2 k _ _ (by exact hlim2) l2 (by omega) (by omega)).mono ?_; rintro e w' ⟨rfl, rfl⟩)
          | (go_at_call 82; refine (sub32 _ _ _ k1 k2 hc _).mono ?_; rintro e w' ⟨rfl, rfl⟩))
      all_goals go_wp2
      go_roundw
      case rel => exact ⟨k + 1, subHi X (lmb ys k) c, zs.set k (subLo X (lmb ys k) c), by omega, by go_num, rfl, subHi_le _ _ _, Lib.hid (by
        obtain ⟨v, hf, he⟩ := hF.out
        refine ⟨_, hf.set (subLo_lt _ _ _ k1 k2 hc) hlt, ?_⟩
        rw [val_take_lmb, val_take_lmb, Nat.pow_succ, ← KX.out]
        exact sub_step he (sub_eq _ _ _ k1 k2 hc)), hN.set _ _, (hbel.setCell (p := ⟨w.heap.size, k, none⟩) (Nat.le_refl _) _).drew⟩
      case measure => simp [intOf]; omega
    · obtain rfl : m = k := by omega
      go_wp2
      go_ret
      refine ⟨rfl, ?_⟩
      obtain ⟨v, hf, he⟩ := hF.out
      have hf2 := hf.full
      refine ⟨_, hf2.1, hf2.2.1, ?_, hN, hbel⟩
      rw [List.take_of_length_le (l := xs) (by rw [l1.out]; omega), List.take_of_length_le (l := ys) (by rw [l2.out]; omega)] at he
      have h3 := hge.out
      have h4 := val_lt (by decide) HX.out
      rw [l1.out] at h4
      rw [hf2.2.2]
      have hc0 : c = 0 := by
        rcases Nat.eq_zero_or_pos c with h0 | h0
        · exact h0
        · obtain rfl : c = 1 := by omega
          have h5 := val_lt (by decide) hf2.2.1
          rw [hf2.1, hf2.2.2] at h5
          omega
      subst hc0
      omega
end Go.Proofs.YtocoflojlliapaaDoor
set_option linter.unusedVariables false
namespace Go.Proofs.YtocoflojlliapaaDoor
open Go.RowKit
/-- a quotient by a limb that is filled from its end: p limbs are still to come -/
def Down (n p y L : Nat) (xs zs : List Nat) : Prop := zs.length = n ∧ Low 4294967296 zs ∧ val 4294967296 (xs.drop p) = y * val 4294967296 (zs.drop p) + L
theorem Down.zero (n y : Nat) (xs : List Nat) (h : xs.length = n) : Down n n y 0 xs (zer n) := by
  refine ⟨zer_len n, Low.rep (by decide) n, ?_⟩
  rw [List.drop_of_length_le (by omega), List.drop_of_length_le (by rw [zer_len]; exact Nat.le_refl n)]
  simp [val]
theorem Down.set {n p y L X : Nat} {xs zs : List Nat} (h : Down n (p + 1) y L xs zs) (hp : p < n) (hxl : p < xs.length) (hx : xs[p] = X) (hy : L < y) (hX : X < 4294967296) :
    Down n p y (divHi L X y) xs (zs.set p (divLo L X y)) := by
  obtain ⟨hl, hlow, hv⟩ := h
  have hq : divLo L X y < 4294967296 := by
    unfold divLo
    rw [Nat.div_lt_iff_lt_mul (by omega)]
    have : (L + 1) * 4294967296 ≤ y * 4294967296 := Nat.mul_le_mul_right _ hy
    rw [Nat.mul_comm y] at this
    omega
  refine ⟨by simp [hl], hlow.set hq, ?_⟩
  have e : (zs.set p (divLo L X y)).drop p = divLo L X y :: zs.drop (p + 1) := by
    rw [List.drop_eq_getElem_cons (by simp [hl, hp]), List.getElem_set_self, List.drop_set_of_lt (by omega)]
  rw [List.drop_eq_getElem_cons hxl, e]
  simp only [val]
  rw [hx]
  refine div_step hv ?_
  unfold divLo divHi
  rw [Nat.div_add_mod]
theorem divHi_lt (h l y : Nat) (hy : h < y) : divHi h l y < y := Nat.mod_lt _ (by omega)
/-- what a function that answers a magnitude, trimmed, leaves -/
def Gave (w w' : World) (A : Option Addr) (n : Nat) : Prop := Lim .u32 w'.heap.size w' A (digs 4294967296 n) ∧ Below w.heap.size w w'
theorem trim_at (A : Option Addr) (xs : List Nat) (n c : Nat) (B : Nat) (w : World) (hn : Hid (xs.length = n)) (hx : Lim .u32 B w A xs) (hc : n ≤ c) (hl : n ≤ 140737488355328) :
    Calls Tryd.prog 54 #[.slice A n c] w fun e w' => e = .returned (.slice A (trimL xs).length c) ∧ w = w' := by
  have h := hn.out
  subst h
  exact trim_any A xs c B w hx hc hl
set_option maxHeartbeats 1600000 in
theorem byLimb_at (A : Option Addr) (xs : List Nat) (c n y : Nat) (w : World) (h1 : Lim .u32 w.heap.size w A xs) (hx : Low 4294967296 xs) (l1 : Hid (xs.length = n)) (hl : n ≤ 1000000) (y0 : 0 < y) (y1 : y < 4294967296) :
    Calls Tryd.prog 66 #[.slice A n c, .int .u32 y] w fun e w' => e = .returned (.tuple #[.slice (some ⟨w.heap.size, 0, none⟩) (digs 4294967296 (val 4294967296 xs / y)).length n, .int .u32 (val 4294967296 xs % y : Nat)]) ∧
      Gave w w' (some ⟨w.heap.size, 0, none⟩) (val 4294967296 xs / y) := by
  have hmk := make32 n (n : Int) rfl (by omega)
  have HX := Lib.hid hx
  clear hx
  go_enter Tryd.func66, Tryd.ntmps66
  go_wp2_with fail
  go_loopw [5, 13] (fun lv i wr => ∃ (k L : Nat) (zs : List Nat), k ≤ n ∧ i = .int .i64 k ∧ lv = .int .u32 L ∧ L < y ∧ Hid (Down n (n - k) y L xs zs) ∧
      Nums .u32 43 wr w.heap.size zs ∧ Below w.heap.size w wr) (fun _ i _ => n - (intOf i).toNat)
  case atStart => exact ⟨0, 0, zer n, Nat.zero_le _, rfl, rfl, y0, Lib.hid (Down.zero n y xs l1.out), Nums.new _ _ _ _, (Below.refl _ _).alloc (Nat.le_refl _) _⟩
  case round =>
    obtain ⟨k, L, zs, hk, rfl, rfl, hL, hF, hN, hbel⟩ := hrel
    by_cases hlt : k < n
    · have HK : Hid (n - (k + 1) = n - 1 - k) := Lib.hid (by omega)
      have HF : Hid (Down n (n - 1 - k + 1) y L xs zs) := Lib.hid (by rw [show n - 1 - k + 1 = n - k by omega]; exact hF.out)
      clear hF
      have hp : n - 1 - k < n := by omega
      have he : (n : Int) - 1 - k = ((n - 1 - k : Nat) : Int) := by omega
      generalize hpe : n - 1 - k = p at *
      have KP := Lib.hid hpe
      clear hpe
      have hzl : p < zs.length := by
        rw [HF.out.1]
        exact hp
      have hxl : p < xs.length := by rw [l1.out]; exact hp
      have hcell := hN.at hzl
      have hfree := hN.free p
      have k1 : xs[p] < 4294967296 := HX.out.at hxl
      obtain ⟨a1, rfl, hab, cell1⟩ := (h1.below hbel).at hxl
      obtain ⟨X, hX⟩ : ∃ X, X = xs[p] := ⟨_, rfl⟩
      rw [← hX] at cell1 k1
      have KX := Lib.hid hX.symm
      clear hX
      go_wp2_with (go_at_call 83; refine (div32 L X y hL y1 k1 _).mono ?_; rintro e w' ⟨rfl, m, rfl⟩)
      go_roundw
      case rel => exact ⟨k + 1, divHi L X y, zs.set p (divLo L X y), by omega, by go_num, rfl, divHi_lt _ _ _ hL, Lib.hid (by
        rw [HK.out]
        exact HF.out.set hp hxl KX.out hL k1), (hN.drewN m).set _ _, (below_drewN hbel m).setCell (p := ⟨w.heap.size, p, none⟩) (Nat.le_refl _) _⟩
      case measure => simp [intOf]; omega
    · obtain rfl : n = k := by omega
      have hlen : Hid (zs.length = n) := Lib.hid hF.out.1
      have hlow := Lib.hid hF.out.2.1
      have hv : Hid (val 4294967296 xs = y * val 4294967296 zs + L) := Lib.hid (by
        have := hF.out.2.2
        rw [Nat.sub_self] at this
        simpa using this)
      have hq : Hid (trimL zs = digs 4294967296 (val 4294967296 xs / y)) := Lib.hid (by
        rw [hv.out, Nat.mul_add_div y0, Nat.div_eq_of_lt hL, Nat.add_zero, digs_of (by decide) hlow.out])
      have hr : Hid (L = val 4294967296 xs % y) := Lib.hid (by rw [hv.out, Nat.mul_add_mod, Nat.mod_eq_of_lt hL])
      clear hF
      have hlim := hN.lim
      go_wp2_with (go_at_call 54; refine (trim_at _ zs n n _ _ hlen hlim (Nat.le_refl _) (by omega)).mono ?_; rintro e w' ⟨rfl, rfl⟩)
      go_ret2
      rw [← hq.out, ← hr.out]
      exact ⟨rfl, by rw [Gave, ← hq.out]; exact ⟨hlim.trim, hbel⟩⟩
end Go.Proofs.YtocoflojlliapaaDoor
set_option linter.unusedVariables false
namespace Go.Proofs.YtocoflojlliapaaDoor
open Go.RowKit
/-- the product's limbs by now: so many rows are added -/
def Rows (s n k : Nat) (xs ys zs : List Nat) : Prop := zs.length = s ∧ Low 4294967296 zs ∧ val 4294967296 (zs.take (k + n)) = val 4294967296 (xs.take k) * val 4294967296 ys
/-- within a row: so many limbs of it are added; o are the limbs ahead of the row -/
def Row (s k j a c : Nat) (ys o zs : List Nat) : Prop := zs.length = s ∧ Low 4294967296 zs ∧ c < 4294967296 ∧ o.length = s ∧
  val 4294967296 (zs.take (k + j)) + 4294967296 ^ (k + j) * c = val 4294967296 (o.take (k + j)) + 4294967296 ^ k * a * val 4294967296 (ys.take j) ∧ ∀ i, k + j ≤ i → zs[i]? = o[i]?
theorem Rows.zero (s n : Nat) (xs ys : List Nat) : Rows s n 0 xs ys (zer s) := by
  refine ⟨zer_len s, Low.rep (by decide) s, ?_⟩
  simp only [List.take_zero, val, Nat.zero_mul, zer, List.take_replicate, val_rep]
theorem Row.zero {s n k : Nat} {xs ys o : List Nat} (h : Rows s n k xs ys o) (a : Nat) : Row s k 0 a 0 ys o o :=
  ⟨h.1, h.2.1, by decide, h.1, by simp [val], fun _ _ => rfl⟩
theorem Row.next {s k j a c P D E X : Nat} {ys o zs : List Nat} (h : Row s k j a c ys o zs) (hi : k + j < s) (hj : j < ys.length) (ha : a < 4294967296) (hys : Low 4294967296 ys) (hP : a * ys[j] = P) (hX : zs[k + j]? = some X)
    (hD : (c + (P + X)) % 4294967296 = D) (hE : (c + (P + X)) / 4294967296 = E) : Row s k (j + 1) a E ys o (zs.set (k + j) D) := by
  obtain ⟨hl, hlow, hc, ho, hv, hr⟩ := h
  have hDl : D < 4294967296 := by rw [← hD]; exact Nat.mod_lt _ (by decide)
  have hXo : o[k + j]? = some X := by rw [← hr _ (Nat.le_refl _)]; exact hX
  have hXl : X < 4294967296 := hlow X (List.mem_of_getElem? hX)
  have hPl : P ≤ 18446744065119617025 := by rw [← hP]; exact mul_sq ha (hys.at hj)
  refine ⟨by simp [hl], hlow.set hDl, by rw [← hE]; omega, ho, ?_, fun i hi' => ?_⟩
  · have e : (zs.set (k + j) D).take (k + (j + 1)) = zs.take (k + j) ++ [D] := by
      rw [← Nat.add_assoc, take_snoc _ (k + j) (by simp [hl, hi]), List.getElem_set_self, List.take_set_of_le (Nat.le_refl _)]
    have e2 : o.take (k + (j + 1)) = o.take (k + j) ++ [X] := by
      have hol : k + j < o.length := by rw [ho]; exact hi
      rw [← Nat.add_assoc, take_snoc _ (k + j) hol]
      rw [List.getElem?_eq_getElem hol] at hXo
      injection hXo with hXo
      rw [hXo]
    rw [e, e2, val_snoc, val_snoc, val_take_succ _ ys j hj, List.length_take, List.length_take, Nat.min_eq_left (by omega), Nat.min_eq_left (by omega), ← Nat.add_assoc, Nat.pow_succ]
    exact mul_step hv (Nat.pow_add _ _ _) (by rw [hP, ← hD, ← hE]; omega)
  · rw [List.getElem?_set_ne (by omega)]
    exact hr i (by omega)
theorem Row.last {s n k a c : Nat} {xs ys o zs : List Nat} (h : Row s k n a c ys o zs) (hR : Rows s n k xs ys o) (hn : ys.length = n) (hk : k < xs.length) (ha : xs[k] = a) (hs : k + n < s) : Rows s n (k + 1) xs ys (zs.set (k + n) c) := by
  obtain ⟨hl, hlow, hc, ho, hv, hr⟩ := h
  refine ⟨by simp [hl], hlow.set hc, ?_⟩
  have e : (zs.set (k + n) c).take (k + 1 + n) = zs.take (k + n) ++ [c] := by
    rw [show k + 1 + n = k + n + 1 by omega, take_snoc _ (k + n) (by simp [hl, hs]), List.getElem_set_self, List.take_set_of_le (Nat.le_refl _)]
  rw [e, val_snoc, List.length_take, Nat.min_eq_left (by omega), hv, hR.2.2, val_take_succ _ xs k hk, ha, List.take_of_length_le (l := ys) (by omega), Nat.add_mul]
set_option maxHeartbeats 3200000 in
theorem times_at (A1 A2 : Option Addr) (xs ys : List Nat) (c1 c2 m n : Nat) (w : World) (h1 : Lim .u32 w.heap.size w A1 xs) (h2 : Lim .u32 w.heap.size w A2 ys) (hx : Low 4294967296 xs) (hy : Low 4294967296 ys)
    (l1 : Hid (xs.length = m)) (l2 : Hid (ys.length = n)) (hm : m ≤ 1000000) (hl : n ≤ 1000000) :
    Calls Tryd.prog 61 #[.slice A1 m c1, .slice A2 n c2] w fun e w' => e = .returned (.slice (some ⟨w.heap.size, 0, none⟩) (m + n) (m + n)) ∧ Made w w' (m + n) (val 4294967296 xs * val 4294967296 ys) := by
  have hmk := make32 (m + n) ((m : Int) + n) (by omega) (by omega)
  have HX := Lib.hid hx
  have HY := Lib.hid hy
  clear hx hy
  go_enter Tryd.func61, Tryd.ntmps61
  go_wp2_with fail
  go_loopw [6, 7, 8, 9, 10, 19, 26] (fun _ _ _ _ _ i _ wr => ∃ (k : Nat) (zs : List Nat), k ≤ m ∧ i = .int .i64 k ∧ Hid (Rows (m + n) n k xs ys zs) ∧ Nums .u32 43 wr w.heap.size zs ∧ Below w.heap.size w wr) (fun _ _ _ _ _ i _ _ => m - (intOf i).toNat)
  case atStart => exact ⟨0, zer (m + n), Nat.zero_le _, rfl, Lib.hid (Rows.zero _ _ _ _), Nums.new _ _ _ _, (Below.refl _ _).alloc (Nat.le_refl _) _⟩
  case round =>
    obtain ⟨k, zs, hk, rfl, hR, hN, hbel⟩ := hrel
    by_cases hlt : k < m
    · have hxl : k < xs.length := by rw [l1.out]; exact hlt
      have ha : xs[k] < 4294967296 := HX.out.at hxl
      obtain ⟨a1, rfl, hab, cell1⟩ := (h1.below hbel).at hxl
      obtain ⟨a, hae⟩ : ∃ X, X = xs[k] := ⟨_, rfl⟩
      rw [← hae] at cell1 ha
      have KA := Lib.hid hae.symm
      clear hae
      obtain ⟨wo, hwo⟩ : ∃ wo : World, wo = wr := ⟨_, rfl⟩
      subst hwo
      go_wp2_with fail
      go_loopw [8, 9, 10, 26] (fun cv _ _ jv wr => ∃ (j c : Nat) (qs : List Nat), j ≤ n ∧ jv = .int .i64 j ∧ cv = .int .u64 c ∧ c < 4294967296 ∧ Hid (Row (m + n) k j a c ys zs qs) ∧ Nums .u32 43 wr w.heap.size qs ∧ Below w.heap.size w wr) (fun _ _ _ jv _ => n - (intOf jv).toNat)
      case atStart => exact ⟨0, 0, zs, Nat.zero_le _, rfl, rfl, by omega, Lib.hid (Row.zero hR.out a), hN, hbel⟩
      case round =>
        obtain ⟨j, c, qs, hj, rfl, rfl, hc, hF, hQ, hbel2⟩ := hrel
        by_cases hjl : j < n
        · have hyl : j < ys.length := by rw [l2.out]; exact hjl
          have hql : k + j < qs.length := by
            rw [hF.out.1]
            omega
          have hb : ys[j] < 4294967296 := HY.out.at hyl
          obtain ⟨a2, rfl, hab2, cell2⟩ := (h2.below hbel2).at hyl
          obtain ⟨b, hbe⟩ : ∃ X, X = ys[j] := ⟨_, rfl⟩
          rw [← hbe] at cell2 hb
          have hcellq := hQ.at hql
          have hfree := hQ.free (k + j)
          have hX : qs[k + j] < 4294967296 := hF.out.2.1.at hql
          obtain ⟨X, hXe⟩ : ∃ X, X = qs[k + j] := ⟨_, rfl⟩
          rw [← hXe] at hcellq hX
          have KX : Hid (qs[k + j]? = some X) := Lib.hid (by rw [List.getElem?_eq_getElem hql, hXe])
          have KB := Lib.hid hbe
          clear hbe hXe
          obtain ⟨P, hP⟩ : ∃ P, P = a * b := ⟨_, rfl⟩
          have hPl : P ≤ 18446744065119617025 := by rw [hP]; exact mul_sq ha hb
          have hPi : (a : Int) * b = P := by rw [hP]; exact (Int.natCast_mul a b).symm
          have KP := Lib.hid hP.symm
          clear hP
          obtain ⟨D, hD⟩ : ∃ D, D = (c + (P + X)) % 4294967296 := ⟨_, rfl⟩
          obtain ⟨E, hE⟩ : ∃ E, E = (c + (P + X)) / 4294967296 := ⟨_, rfl⟩
          have hDi : ((c : Int) + (P + X)) % 4294967296 = D := by omega
          have hEi : ((c : Int) + (P + X)) / 4294967296 = E := by omega
          have hEl : E < 4294967296 := by omega
          have KD := Lib.hid hD.symm
          have KE := Lib.hid hE.symm
          clear hD hE
          go_wp2
          go_roundw
          case rel => exact ⟨j + 1, E, qs.set (k + j) D, by omega, by go_num, by go_num, hEl, Lib.hid (hF.out.next (by omega) hyl ha HY.out (by rw [← KB.out]; exact KP.out) KX.out KD.out KE.out), hQ.set _ _, hbel2.setCell (Nat.le_refl _) _⟩
          case measure => simp [intOf]; omega
        · obtain rfl : n = j := by omega
          have hql : k + n < qs.length := by
            rw [hF.out.1]
            omega
          have hcellq := hQ.at hql
          have hfree := hQ.free (k + n)
          go_wp2
          go_roundw
          case rel => exact ⟨k + 1, qs.set (k + n) c, by omega, by go_num, Lib.hid (hF.out.last hR.out l2.out hxl KA.out (by omega)), hQ.set _ _, hbel2.setCell (Nat.le_refl _) _⟩
          case measure => simp [intOf]; omega
    · obtain rfl : m = k := by omega
      go_wp2
      go_ret
      refine ⟨rfl, zs, hR.out.1, hR.out.2.1, ?_, hN, hbel⟩
      have h3 := hR.out.2.2
      rwa [List.take_of_length_le (by rw [hR.out.1]; exact Nat.le_refl _), List.take_of_length_le (by rw [l1.out]; exact Nat.le_refl _)] at h3
theorem times_any (A1 A2 : Option Addr) (xs ys : List Nat) (c1 c2 : Nat) (w : World) (h1 : Lim .u32 w.heap.size w A1 xs) (h2 : Lim .u32 w.heap.size w A2 ys) (hx : Low 4294967296 xs) (hy : Low 4294967296 ys)
    (hm : xs.length ≤ 1000000) (hl : ys.length ≤ 1000000) :
    Calls Tryd.prog 61 #[.slice A1 xs.length c1, .slice A2 ys.length c2] w fun e w' => e = .returned (.slice (some ⟨w.heap.size, 0, none⟩) (xs.length + ys.length) (xs.length + ys.length)) ∧ Made w w' (xs.length + ys.length) (val 4294967296 xs * val 4294967296 ys) :=
  times_at A1 A2 xs ys c1 c2 _ _ w h1 h2 hx hy (Lib.hid rfl) (Lib.hid rfl) hm hl
end Go.Proofs.YtocoflojlliapaaDoor
