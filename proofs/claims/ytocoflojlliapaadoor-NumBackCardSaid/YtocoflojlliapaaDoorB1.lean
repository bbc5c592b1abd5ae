import Derived.Test.YtocoflojlliapaaDoorA
import Derived.WalkKit
import Derived.Handy
import Derived.OneCell
import Derived.Outline
import Derived.Lib.Hide
import Derived.BigQuiet
import Derived.StillTailTactics
set_option linter.unusedVariables false
namespace Go.Proofs.YtocoflojlliapaaDoor
open Go.RowKit
theorem drew2 (w : World) (a b : Nat) : ∃ m, (w.drewN a).drewN b = w.drewN m := ⟨a + b, by rw [World.drewN_drewN]⟩
theorem drew3 (w : World) (a b c : Nat) : ∃ m, ((w.drewN a).drewN b).drewN c = w.drewN m := ⟨a + b + c, by simp [World.drewN_drewN, Nat.add_assoc]⟩
theorem drop_more {xs ys : List Nat} {p : Nat} (hp : p < xs.length) (hq : p < ys.length) (hd : xs.drop (p + 1) = ys.drop (p + 1)) (he : xs[p] = ys[p]) : xs.drop p = ys.drop p := by
  rw [List.drop_eq_getElem_cons hp, List.drop_eq_getElem_cons hq, hd, he]
set_option maxHeartbeats 800000 in
theorem compare_same (A1 A2 : Option Addr) (xs ys : List Nat) (n c1 c2 : Nat) (B : Nat) (w : World) (h1 : Lim .u32 B w A1 xs) (h2 : Lim .u32 B w A2 ys) (hx : Low 4294967296 xs) (hy : Low 4294967296 ys)
    (hn1 : xs.length = n) (hn2 : ys.length = n) (hl : n ≤ 140737488355328) :
    Calls Tryd.prog 57 #[.slice A1 n c1, .slice A2 n c2] w fun e w' => e = .returned (.int .i64 (cmpN (val 4294967296 xs) (val 4294967296 ys))) ∧ ∃ m, w' = w.drewN m := by
  have N1 := Lib.hid hn1
  have N2 := Lib.hid hn2
  clear hn1 hn2
  have HX := Lib.hid hx
  have HY := Lib.hid hy
  clear hx hy
  go_enter Tryd.func57, Tryd.ntmps57
  go_wp2
  go_loopw [21] (fun i wr => ∃ k m : Nat, k ≤ n ∧ i = .int .i64 k ∧ Hid (xs.drop (n - k) = ys.drop (n - k)) ∧ wr = w.drewN m) (fun i _ => n - (intOf i).toNat)
  case atStart => exact ⟨0, 0, Nat.zero_le _, rfl, Lib.hid (by rw [Nat.sub_zero, List.drop_of_length_le (by rw [N1.out]; exact Nat.le_refl _), List.drop_of_length_le (by rw [N2.out]; exact Nat.le_refl _)]), rfl⟩
  case round =>
    obtain ⟨k, m, hk, rfl, hd, rfl⟩ := hrel
    by_cases hlt : k < n
    · have p1 : n - 1 - k < xs.length := by have := N1.out; omega
      have p2 : n - 1 - k < ys.length := by have := N2.out; omega
      obtain ⟨a1, rfl, _, cell1⟩ := h1.at p1
      obtain ⟨a2, rfl, _, cell2⟩ := h2.at p2
      have he : (n : Int) - 1 - k = ((n - 1 - k : Nat) : Int) := by omega
      have HP : Hid (n - 1 - k + 1 = n - k) := Lib.hid (by omega)
      have HK : Hid (n - (k + 1) = n - 1 - k) := Lib.hid (by omega)
      have HD : Hid (xs.drop (n - 1 - k + 1) = ys.drop (n - 1 - k + 1)) := Lib.hid (by rw [HP.out]; exact hd.out)
      clear hd
      have hpn : n - 1 - k < n := by omega
      obtain ⟨X, hX⟩ : ∃ X, X = xs[n - 1 - k] := ⟨_, rfl⟩
      obtain ⟨Y, hY⟩ : ∃ Y, Y = ys[n - 1 - k] := ⟨_, rfl⟩
      rw [← hX] at cell1
      rw [← hY] at cell2
      have KX := Lib.hid hX
      have KY := Lib.hid hY
      clear hX hY
      generalize hp : n - 1 - k = p at *
      have KP := Lib.hid hp
      clear hp
      by_cases hxy : X < Y
      · have F : Hid (cmpN (val 4294967296 xs) (val 4294967296 ys) = -1) := Lib.hid (cmpN_lt (val_cmp (by decide) HX.out HY.out (by rw [N1.out, N2.out]) p1 HD.out (by rw [← KX.out, ← KY.out]; exact hxy)))
        go_wp2
        go_quiet (fail)
        go_wp2
        go_ret
        rw [F.out]
        exact ⟨rfl, drew2 _ _ _⟩
      · by_cases hyx : Y < X
        · have F : Hid (cmpN (val 4294967296 xs) (val 4294967296 ys) = 1) := Lib.hid (cmpN_gt (val_cmp (by decide) HY.out HX.out (by rw [N1.out, N2.out]) p2 HD.out.symm (by rw [← KX.out, ← KY.out]; exact hyx)))
          go_wp2
          go_quiet (fail)
          go_wp2
          go_quiet (fail)
          go_wp2
          go_ret
          rw [F.out]
          exact ⟨rfl, drew3 _ _ _ _⟩
        · have HE : Hid (xs.drop p = ys.drop p) := Lib.hid (drop_more p1 p2 HD.out (by rw [← KX.out, ← KY.out]; omega))
          go_wp2
          go_quiet (fail)
          go_wp2
          go_quiet (fail)
          go_wp2
          go_roundw
          case rel => exact ⟨k + 1, _, by omega, by go_num, Lib.hid (by rw [HK.out]; exact HE.out), rfl⟩
          case measure => simp [intOf]; omega
    · have HF : Hid (cmpN (val 4294967296 xs) (val 4294967296 ys) = 0) := Lib.hid (by
        have := hd.out
        rw [show n - k = 0 by omega] at this
        simp only [List.drop_zero] at this
        rw [this]
        exact cmpN_self _)
      clear hd
      go_wp2
      go_ret
      rw [HF.out]
      exact ⟨rfl, _, rfl⟩
theorem compare_less (A1 A2 : Option Addr) (n1 n2 c1 c2 : Nat) (w : World) (h : n1 < n2) (hl : n2 ≤ 140737488355328) :
    Calls Tryd.prog 57 #[.slice A1 n1 c1, .slice A2 n2 c2] w fun e w' => e = .returned (.int .i64 (-1)) ∧ w = w' := by
  go_enter Tryd.func57, Tryd.ntmps57
  go_wp2
  go_ret
  exact ⟨rfl, rfl⟩
theorem compare_more (A1 A2 : Option Addr) (n1 n2 c1 c2 : Nat) (w : World) (h : n2 < n1) (hl : n1 ≤ 140737488355328) :
    Calls Tryd.prog 57 #[.slice A1 n1 c1, .slice A2 n2 c2] w fun e w' => e = .returned (.int .i64 1) ∧ w = w' := by
  go_enter Tryd.func57, Tryd.ntmps57
  go_wp2
  go_ret
  exact ⟨rfl, rfl⟩
/-- two magnitudes, trimmed, compared -/
theorem compare_any (A1 A2 : Option Addr) (a b c1 c2 : Nat) (B : Nat) (w : World) (h1 : Lim .u32 B w A1 (digs 4294967296 a)) (h2 : Lim .u32 B w A2 (digs 4294967296 b))
    (l1 : (digs 4294967296 a).length ≤ 140737488355328) (l2 : (digs 4294967296 b).length ≤ 140737488355328) :
    Calls Tryd.prog 57 #[.slice A1 (digs 4294967296 a).length c1, .slice A2 (digs 4294967296 b).length c2] w fun e w' => e = .returned (.int .i64 (cmpN a b)) ∧ ∃ m, w' = w.drewN m := by
  rcases Nat.lt_trichotomy (digs 4294967296 a).length (digs 4294967296 b).length with h | h | h
  · rw [cmpN_lt (len_lt_val (by decide) h)]
    exact (compare_less _ _ _ _ _ _ _ h l2).mono fun _ _ ⟨he, hw⟩ => ⟨he, 0, by rw [World.drewN_zero]; exact hw.symm⟩
  · have := compare_same A1 A2 _ _ (digs 4294967296 a).length c1 c2 B w h1 h2 (digs_low (by decide) a) (digs_low (by decide) b) rfl h.symm l1
    rw [digs_val (by decide), digs_val (by decide), ] at this
    rw [← h]
    exact this
  · rw [cmpN_gt (len_lt_val (by decide) h)]
    exact (compare_more _ _ _ _ _ _ _ h l1).mono fun _ _ ⟨he, hw⟩ => ⟨he, 0, by rw [World.drewN_zero]; exact hw.symm⟩
end Go.Proofs.YtocoflojlliapaaDoor
