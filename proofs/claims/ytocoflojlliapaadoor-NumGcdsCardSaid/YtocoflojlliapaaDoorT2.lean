/- What the laws over two numbers share. -/
import Derived.Test.YtocoflojlliapaaDoorT1
set_option linter.unusedVariables false
namespace Go.Proofs.YtocoflojlliapaaDoor
open Go.RowKit
theorem add_f {na nb : Bool} {A1 A2 : Option Addr} {n1 c1 n2 c2 : Nat} {x y : Int} (w : World) (h1 : NumAt w na A1 n1 c1 x) (h2 : NumAt w nb A2 n2 c2 y) (l1 : n1 ≤ 1000) (l2 : n2 ≤ 1000) :
    Calls Tryd.prog 35 #[.agg #[.bool na, .slice A1 n1 c1], .agg #[.bool nb, .slice A2 n2 c2]] w fun e w' => TellsF w w' e (x + y) := (add_at w h1 h2 l1 l2).mono fun e w' h => h.tellsF
theorem sub_f {na nb : Bool} {A1 A2 : Option Addr} {n1 c1 n2 c2 : Nat} {x y : Int} (w : World) (h1 : NumAt w na A1 n1 c1 x) (h2 : NumAt w nb A2 n2 c2 y) (l1 : n1 ≤ 1000) (l2 : n2 ≤ 1000) :
    Calls Tryd.prog 36 #[.agg #[.bool na, .slice A1 n1 c1], .agg #[.bool nb, .slice A2 n2 c2]] w fun e w' => TellsF w w' e (x - y) := (sub_at w h1 h2 l1 l2).mono fun e w' h => h.tellsF
theorem mul_f {na nb : Bool} {A1 A2 : Option Addr} {n1 c1 n2 c2 : Nat} {x y : Int} (w : World) (h1 : NumAt w na A1 n1 c1 x) (h2 : NumAt w nb A2 n2 c2 y) (l1 : n1 ≤ 1000) (l2 : n2 ≤ 1000) :
    Calls Tryd.prog 38 #[.agg #[.bool na, .slice A1 n1 c1], .agg #[.bool nb, .slice A2 n2 c2]] w fun e w' => TellsF w w' e (x * y) := (mul_at w h1 h2 l1 l2).mono fun e w' h => h.tellsF
theorem TellsF.opened {w w' : World} {e : Ending} {z : Int} (h : TellsF w w' e z) : ∃ r A m c, e = .returned (.tuple #[.agg #[.bool r, .slice A m c], .int .i64 (resV z)]) ∧ Can w' r A m c (resZ z) ∧ Room w' w.heap.size w'.heap.size A m ∧ m ≤ 48 ∧ Below w.heap.size w w' := by
  obtain ⟨r, A, m, c, rfl, rfl, rfl, hm, hf⟩ := h
  exact ⟨_, A, _, c, rfl, ⟨rfl, rfl, hm, (Mag.of_fresh hf).1⟩, Room.of_fresh hf, hm, hf.2⟩
theorem Limbs.dl {w : World} {r : Bool} {A : Option Addr} {n c : Nat} {xs : List Nat} {z : Int} (h : Limbs w A n c xs) (hz : sg r (val 4294967296 xs) = z) : dl z.natAbs ≤ n := by
  rw [← sg_abs hz]
  unfold Go.Proofs.YtocoflojlliapaaDoor.dl
  rw [digs_of (by decide) h.2.1, ← h.2.2.1]
  exact trimL_len xs
theorem bl_of_dl {N m k : Nat} (h : dl N ≤ m) (hk : k = 32 * m) : bl N ≤ k := (bl_dl N m k hk).2 h
theorem dl_mul2 {a b m n : Nat} (h1 : dl a ≤ m) (h2 : dl b ≤ n) : dl (a * b) ≤ m + n := by
  rw [dl_le] at h1 h2 ⊢
  rw [Nat.pow_add]
  exact Nat.mul_lt_mul'' h1 h2
theorem dl_add2 {a b m : Nat} (h1 : dl a ≤ m) (h2 : dl b ≤ m) : dl (a + b) ≤ m + 1 := by
  rw [dl_le] at h1 h2 ⊢
  rw [Nat.pow_succ]
  omega
theorem BVal.drew {w : World} {r : Bool} {B : Option Addr} {m d : Nat} {z : Int} (h : BVal w r B m d z) : BVal w.drew r B m d z := h
/-- a value, and a bound of its length -/
def BV (k : Nat) (w : World) (r : Bool) (B : Option Addr) (m d : Nat) (z : Int) : Prop := BVal w r B m d z ∧ m ≤ k
theorem BV.below {k : Nat} {w w' : World} {r : Bool} {B : Option Addr} {m d : Nat} {z : Int} (h : BV k w r B m d z) (hb : Below w.heap.size w w') : BV k w' r B m d z := ⟨h.1.below hb, h.2⟩
theorem BV.drew {k : Nat} {w : World} {r : Bool} {B : Option Addr} {m d : Nat} {z : Int} (h : BV k w r B m d z) : BV k w.drew r B m d z := h
theorem refval_bv {r : Bool} {A : Option Addr} {n c : Nat} {xs : List Nat} {z : Int} (w : World) (h : Limbs w A n c xs) (hz : sg r (val 4294967296 xs) = z) (hl : n ≤ 60) :
    Calls Tryd.prog 20 #[.agg #[.bool r, .slice A n c]] w fun e w' => ∃ r' B m d, e = .returned (.agg #[.bool r', .slice B m d]) ∧ BV 1920 w' r' B m d z ∧ Below w.heap.size w w' := by
  refine (refval_row w h hz (by omega)).mono fun e w' hq => ?_
  obtain ⟨r', B, m, d, he, hb, hw⟩ := hq
  exact ⟨r', B, m, d, he, ⟨hb, by rw [hb.2.1]; exact bl_of_dl (Nat.le_trans (h.dl hz) hl) rfl⟩, hw⟩
end Go.Proofs.YtocoflojlliapaaDoor
