import Derived.Test.YtocoflojlliapaaDoorC5
import Derived.Test.YtocoflojlliapaaDoorE2
set_option linter.unusedVariables false
namespace Go.Proofs.YtocoflojlliapaaDoor
open Go.RowKit
/-- a quotient and what is left, trimmed -/
def DivPost (w : World) (a b : Nat) (e : Ending) (w' : World) : Prop := ∃ A1 c1 A2 c2, e = .returned (.tuple #[.slice A1 (dl (a / b)) c1, .slice A2 (dl (a % b)) c2]) ∧ Mag w' A1 (dl (a / b)) c1 (a / b) ∧ Mag w' A2 (dl (a % b)) c2 (a % b) ∧ Below w.heap.size w w'
/-- what divideLong answers -/
def LongSaid (a b : Nat) : Prop := ∀ (A1 A2 : Option Addr) (c1 c2 : Nat) (w : World), Mag w A1 (dl a) c1 a → Mag w A2 (dl b) c2 b → Calls Tryd.prog 81 #[.slice A1 (dl a) c1, .slice A2 (dl b) c2] w (DivPost w a b)
def DivSaid (a b : Nat) : Prop := ∀ (A1 A2 : Option Addr) (c1 c2 : Nat) (w : World), Mag w A1 (dl a) c1 a → Mag w A2 (dl b) c2 b → Calls Tryd.prog 62 #[.slice A1 (dl a) c1, .slice A2 (dl b) c2] w (DivPost w a b)
set_option maxHeartbeats 1600000 in
theorem divide_less (a b : Nat) (hab : a < b) (l1 : dl a ≤ 1000) (l2 : dl b ≤ 1000) : DivSaid a b := by
  intro A1 A2 c1 c2 w h1 h2
  have F : Hid (cmpN a b = -1) := Lib.hid (cmpN_lt hab)
  have HC := fun w h1 h2 => Lib.hid (compare_mag A1 A2 c1 c2 a b w h1 h2 (by omega) (by omega))
  rw [F.out] at HC
  have hq : Hid (a / b = 0) := Lib.hid (Nat.div_eq_of_lt hab)
  have hr : Hid (a % b = a) := Lib.hid (Nat.mod_eq_of_lt hab)
  clear hab
  go_enter Tryd.func62, Tryd.ntmps62
  go_wp2_with (go_at_call 57; refine ((HC _ h1 h2).out).mono ?_; rintro e w' ⟨rfl, m, rfl⟩)
  go_ret2
  unfold DivPost
  rw [hq.out, hr.out]
  exact ⟨none, 0, A1, c1, rfl, Mag.none_ _, h1.drewN m, below_drewN (Below.refl _ _) m⟩
set_option maxHeartbeats 1600000 in
theorem divide_limb (a b : Nat) (hab : b ≤ a) (hb : b ≠ 0) (l1 : dl a ≤ 1000) (l2 : dl b = 1) : DivSaid a b := by
  intro A1 A2 c1 c2 w h1 h2
  have HC := fun w h1 h2 => Lib.hid (compare_mag A1 A2 c1 c2 a b w h1 h2 (by omega) (by omega))
  have hc0 : 0 ≤ cmpN a b := by
    rcases Nat.lt_or_ge b a with h | h
    · rw [cmpN_gt h]; decide
    · have : a = b := by omega
      subst this
      rw [cmpN_self]
      exact Int.le_refl 0
  have hb1 : b < 4294967296 := by
    have := (dl_le b 1).1 (by omega)
    simpa using this
  have hd : digs 4294967296 b = [b] := by
    rw [digs_pos (by decide) hb, Nat.mod_eq_of_lt hb1, Nat.div_eq_of_lt hb1]
    rfl
  have hlist := h2.list
  rw [hd] at hlist
  obtain ⟨ad, rfl, _, hcell⟩ := hlist.at (i := 0) (by simp)
  have e0 : ad.add 0 = ad := by simp [Addr.add]
  rw [e0] at hcell
  simp only [List.getElem_cons_zero] at hcell
  have h2' := h2
  rw [l2] at HC h2 ⊢
  clear h2'
  have HCC := fun (w : World) h1 h2 => (HC w h1 h2)
  have hbl := fun w h => Lib.hid (byLimb_mag A1 (dl a) c1 a b w h (by omega) (by omega) hb1)
  have hmod : a % b < 4294967296 := Nat.lt_trans (Nat.mod_lt _ (by omega)) hb1
  have L2 := Lib.hid l2
  clear l2 hd e0 hlist
  obtain ⟨R, hR⟩ : ∃ R, R = a % b := ⟨_, rfl⟩
  rw [← hR] at hmod
  have hbl2 : ∀ (w : World), Mag w A1 (dl a) c1 a → Hid (Calls Tryd.prog 66 #[.slice A1 (dl a) c1, .int .u32 b] w fun e w' => e = .returned (.tuple #[.slice (some ⟨w.heap.size, 0, none⟩) (dl (a / b)) (dl a), .int .u32 (R : Nat)]) ∧ Mag w' (some ⟨w.heap.size, 0, none⟩) (dl (a / b)) (dl a) (a / b) ∧ Below w.heap.size w w') := fun w h => by rw [hR]; exact hbl w h
  have KR := Lib.hid hR
  clear hR hbl HC
  go_enter Tryd.func62, Tryd.ntmps62
  go_wp2_with (first
    | (go_at_call 57; refine ((HCC _ h1 h2).out).mono ?_; rintro e w' ⟨rfl, m, rfl⟩)
    | (go_at_call 66; refine ((hbl2 _ (h1.drewN m)).out).mono ?_; rintro e w1 ⟨rfl, hm1, hb1⟩)
    | (go_at_call 54; refine (trim_mag _ 1 1 R _ (Mag.one w1 R hmod) (by omega)).mono ?_; rintro e w2 ⟨rfl, rfl⟩))
  go_ret2
  unfold DivPost
  rw [← KR.out]
  exact ⟨_, _, _, _, rfl, (hm1.alloc _), (Mag.one w1 R hmod).trim, below_al (below_then (below_drewN (Below.refl _ _) m) hb1) _⟩
set_option maxHeartbeats 1600000 in
theorem divide_long (a b : Nat) (hab : b ≤ a) (l1 : dl a ≤ 1000) (l2 : 2 ≤ dl b) (hL : LongSaid a b) : DivSaid a b := by
  intro A1 A2 c1 c2 w h1 h2
  have l3 : dl b ≤ dl a := dl_mono hab
  have HC := fun w h1 h2 => Lib.hid (compare_mag A1 A2 c1 c2 a b w h1 h2 (by omega) (by omega))
  have hc0 : 0 ≤ cmpN a b := by
    rcases Nat.lt_or_ge b a with h | h
    · rw [cmpN_gt h]; decide
    · have : a = b := by omega
      subst this
      rw [cmpN_self]
      exact Int.le_refl 0
  have hne : ((dl b : Int) == 1) = false := beq_eq_false_iff_ne.2 (by omega)
  have HL := fun w h1 h2 => Lib.hid (hL A1 A2 c1 c2 w h1 h2)
  clear hL
  go_enter Tryd.func62, Tryd.ntmps62
  go_wp2_with (first
    | (go_at_call 57; refine ((HC _ h1 h2).out).mono ?_; rintro e w' ⟨rfl, m, rfl⟩)
    | (go_at_call 81; refine ((HL _ (h1.drewN m) (h2.drewN m)).out).mono ?_; rintro e w1 ⟨B1, d1, B2, d2, rfl, hm1, hm2, hb1⟩))
  go_ret2
  exact ⟨B1, d1, B2, d2, rfl, hm1, hm2, below_then (below_drewN (Below.refl _ _) m) hb1⟩
end Go.Proofs.YtocoflojlliapaaDoor
