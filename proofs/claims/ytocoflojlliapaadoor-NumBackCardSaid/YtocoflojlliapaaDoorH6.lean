import Derived.Test.YtocoflojlliapaaDoorH5
import Derived.Test.YtocoflojlliapaaDoorR3
set_option linter.unusedVariables false
namespace Go.Proofs.YtocoflojlliapaaDoor
open Go.RowKit
/-- the number at A is the one of the value z that may be -/
def Can (w : World) (r : Bool) (A : Option Addr) (m c : Nat) (z : Int) : Prop := r = decide (z < 0) ∧ m = dl z.natAbs ∧ m ≤ 48 ∧ Mag w A m c z.natAbs
section
variable {w w' V V' : World} {r r1 r2 R : Bool} {A A1 A2 : Option Addr} {m m1 m2 c c1 c2 N : Nat} {x y z : Int} {e : Ending}
theorem Can.below (h : Can w r A m c z) (hb : Below w.heap.size w w') : Can w' r A m c z := ⟨h.1, h.2.1, h.2.2.1, h.2.2.2.below hb⟩
theorem Can.le (h : Can w r A m c z) : m ≤ 48 := h.2.2.1
theorem Can.at (h : Can w r A m c z) : NumAt w r A m c z := by
  obtain ⟨h1, h2, h3, h4⟩ := h
  refine ⟨z.natAbs, h4, ?_⟩
  subst h1
  by_cases hz : z < 0
  · rw [decide_eq_true hz, sg_true]; omega
  · rw [decide_eq_false hz, sg_false]; omega
theorem signB_sg (h : sg R N = z) : signB R N = decide (z < 0) := by
  by_cases h0 : N = 0
  · subst h0
    rw [sg_zero] at h
    subst h
    rw [signB_zero]; rfl
  · rw [signB_pos R h0]
    cases R
    · rw [sg_false] at h; subst h
      symm; apply decide_eq_false; omega
    · rw [sg_true] at h; subst h
      symm; apply decide_eq_true; omega
def resV (z : Int) : Int := if dl z.natAbs ≤ 48 then 0 else 6
def resZ (z : Int) : Int := if dl z.natAbs ≤ 48 then z else 0
theorem resV_yes (h : dl z.natAbs ≤ 48) : resV z = 0 := if_pos h
theorem resV_no (h : ¬ dl z.natAbs ≤ 48) : resV z = 6 := if_neg h
theorem resZ_yes (h : dl z.natAbs ≤ 48) : resZ z = z := if_pos h
theorem resZ_no (h : ¬ dl z.natAbs ≤ 48) : resZ z = 0 := if_neg h
theorem can_nil (w : World) : Can w false none 0 0 0 := ⟨rfl, rfl, by omega, Mag.none_ w⟩
/-- what a call answers, in one word -/
def Tells (w w' : World) (e : Ending) (z : Int) : Prop := ∃ r A m c, e = .returned (.tuple #[.agg #[.bool r, .slice A m c], .int .i64 (resV z)]) ∧ Can w' r A m c (resZ z) ∧ Below w.heap.size w w'
theorem Gives.tells (h : Gives w w' e z) : Tells w w' e z := by
  obtain ⟨R, N, hs, hz⟩ := h
  have hN := sg_abs hz
  by_cases hf : dl z.natAbs ≤ 48
  · obtain ⟨A, c, rfl, hfr⟩ := hs.yes (hN ▸ hf)
    refine ⟨_, A, _, c, by rw [resV_yes hf], ?_, hfr.2⟩
    rw [resZ_yes hf]
    exact ⟨signB_sg hz, by rw [hN], by rw [hN]; exact hf, hN ▸ (Mag.of_fresh hfr).1⟩
  · obtain ⟨rfl, hb⟩ := hs.no (by rw [hN]; omega)
    refine ⟨false, none, 0, 0, by rw [resV_no hf], ?_, hb⟩
    rw [resZ_no hf]
    exact can_nil _
theorem add_can (h1 : Can w r1 A1 m1 c1 x) (h2 : Can w r2 A2 m2 c2 y) :
    Calls Tryd.prog 35 #[.agg #[.bool r1, .slice A1 m1 c1], .agg #[.bool r2, .slice A2 m2 c2]] w fun e w' => Tells w w' e (x + y) :=
  (add_at w h1.at h2.at (by have := h1.le; omega) (by have := h2.le; omega)).mono fun e w' h => h.tells
theorem sub_can (h1 : Can w r1 A1 m1 c1 x) (h2 : Can w r2 A2 m2 c2 y) :
    Calls Tryd.prog 36 #[.agg #[.bool r1, .slice A1 m1 c1], .agg #[.bool r2, .slice A2 m2 c2]] w fun e w' => Tells w w' e (x - y) :=
  (sub_at w h1.at h2.at (by have := h1.le; omega) (by have := h2.le; omega)).mono fun e w' h => h.tells
theorem mul_can (h1 : Can w r1 A1 m1 c1 x) (h2 : Can w r2 A2 m2 c2 y) :
    Calls Tryd.prog 38 #[.agg #[.bool r1, .slice A1 m1 c1], .agg #[.bool r2, .slice A2 m2 c2]] w fun e w' => Tells w w' e (x * y) :=
  (mul_at w h1.at h2.at (by have := h1.le; omega) (by have := h2.le; omega)).mono fun e w' h => h.tells
theorem same_can (h1 : Can w r1 A1 m1 c1 x) (h2 : Can w r2 A2 m2 c2 x) :
    Calls Tryd.prog 33 #[.agg #[.bool r1, .slice A1 m1 c1], .agg #[.bool r2, .slice A2 m2 c2]] w fun e w' => e = .returned (.bool true) ∧ Below w.heap.size w w' := by
  obtain ⟨rfl, rfl, hl, hm⟩ := h1
  obtain ⟨rfl, rfl, _, hm2⟩ := h2
  exact same_yes _ A1 A2 (digs 4294967296 x.natAbs) (dl x.natAbs) c1 c2 w hm.list hm2.list (Lib.hid rfl) (by omega)
/-! ### what stays while the boxes of the three arguments are written -/
def Agr (g : Nat) (V V' : World) : Prop := V.heap.size ≤ V'.heap.size ∧ ∀ p : Addr, p.block < V.heap.size → (p.block < g ∨ g + 3 ≤ p.block) → V'.cell? p = V.cell? p
theorem Agr.of_below {g : Nat} (h : Below V.heap.size V V') : Agr g V V' := ⟨h.size, fun p hp _ => h.cell hp⟩
theorem Agr.trans {g : Nat} {V'' : World} (h : Agr g V V') (k : Agr g V' V'') : Agr g V V'' := ⟨Nat.le_trans h.1 k.1, fun p hp hg => (k.2 p (Nat.lt_of_lt_of_le hp h.1) hg).trans (h.2 p hp hg)⟩
theorem Agr.set2 {g b : Nat} (V : World) (u v : Value) (h1 : g ≤ b) (h2 : b < g + 3) : Agr g V ((V.setCell ⟨b, 0, none⟩ u).setCell ⟨b, 1, none⟩ v) := by
  refine ⟨by simp, fun p hp hg => ?_⟩
  rw [World.cell?_setCell_other _ _ _ _ (fun e => by subst e; simp at hg; omega), World.cell?_setCell_other _ _ _ _ (fun e => by subst e; simp at hg; omega)]
def Firm (Q : World → Prop) (g : Nat) (V : World) : Prop := ∀ V', Agr g V V' → Q V'
theorem Firm.step {Q : World → Prop} {g : Nat} (h : Firm Q g V) (k : Agr g V V') : Firm Q g V' := fun V'' k' => h V'' (k.trans k')
theorem Firm.out {Q : World → Prop} {g : Nat} (h : Firm Q g V) : Q V := h V ⟨Nat.le_refl _, fun _ _ _ => rfl⟩
theorem firm_old (h : NumAt w r A m c z) : Firm (fun V => NumAt V r A m c z) w.heap.size w := by
  intro V' hk
  obtain ⟨M, ⟨xs, h1, h2, h3, h4, h5⟩, hs⟩ := h
  exact ⟨M, ⟨xs, (h1.keep fun p hp => hk.2 p hp (Or.inl hp)).more hk.1, h2, h3, h4, h5⟩, hs⟩
theorem firm_new {g : Nat} (h : Fresh w w' A c z.natAbs) (hg : g + 3 ≤ w.heap.size) (hf : dl z.natAbs ≤ 48) : Firm (fun V => Can V (decide (z < 0)) A (dl z.natAbs) c z) g w' := by
  intro V' hk
  refine ⟨rfl, rfl, hf, digs 4294967296 z.natAbs, ?_, digs_low (by decide) _, rfl, digs_val (by decide) _, own_cap h.1⟩
  have hl := Lim.of_own h.1
  intro h0
  obtain ⟨ad, e1, hb, hc⟩ := hl h0
  subst e1
  have hge : w.heap.size ≤ ad.block := own_ge h.1 ad.block rfl
  exact ⟨ad, rfl, Nat.lt_of_lt_of_le hb hk.1, fun i hi => (hk.2 _ (by rw [add_block]; exact hb) (Or.inr (by rw [add_block]; omega))).trans (hc i hi)⟩
end
theorem Two.far2 {w : World} {g b : Nat} {t : TypeId} {u v u' v' : Value} (h : Two w g t u v) (hg : g ≠ b) : Two ((w.setCell ⟨b, 0, none⟩ u').setCell ⟨b, 1, none⟩ v') g t u v := by
  have e1 : (w.setCell ⟨b, 0, none⟩ u').heap[g]? = w.heap[g]? := Below.heap_setCell w ⟨b, 0, none⟩ u' g hg
  have e2 := Below.heap_setCell (w.setCell ⟨b, 0, none⟩ u') ⟨b, 1, none⟩ v' g hg
  exact e2.trans (e1.trans h)
end Go.Proofs.YtocoflojlliapaaDoor
