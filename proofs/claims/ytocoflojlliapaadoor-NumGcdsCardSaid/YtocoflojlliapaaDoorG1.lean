/- The greatest magnitude that divides two. -/
import Derived.Test.YtocoflojlliapaaDoorY3
set_option linter.unusedVariables false
namespace Go.Proofs.YtocoflojlliapaaDoor
open Go.RowKit
theorem gcd_step {m k : Nat} : Nat.gcd k (m % k) = Nat.gcd m k := by
  rw [Nat.gcd_comm k (m % k), ← Nat.gcd_rec, Nat.gcd_comm]
set_option maxHeartbeats 1600000 in
theorem common_at (A1 A2 : Option Addr) (c1 c2 a b : Nat) (w : World) (h1 : Mag w A1 (dl a) c1 a) (h2 : Mag w A2 (dl b) c2 b) (la : dl a ≤ 1000) (lb : dl b ≤ 1000) :
    Calls Tryd.prog 65 #[.slice A1 (dl a) c1, .slice A2 (dl b) c2] w fun e w' => ∃ B d, e = .returned (.slice B (dl (Nat.gcd a b)) d) ∧ Mag w' B (dl (Nat.gcd a b)) d (Nat.gcd a b) ∧ Below w.heap.size w w' := by
  obtain ⟨G, hG⟩ : ∃ G, Nat.gcd a b = G := ⟨_, rfl⟩
  obtain ⟨na, hna⟩ : ∃ n, dl a = n := ⟨_, rfl⟩
  obtain ⟨nb, hnb⟩ : ∃ n, dl b = n := ⟨_, rfl⟩
  rw [hG]
  rw [hna] at h1 la ⊢
  rw [hnb] at h2 lb ⊢
  have HG := Lib.hid (And.intro hna (And.intro hnb hG))
  clear hG hna hnb
  go_enter Tryd.func65, Tryd.ntmps65
  go_wp2
  go_loopg [0, 1] b (fun k xv yv wr => ∃ (m n n2 : Nat) (A : Option Addr) (c : Nat) (B : Option Addr) (d : Nat), xv = .slice A n c ∧ yv = .slice B n2 d ∧ Hid (dl m = n ∧ dl k = n2 ∧ Nat.gcd m k = G) ∧ n ≤ 1000 ∧ n2 ≤ 1000 ∧ Mag wr A n c m ∧ Mag wr B n2 d k ∧ Below w.heap.size w wr)
  case atStart => exact ⟨a, na, nb, A1, c1, A2, c2, rfl, rfl, HG, la, lb, h1, h2, Below.refl _ _⟩
  case round =>
    obtain ⟨m, n, n2, A, c, B, d, rfl, rfl, HP, hn, hn2, hm1, hm2, hbel⟩ := hrel
    by_cases hk : gk = 0
    · have hz : n2 = 0 := by rw [← HP.out.2.1, hk]; exact dl_zero
      have HE : Hid (m = G) := Lib.hid (by have := HP.out.2.2; rw [hk, Nat.gcd_zero_right] at this; exact this)
      subst hz
      clear hk
      go_wp2
      go_ret
      rw [← HE.out, HP.out.1]
      exact ⟨A, c, rfl, hm1, hbel⟩
    · have hp : 0 < n2 := by rw [← HP.out.2.1]; exact dl_pos hk
      have hlt : gk ≠ 0 → m % gk < gk := fun h => Nat.mod_lt _ (by omega)
      obtain ⟨r, hr⟩ : ∃ r, m % gk = r := ⟨_, rfl⟩
      obtain ⟨nr, hnr⟩ : ∃ nr, dl r = nr := ⟨_, rfl⟩
      have HR : Hid (dl gk = n2 ∧ dl r = nr ∧ Nat.gcd gk r = G) := Lib.hid ⟨HP.out.2.1, hnr, by rw [← hr, gcd_step]; exact HP.out.2.2⟩
      have HM : Hid (r < gk) := Lib.hid (by rw [← hr]; exact hlt hk)
      have hnr2 : nr ≤ 1000 := by
        have h := HP.out.2.1
        rw [← hnr]
        exact Nat.le_trans (dl_mono (Nat.le_of_lt HM.out)) (by omega)
      have DV : ∀ X, Below wr.heap.size wr X → Hid (Calls Tryd.prog 62 #[.slice A n c, .slice B n2 d] X fun e w' => ∃ B1 q d1 B2 d2, e = .returned (.tuple #[.slice B1 q d1, .slice B2 nr d2]) ∧ Mag w' B2 nr d2 r ∧ Below wr.heap.size wr w') := fun X hb => Lib.hid (by
        have DD := div_said m gk hk (by rw [HP.out.1]; exact hn) (by rw [HP.out.2.1]; exact hn2) A B c d X
        unfold DivPost at DD
        rw [HP.out.1, HP.out.2.1, hr, hnr] at DD
        refine (DD (hm1.below hb) (hm2.below hb)).mono fun e w' hq => ?_
        obtain ⟨B1, d1, B2, d2, he, p1, p2, p3⟩ := hq
        exact ⟨B1, _, d1, B2, d2, he, p2, below_then hb p3⟩)
      clear hk hlt hr hnr HP
      go_wp2_with fail
      refine ((DV _ (Below.refl _ _)).out).mono ?_
      rintro e w1 ⟨B1, q, d1, B2, d2, rfl, hr2, hb1⟩
      clear DV
      go_wp2_with fail
      go_roundg r
      case rel => exact ⟨gk, n2, nr, B, d, B2, d2, rfl, rfl, HR, hn2, hnr2, hm2.below hb1, hr2, below_then hbel hb1⟩
      case measure => exact HM.out
end Go.Proofs.YtocoflojlliapaaDoor
