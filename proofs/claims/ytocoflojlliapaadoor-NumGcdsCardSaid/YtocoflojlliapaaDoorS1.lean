/- The document's sums and differences of rows of bits. -/
import Derived.Test.YtocoflojlliapaaDoorK9
set_option linter.unusedVariables false
namespace Go.Proofs.YtocoflojlliapaaDoor
open Go.RowKit
theorem vtake (b : Nat) (xs : List Nat) (i : Nat) : val b (xs.take (i + 1)) = val b (xs.take i) + b ^ i * lmb xs i := by
  rcases Nat.lt_or_ge i xs.length with h | h
  · rw [lmb_in h]
    exact val_take_succ _ xs i h
  · rw [lmb_out h, List.take_of_length_le (by omega), List.take_of_length_le h]
    simp
theorem bit_lt {xs : List Nat} (h : Low 2 xs) (i : Nat) : lmb xs i ≤ 1 := by have : lmb xs i < 2 := h.getD (by decide) i; omega
/-- the row lies in a block from base on -/
def Fro (base : Nat) (A : Option Addr) (n : Nat) : Prop := 0 < n → ∃ ad, A = some ad ∧ base ≤ ad.block
theorem Fro.mono {a b n : Nat} {A : Option Addr} (h : Fro a A n) (hb : b ≤ a) : Fro b A n := fun h0 => by
  obtain ⟨ad, h1, h2⟩ := h h0
  exact ⟨ad, h1, Nat.le_trans hb h2⟩
theorem Fro.none_ (base : Nat) (A : Option Addr) : Fro base A 0 := fun h => absurd h (by omega)
theorem Fro.cut {a n m : Nat} {A : Option Addr} (h : Fro a A n) (hm : m ≤ n) : Fro a A m := fun h0 => h (by omega)
theorem Fro.of_own {w : World} {base e n c : Nat} {A : Option Addr} {xs : List Value} (h : w.ownsRow base e 1 (.slice A n c) n xs) : Fro base A n := fun h0 => by
  obtain ⟨g, cap, hv, hb, _⟩ := h.form h0
  injection hv with hA _ _
  exact ⟨_, hA, hb⟩
theorem Lim.far2 {k : IntKind} {B g : Nat} {w : World} {A : Option Addr} {xs : List Nat} {u v : Value} (h : Lim k B w A xs) (hf : Fro (g + 1) A xs.length) : Lim k B ((w.setCell ⟨g, 0, none⟩ u).setCell ⟨g, 1, none⟩ v) A xs := by
  intro h0
  obtain ⟨ad, hA, hb, hc⟩ := h h0
  obtain ⟨ad', hA', hg⟩ := hf (List.length_pos_iff.2 h0)
  rw [hA] at hA'
  injection hA' with hA'
  subst hA'
  refine ⟨ad, hA, hb, fun i hi => ?_⟩
  have e : ∀ j : Nat, (⟨g, j, none⟩ : Addr) ≠ ad.add i := fun j he => by
    have := congrArg Addr.block he
    rw [add_block] at this
    simp at this
    omega
  rw [World.cell?_setCell_other _ _ _ _ (e 1), World.cell?_setCell_other _ _ _ _ (e 0)]
  exact hc i hi
theorem Bit.far2 {g : Nat} {w : World} {A : Option Addr} {n c N : Nat} {u v : Value} (h : Bit w A n c N) (hf : Fro (g + 1) A n) : Bit ((w.setCell ⟨g, 0, none⟩ u).setCell ⟨g, 1, none⟩ v) A n c N := by
  obtain ⟨xs, h1, h2, h3, h4, h5⟩ := h
  refine ⟨xs, ?_, h2, h3, h4, h5⟩
  have := h1.far2 (g := g) (u := u) (v := v) (by rw [h3]; exact hf)
  simpa using this
set_option maxHeartbeats 400000 in
theorem bit_at (A : Option Addr) (xs : List Nat) (n c i : Nat) (B : Nat) (w : World) (hx : Lim .u8 B w A xs) (hn : Hid (xs.length = n)) (hl : n ≤ 1000000) (hi : i ≤ 1000000) (X : Nat) (hX : Hid (lmb xs i = X)) (hX1 : X ≤ 1) :
    Calls Tryd.prog 74 #[.slice A n c, .int .i64 i] w fun e w' => e = .returned (.int .i64 (X : Nat)) ∧ w = w' := by
  by_cases h : i < n
  · have hi' : i < xs.length := by rw [hn.out]; exact h
    obtain ⟨ad, rfl, hb, hcell⟩ := hx.at hi'
    have e : xs[i] = X := by rw [← lmb_in hi']; exact hX.out
    rw [e] at hcell
    clear e
    go_enter Tryd.func74, Tryd.ntmps74
    go_wp2
    go_ret
    exact ⟨rfl, rfl⟩
  · have e : X = 0 := by rw [← hX.out]; exact lmb_out (by rw [hn.out]; omega)
    subst e
    go_enter Tryd.func74, Tryd.ntmps74
    go_wp2
    go_ret
    exact ⟨rfl, rfl⟩
/-- the sum by now -/
def Pl (xs ys : List Nat) (i k : Nat) (os : List Nat) : Prop := os.length = i ∧ Low 2 os ∧ k ≤ 1 ∧ val 2 os + 2 ^ i * k = val 2 (xs.take i) + val 2 (ys.take i)
theorem Pl.zero (xs ys : List Nat) : Pl xs ys 0 0 [] := ⟨rfl, Low.nil, by omega, by simp [val]⟩
theorem Pl.next {xs ys os : List Nat} {i k x y d k' : Nat} (h : Pl xs ys i k os) (hx : lmb xs i = x) (hy : lmb ys i = y) (hd : x + y + k = d + 2 * k') (d1 : d < 2) (h1 : k' ≤ 1) : Pl xs ys (i + 1) k' (os ++ [d]) := by
  obtain ⟨e1, e2, e3, e4⟩ := h
  refine ⟨by simp [e1], e2.append (Low.cons d1 Low.nil), h1, ?_⟩
  rw [val_snoc, e1, vtake, vtake, hx, hy, Nat.pow_succ]
  exact add_step e4 hd
theorem Pl.done {xs ys os : List Nat} {i k a b : Nat} (h : Pl xs ys (i + 1) k os) (hx : xs.length ≤ i) (hy : ys.length ≤ i) (lx : Low 2 xs) (ly : Low 2 ys) (va : val 2 xs = a) (vb : val 2 ys = b) : val 2 os = a + b := by
  obtain ⟨e1, e2, e3, e4⟩ := h
  rw [List.take_of_length_le (by omega), List.take_of_length_le (by omega), va, vb] at e4
  have h1 := val_lt (by decide) lx
  have h2 := val_lt (by decide) ly
  have p1 : (2 : Nat) ^ xs.length ≤ 2 ^ i := pow_mono (by decide) hx
  have p2 : (2 : Nat) ^ ys.length ≤ 2 ^ i := pow_mono (by decide) hy
  have p3 : (2 : Nat) ^ (i + 1) = 2 ^ i * 2 := Nat.pow_succ _ _
  rcases Nat.lt_or_ge k 1 with hk | hk
  · have : k = 0 := by omega
    subst this
    omega
  · have : k = 1 := by omega
    subst this
    omega
set_option maxHeartbeats 1600000 in
theorem plusB (A1 A2 : Option Addr) (n1 c1 n2 c2 a b : Nat) (w : World) (h1 : Bit w A1 n1 c1 a) (h2 : Bit w A2 n2 c2 b) (l1 : n1 ≤ 100000) (l2 : n2 ≤ 100000) :
    Calls Tryd.prog 59 #[.slice A1 n1 c1, .slice A2 n2 c2] w fun e w' => ∃ B d, e = .returned (.slice B (bl (a + b)) d) ∧ Bit w' B (bl (a + b)) d (a + b) ∧ Fro w.heap.size B (bl (a + b)) ∧ Below w.heap.size w w' := by
  obtain ⟨xs, x1, x2, x3, x4, x5⟩ := h1
  obtain ⟨ys, y1, y2, y3, y4, y5⟩ := h2
  have HX := Lib.hid (And.intro x2 (And.intro x3 x4))
  have HY := Lib.hid (And.intro y2 (And.intro y3 y4))
  have X3 := Lib.hid x3
  have Y3 := Lib.hid y3
  clear x2 x3 x4 x5 y2 y3 y4 y5
  go_enter Tryd.func59, Tryd.ntmps59
  go_wp2
  go_loopw [5, 6, 7] (fun ov cv iv wr => ∃ (i k : Nat) (os : List Nat) (B : Option Addr) (d : Nat), i ≤ 100001 ∧ k ≤ 1 ∧ (i ≤ n1 + 1 ∨ i ≤ n2 + 1) ∧ iv = .int .i64 i ∧ cv = .int .i64 k ∧ ov = .slice B i d ∧ wr.ownsRow w.heap.size 5 1 (.slice B i d) i (cl .u8 os) ∧ Hid (Pl xs ys i k os) ∧ Below w.heap.size w wr) (fun _ _ iv _ => 100002 - (intOf iv).toNat)
  case atStart => exact ⟨0, 0, [], none, 0, by omega, by omega, by omega, rfl, rfl, rfl, own_nil, Lib.hid (Pl.zero xs ys), Below.refl _ _⟩
  case round =>
    obtain ⟨i, k, os, B, d, hi, hk, hor, rfl, rfl, rfl, hown, hP, hbel⟩ := hrel
    have BX := fun V (hV : Below w.heap.size w V) => Lib.hid (bit_at A1 xs n1 c1 i w.heap.size V (x1.below hV) X3 (by omega) (by omega) _ (Lib.hid rfl) (bit_lt HX.out.1 i))
    have BY := fun V (hV : Below w.heap.size w V) => Lib.hid (bit_at A2 ys n2 c2 i w.heap.size V (y1.below hV) Y3 (by omega) (by omega) _ (Lib.hid rfl) (bit_lt HY.out.1 i))
    obtain ⟨x, hx⟩ : ∃ x, lmb xs i = x := ⟨_, rfl⟩
    obtain ⟨y, hy⟩ : ∃ y, lmb ys i = y := ⟨_, rfl⟩
    have ex : x ≤ 1 := by rw [← hx]; exact bit_lt HX.out.1 i
    have ey : y ≤ 1 := by rw [← hy]; exact bit_lt HY.out.1 i
    rw [hx] at BX
    rw [hy] at BY
    by_cases hor2 : i ≤ n1 ∨ i ≤ n2
    · obtain ⟨s, hs⟩ : ∃ s, s = x + y + k := ⟨_, rfl⟩
      obtain ⟨D, hD⟩ : ∃ D, D = s % 2 := ⟨_, rfl⟩
      obtain ⟨K, hK⟩ : ∃ K, K = s / 2 := ⟨_, rfl⟩
      have d1 : D < 2 := by omega
      have k1 : K ≤ 1 := by omega
      have HN := Lib.hid (hP.out.next hx hy (d := D) (k' := K) (by omega) d1 k1)
      have e1 : (x : Int) + y + k = (s : Int) := by omega
      have e2 : (s : Int) % 2 = (D : Int) := by omega
      have e3 : (s : Int) / 2 = (K : Int) := by omega
      have e4 : (D : Int) % 256 = (D : Int) := by omega
      have s3 : s ≤ 3 := by omega
      clear hs hD hK hx hy
      rcases (show i ≤ n1 ∨ (¬ i ≤ n1 ∧ i ≤ n2) by omega) with hc | ⟨hc, hc2⟩
      all_goals
        go_wp2_with (first
          | (go_at_call 74; (with_reducible refine ((BX _ hbel).out).mono ?_); rintro e w' ⟨rfl, rfl⟩)
          | (go_at_call 74; (with_reducible refine ((BY _ hbel).out).mono ?_); rintro e w' ⟨rfl, rfl⟩)
          | (at_builtin; refine app_any (k := .u8) 28 5 1 Tryd.underlying28 u8_info (by decide) _ rfl _ _ rfl rfl w.heap.size (.slice B i d) i _ rfl (hown.alloc _) _ (some ⟨wr.heap.size, 0, none⟩) 1 1 [D] rfl (one_lim .u8 wr 5 D) (Lib.hid rfl) (by omega) (by have := hbel.size; simp; omega) ?_; intro v3 w3 hown3 hgr3; refine Hid.out ?_))
        refine Lib.hid ?_
        obtain ⟨B3, d3, rfl⟩ := own_slice hown3
        have hb3 : Below w.heap.size w w3 := (below_al hbel _).grown hgr3 (below_al hbel _).size (own_ge hown)
        clear hgr3
        go_wp2
        go_roundw
        case rel => exact ⟨i + 1, K, os ++ [D], B3, d3, by omega, by omega, by omega, by go_num, rfl, rfl, hown3, HN, hb3⟩
        case measure => simp [intOf]; omega
    · have hn1 : ¬ i ≤ n1 := by omega
      have hn2 : ¬ i ≤ n2 := by omega
      obtain ⟨p, hp⟩ : ∃ p, i = p + 1 := ⟨i - 1, by omega⟩
      have HV : Hid (val 2 os = a + b ∧ Low 2 os ∧ os.length = i) := Lib.hid (by
        refine ⟨?_, hP.out.2.1, hP.out.1⟩
        have h := hP.out
        rw [hp] at h
        exact h.done (by have := X3.out; omega) (by have := Y3.out; omega) HX.out.1 HY.out.1 HX.out.2.2 HY.out.2.2)
      have HBit : Bit wr B i d (a + b) := ⟨os, by have h := Lim.of_own (by rw [HV.out.2.2]; exact hown); exact h, HV.out.2.1, HV.out.2.2, HV.out.1, own_cap hown⟩
      clear hp hx hy BX BY
      go_wp2_with (go_at_call 78; refine (cut_bit B i d (a + b) _ HBit (by omega)).mono ?_; rintro e w' ⟨rfl, rfl⟩)
      go_ret
      exact ⟨B, d, rfl, HBit.trim, (Fro.of_own hown).cut HBit.le, hbel⟩
end Go.Proofs.YtocoflojlliapaaDoor
