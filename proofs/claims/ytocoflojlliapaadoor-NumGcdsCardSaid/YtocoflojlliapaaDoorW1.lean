/- Rows within a block: by is put back to a window, and taken off it. -/
import Derived.Test.YtocoflojlliapaaDoorT3
set_option linter.unusedVariables false
namespace Go.Proofs.YtocoflojlliapaaDoor
open Go.RowKit
/-- i limbs from place o on come to so much -/
def sv (zs : List Nat) (o : Nat) : Nat → Nat
  | 0 => 0
  | i + 1 => sv zs o i + 4294967296 ^ i * lmb zs (o + i)
theorem sv_succ (zs : List Nat) (o i : Nat) : sv zs o (i + 1) = sv zs o i + 4294967296 ^ i * lmb zs (o + i) := rfl
theorem sv_congr {zs zs' : List Nat} {o : Nat} : ∀ {i : Nat}, (∀ j, o ≤ j → j < o + i → lmb zs' j = lmb zs j) → sv zs' o i = sv zs o i
  | 0, _ => rfl
  | i + 1, h => by
    rw [sv_succ, sv_succ, sv_congr (i := i) (fun j h1 h2 => h j h1 (by omega)), h (o + i) (by omega) (by omega)]
theorem sv_split (zs : List Nat) (o i : Nat) : ∀ j, sv zs o (i + j) = sv zs o i + 4294967296 ^ i * sv zs (o + i) j
  | 0 => by simp [sv]
  | j + 1 => by
    rw [← Nat.add_assoc, sv_succ, sv_split zs o i j, sv_succ, Nat.pow_add, Nat.add_assoc o i j]
    grind
theorem sv_take (zs : List Nat) : ∀ i, sv zs 0 i = val 4294967296 (zs.take i)
  | 0 => by simp [sv, val]
  | i + 1 => by rw [sv_succ, sv_take zs i, val_take_lmb, Nat.zero_add]
theorem sv_all (zs : List Nat) : sv zs 0 zs.length = val 4294967296 zs := by rw [sv_take, List.take_length]
theorem sv_lt {zs : List Nat} (h : Low 4294967296 zs) (o : Nat) : ∀ i, sv zs o i < 4294967296 ^ i
  | 0 => by simp [sv]
  | i + 1 => by
    have h1 := sv_lt h o i
    have h2 := lmb_lt h (o + i)
    rw [sv_succ, Nat.pow_succ]
    have h3 : 4294967296 ^ i * (lmb zs (o + i) + 1) ≤ 4294967296 ^ i * 4294967296 := Nat.mul_le_mul_left _ h2
    rw [Nat.mul_add, Nat.mul_one] at h3
    omega
theorem lmb_set_same {zs : List Nat} {p x : Nat} (h : p < zs.length) : lmb (zs.set p x) p = x := by rw [lmb_in (by simpa using h)]; simp
theorem lmb_set_ne {zs : List Nat} {p x j : Nat} (h : j ≠ p) : lmb (zs.set p x) j = lmb zs j := by
  unfold lmb
  rw [List.getD_eq_getElem?_getD, List.getElem?_set_ne (by omega), ← List.getD_eq_getElem?_getD]
theorem Nums.lmb {k : IntKind} {t : TypeId} {w : World} {g : Nat} {xs : List Nat} (h : Nums k t w g xs) {i : Nat} (hi : i < xs.length) : w.cell? ⟨g, i, none⟩ = some (.int k (Go.Proofs.YtocoflojlliapaaDoor.lmb xs i : Nat)) := by
  rw [lmb_in hi]
  exact h.at hi
theorem Lim.save {k : IntKind} {B g : Nat} {w w' : World} {A : Option Addr} {xs : List Nat} (h : Lim k B w A xs) (hB : B ≤ w.heap.size) (hs : Save g (g + 1) w w') (hf : Off A xs.length g) : Lim k B w' A xs := by
  intro h0
  obtain ⟨ad, hA, hb, hc⟩ := h h0
  obtain ⟨a1, e1, n1⟩ := hf (List.length_pos_iff.2 h0)
  rw [hA] at e1
  injection e1 with e1
  subst e1
  exact ⟨ad, hA, hb, fun i hi => (World.cell?_of_block (a := ad.add i) (by rw [add_block]; exact hs.block _ (by omega) (by omega))).trans (hc i hi)⟩
theorem Save.refl (lo hi : Nat) (w : World) : Save lo hi w w := ⟨rfl, rfl, rfl, Nat.le_refl _, fun _ _ _ => rfl⟩
theorem Save.set {g : Nat} {w w' : World} (h : Save g (g + 1) w w') (i : Nat) (u : Value) : Save g (g + 1) w (w'.setCell ⟨g, i, none⟩ u) :=
  ⟨h.os, h.tape, h.output, by simpa using h.size, fun k hk ho => (Below.heap_setCell w' ⟨g, i, none⟩ u k (by simp; omega)).trans (h.block k hk ho)⟩
theorem Save.drewN {lo hi : Nat} {w w' : World} (h : Save lo hi w w') (n : Nat) : Save lo hi w (w'.drewN n) := ⟨h.os, h.tape, h.output, h.size, h.block⟩
theorem Save.then {lo hi : Nat} {w w' w'' : World} (h : Save lo hi w w') (k : Save lo hi w' w'') : Save lo hi w w'' :=
  ⟨k.os.trans h.os, k.tape.trans h.tape, k.output.trans h.output, Nat.le_trans h.size k.size, fun i hi ho => (k.block i (by have := h.size; omega) ho).trans (h.block i hi ho)⟩
theorem Save.of_below {lo hi : Nat} {w w' : World} (h : Below w.heap.size w w') : Save lo hi w w' := ⟨h.os, h.tape, h.output, h.size, fun k hk _ => h.block k hk⟩
/-- put back by now -/
def Pb (zs0 ys : List Nat) (o i k : Nat) (zs : List Nat) : Prop := zs.length = zs0.length ∧ Low 4294967296 zs ∧ k ≤ 1 ∧ (∀ j, j < o ∨ o + i ≤ j → lmb zs j = lmb zs0 j) ∧ sv zs o i + 4294967296 ^ i * k = sv zs0 o i + val 4294967296 (ys.take i)
theorem Pb.next {zs0 ys zs : List Nat} {o i k y : Nat} (h : Pb zs0 ys o i k zs) (hy : lmb ys i = y) (hy1 : y < 4294967296) (h0 : Low 4294967296 zs0) (hp : o + i < zs0.length) :
    Pb zs0 ys o (i + 1) (addHi (lmb zs (o + i)) y k) (zs.set (o + i) (addLo (lmb zs (o + i)) y k)) := by
  obtain ⟨e1, e2, e3, e4, e5⟩ := h
  have h4 := e4 (o + i) (by omega)
  have hl := lmb_lt h0 (o + i)
  refine ⟨by simp [e1], e2.set (addLo_lt _ _ _), addHi_le _ _ _ (by omega) hy1 e3, fun j hj => ?_, ?_⟩
  · rw [lmb_set_ne (by omega)]
    exact e4 j (by omega)
  · rw [sv_succ, sv_succ, val_take_lmb, lmb_set_same (by omega), hy, sv_congr (zs := zs) (fun j h1 h2 => lmb_set_ne (by omega)), Nat.pow_succ, h4]
    have h5 := add_eq (lmb zs0 (o + i)) y k
    exact add_step e5 h5
set_option maxHeartbeats 1600000 in
theorem putBack_at (g o n m cw c2 : Nat) (A2 : Option Addr) (zs ys : List Nat) (w : World) (hz : Nums .u32 43 w g zs) (hlow : Hid (Low 4294967296 zs)) (hy : Lim .u32 w.heap.size w A2 ys) (hyl : Hid (ys.length = n)) (hylow : Hid (Low 4294967296 ys)) (hoff : Off A2 n g)
    (hin : o + m ≤ zs.length) (hnm : n ≤ m) (hl : zs.length ≤ 100000) :
    Calls Tryd.prog 95 #[.slice (some ⟨g, o, none⟩) m cw, .slice A2 n c2] w fun e w' => e = .returned (.tuple #[]) ∧ ∃ zs' k, Nums .u32 43 w' g zs' ∧ Pb zs ys o n k zs' ∧ Save g (g + 1) w w' := by
  have HO := Lib.hid hoff
  clear hoff
  go_enter Tryd.func95, Tryd.ntmps95
  go_wp2
  go_loopw [4, 9] (fun kv iv wr => ∃ (i k : Nat) (xs : List Nat), i ≤ n ∧ iv = .int .i64 i ∧ kv = .int .u32 k ∧ k ≤ 1 ∧ Nums .u32 43 wr g xs ∧ Hid (Pb zs ys o i k xs) ∧ Save g (g + 1) w wr) (fun _ iv _ => n - (intOf iv).toNat)
  case atStart => exact ⟨0, 0, zs, Nat.zero_le _, rfl, rfl, by omega, hz, Lib.hid ⟨rfl, hlow.out, by omega, fun _ _ => rfl, by simp [sv, val]⟩, Save.refl _ _ _⟩
  case round =>
    obtain ⟨i, k, xs, hi, rfl, rfl, hk, hN, HP, hS⟩ := hrel
    by_cases hlt : i < n
    · have hil : i < ys.length := by rw [hyl.out]; exact hlt
      obtain ⟨ad, rfl, hab, cell⟩ := (hy.save (Nat.le_refl _) hS (by rw [hyl.out]; exact HO.out)).at hil
      have hy1 := hylow.out.at hil
      obtain ⟨y, hyy⟩ : ∃ y, y = ys[i] := ⟨_, rfl⟩
      rw [← hyy] at cell hy1
      have KY : Hid (lmb ys i = y) := Lib.hid (by rw [hyy]; exact lmb_in hil)
      have hp : o + i < xs.length := by rw [HP.out.1]; omega
      have c1 := hN.lmb hp
      have f1 := hN.free (o + i)
      have hx1 := lmb_lt HP.out.2.1 (o + i)
      have HNX := Lib.hid (HP.out.next KY.out hy1 hlow.out (by rw [← HP.out.1]; exact hp))
      obtain ⟨x, hx⟩ : ∃ x, x = lmb xs (o + i) := ⟨_, rfl⟩
      rw [← hx] at c1 hx1 HNX
      clear hyy hx
      have hk2 := HNX.out.2.2.1
      go_wp2_with (go_at_call 91; refine (add32 x y k hx1 hy1 (by omega) _).mono ?_; rintro e w' ⟨rfl, rfl⟩)
      go_roundw
      case rel => exact ⟨i + 1, addHi x y k, _, by omega, by go_num, rfl, hk2, hN.set _ _, HNX, hS.set _ _⟩
      case measure => simp [intOf]; omega
    · obtain rfl : n = i := by omega
      go_wp2
      exact bodyPost_end (v := .tuple #[]) (by simp [results, Tryd.results95, go_sem]) rfl ⟨rfl, xs, k, hN, HP.out, hS⟩
end Go.Proofs.YtocoflojlliapaaDoor
