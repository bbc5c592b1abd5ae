import Derived.Test.YtocoflojlliapaaDoorB2
set_option linter.unusedVariables false
namespace Go.Proofs.YtocoflojlliapaaDoor
open Go.RowKit
/-- the product's limbs by now: so many rows are added -/
def Rows (s n k : Nat) (xs ys zs : List Nat) : Prop := zs.length = s ∧ Low 4294967296 zs ∧ val 4294967296 (zs.take (k + n)) = val 4294967296 (xs.take k) * val 4294967296 ys
/-- within a row: so many limbs of it are added; o are the limbs ahead of the row -/
def Row (s k j a c : Nat) (ys o zs : List Nat) : Prop := zs.length = s ∧ Low 4294967296 zs ∧ c < 4294967296 ∧ o.length = s ∧
  val 4294967296 (zs.take (k + j)) + 4294967296 ^ (k + j) * c = val 4294967296 (o.take (k + j)) + 4294967296 ^ k * a * val 4294967296 (ys.take j) ∧ ∀ i, k + j ≤ i → zs[i]? = o[i]?
theorem Rows.zero (s n : Nat) (xs ys : List Nat) : Rows s n 0 xs ys (zer s) := by
  refine ⟨zer_len s, Low.rep (by decide) s, ?_⟩
  simp only [List.take_zero, val, Nat.zero_mul, zer, List.take_replicate, val_rep]
theorem Row.zero {s n k : Nat} {xs ys o : List Nat} (h : Rows s n k xs ys o) (a : Nat) : Row s k 0 a 0 ys o o :=
  ⟨h.1, h.2.1, by decide, h.1, by simp [val], fun _ _ => rfl⟩
theorem Row.next {s k j a c P D E X : Nat} {ys o zs : List Nat} (h : Row s k j a c ys o zs) (hi : k + j < s) (hj : j < ys.length) (ha : a < 4294967296) (hys : Low 4294967296 ys) (hP : a * ys[j] = P) (hX : zs[k + j]? = some X)
    (hD : (c + (P + X)) % 4294967296 = D) (hE : (c + (P + X)) / 4294967296 = E) : Row s k (j + 1) a E ys o (zs.set (k + j) D) := by
  obtain ⟨hl, hlow, hc, ho, hv, hr⟩ := h
  have hDl : D < 4294967296 := by rw [← hD]; exact Nat.mod_lt _ (by decide)
  have hXo : o[k + j]? = some X := by rw [← hr _ (Nat.le_refl _)]; exact hX
  have hXl : X < 4294967296 := hlow X (List.mem_of_getElem? hX)
  have hPl : P ≤ 18446744065119617025 := by rw [← hP]; exact mul_sq ha (hys.at hj)
  refine ⟨by simp [hl], hlow.set hDl, by rw [← hE]; omega, ho, ?_, fun i hi' => ?_⟩
  · have e : (zs.set (k + j) D).take (k + (j + 1)) = zs.take (k + j) ++ [D] := by
      rw [← Nat.add_assoc, take_snoc _ (k + j) (by simp [hl, hi]), List.getElem_set_self, List.take_set_of_le (Nat.le_refl _)]
    have e2 : o.take (k + (j + 1)) = o.take (k + j) ++ [X] := by
      have hol : k + j < o.length := by rw [ho]; exact hi
      rw [← Nat.add_assoc, take_snoc _ (k + j) hol]
      rw [List.getElem?_eq_getElem hol] at hXo
      injection hXo with hXo
      rw [hXo]
    rw [e, e2, val_snoc, val_snoc, val_take_succ _ ys j hj, List.length_take, List.length_take, Nat.min_eq_left (by omega), Nat.min_eq_left (by omega), ← Nat.add_assoc, Nat.pow_succ]
    exact mul_step hv (Nat.pow_add _ _ _) (by rw [hP, ← hD, ← hE]; omega)
  · rw [List.getElem?_set_ne (by omega)]
    exact hr i (by omega)
theorem Row.last {s n k a c : Nat} {xs ys o zs : List Nat} (h : Row s k n a c ys o zs) (hR : Rows s n k xs ys o) (hn : ys.length = n) (hk : k < xs.length) (ha : xs[k] = a) (hs : k + n < s) : Rows s n (k + 1) xs ys (zs.set (k + n) c) := by
  obtain ⟨hl, hlow, hc, ho, hv, hr⟩ := h
  refine ⟨by simp [hl], hlow.set hc, ?_⟩
  have e : (zs.set (k + n) c).take (k + 1 + n) = zs.take (k + n) ++ [c] := by
    rw [show k + 1 + n = k + n + 1 by omega, take_snoc _ (k + n) (by simp [hl, hs]), List.getElem_set_self, List.take_set_of_le (Nat.le_refl _)]
  rw [e, val_snoc, List.length_take, Nat.min_eq_left (by omega), hv, hR.2.2, val_take_succ _ xs k hk, ha, List.take_of_length_le (l := ys) (by omega), Nat.add_mul]
set_option maxHeartbeats 3200000 in
theorem times_at (A1 A2 : Option Addr) (xs ys : List Nat) (c1 c2 m n : Nat) (w : World) (h1 : Lim .u32 w.heap.size w A1 xs) (h2 : Lim .u32 w.heap.size w A2 ys) (hx : Low 4294967296 xs) (hy : Low 4294967296 ys)
    (l1 : Hid (xs.length = m)) (l2 : Hid (ys.length = n)) (hm : m ≤ 1000000) (hl : n ≤ 1000000) :
    Calls Tryd.prog 61 #[.slice A1 m c1, .slice A2 n c2] w fun e w' => e = .returned (.slice (some ⟨w.heap.size, 0, none⟩) (m + n) (m + n)) ∧ Made w w' (m + n) (val 4294967296 xs * val 4294967296 ys) := by
  have hmk := make32 (m + n) ((m : Int) + n) (by omega) (by omega)
  have HX := Lib.hid hx
  have HY := Lib.hid hy
  clear hx hy
  go_enter Tryd.func61, Tryd.ntmps61
  go_wp2_with fail
  go_loopw [6, 7, 8, 9, 10, 19, 26] (fun _ _ _ _ _ i _ wr => ∃ (k : Nat) (zs : List Nat), k ≤ m ∧ i = .int .i64 k ∧ Hid (Rows (m + n) n k xs ys zs) ∧ Nums .u32 43 wr w.heap.size zs ∧ Below w.heap.size w wr) (fun _ _ _ _ _ i _ _ => m - (intOf i).toNat)
  case atStart => exact ⟨0, zer (m + n), Nat.zero_le _, rfl, Lib.hid (Rows.zero _ _ _ _), Nums.new _ _ _ _, (Below.refl _ _).alloc (Nat.le_refl _) _⟩
  case round =>
    obtain ⟨k, zs, hk, rfl, hR, hN, hbel⟩ := hrel
    by_cases hlt : k < m
    · have hxl : k < xs.length := by rw [l1.out]; exact hlt
      have ha : xs[k] < 4294967296 := HX.out.at hxl
      obtain ⟨a1, rfl, hab, cell1⟩ := (h1.below hbel).at hxl
      obtain ⟨a, hae⟩ : ∃ X, X = xs[k] := ⟨_, rfl⟩
      rw [← hae] at cell1 ha
      have KA := Lib.hid hae.symm
      clear hae
      obtain ⟨wo, hwo⟩ : ∃ wo : World, wo = wr := ⟨_, rfl⟩
      subst hwo
      go_wp2_with fail
      go_loopw [8, 9, 10, 26] (fun cv _ _ jv wr => ∃ (j c : Nat) (qs : List Nat), j ≤ n ∧ jv = .int .i64 j ∧ cv = .int .u64 c ∧ c < 4294967296 ∧ Hid (Row (m + n) k j a c ys zs qs) ∧ Nums .u32 43 wr w.heap.size qs ∧ Below w.heap.size w wr) (fun _ _ _ jv _ => n - (intOf jv).toNat)
      case atStart => exact ⟨0, 0, zs, Nat.zero_le _, rfl, rfl, by omega, Lib.hid (Row.zero hR.out a), hN, hbel⟩
      case round =>
        obtain ⟨j, c, qs, hj, rfl, rfl, hc, hF, hQ, hbel2⟩ := hrel
        by_cases hjl : j < n
        · have hyl : j < ys.length := by rw [l2.out]; exact hjl
          have hql : k + j < qs.length := by
            rw [hF.out.1]
            omega
          have hb : ys[j] < 4294967296 := HY.out.at hyl
          obtain ⟨a2, rfl, hab2, cell2⟩ := (h2.below hbel2).at hyl
          obtain ⟨b, hbe⟩ : ∃ X, X = ys[j] := ⟨_, rfl⟩
          rw [← hbe] at cell2 hb
          have hcellq := hQ.at hql
          have hfree := hQ.free (k + j)
          have hX : qs[k + j] < 4294967296 := hF.out.2.1.at hql
          obtain ⟨X, hXe⟩ : ∃ X, X = qs[k + j] := ⟨_, rfl⟩
          rw [← hXe] at hcellq hX
          have KX : Hid (qs[k + j]? = some X) := Lib.hid (by rw [List.getElem?_eq_getElem hql, hXe])
          have KB := Lib.hid hbe
          clear hbe hXe
          obtain ⟨P, hP⟩ : ∃ P, P = a * b := ⟨_, rfl⟩
          have hPl : P ≤ 18446744065119617025 := by rw [hP]; exact mul_sq ha hb
          have hPi : (a : Int) * b = P := by rw [hP]; exact (Int.natCast_mul a b).symm
          have KP := Lib.hid hP.symm
          clear hP
          obtain ⟨D, hD⟩ : ∃ D, D = (c + (P + X)) % 4294967296 := ⟨_, rfl⟩
          obtain ⟨E, hE⟩ : ∃ E, E = (c + (P + X)) / 4294967296 := ⟨_, rfl⟩
          have hDi : ((c : Int) + (P + X)) % 4294967296 = D := by omega
          have hEi : ((c : Int) + (P + X)) / 4294967296 = E := by omega
          have hEl : E < 4294967296 := by omega
          have KD := Lib.hid hD.symm
          have KE := Lib.hid hE.symm
          clear hD hE
          go_wp2
          go_roundw
          case rel => exact ⟨j + 1, E, qs.set (k + j) D, by omega, by go_num, by go_num, hEl, Lib.hid (hF.out.next (by omega) hyl ha HY.out (by rw [← KB.out]; exact KP.out) KX.out KD.out KE.out), hQ.set _ _, hbel2.setCell (Nat.le_refl _) _⟩
          case measure => simp [intOf]; omega
        · obtain rfl : n = j := by omega
          have hql : k + n < qs.length := by
            rw [hF.out.1]
            omega
          have hcellq := hQ.at hql
          have hfree := hQ.free (k + n)
          go_wp2
          go_roundw
          case rel => exact ⟨k + 1, qs.set (k + n) c, by omega, by go_num, Lib.hid (hF.out.last hR.out l2.out hxl KA.out (by omega)), hQ.set _ _, hbel2.setCell (Nat.le_refl _) _⟩
          case measure => simp [intOf]; omega
    · obtain rfl : m = k := by omega
      go_wp2
      go_ret
      refine ⟨rfl, zs, hR.out.1, hR.out.2.1, ?_, hN, hbel⟩
      have h3 := hR.out.2.2
      rwa [List.take_of_length_le (by rw [hR.out.1]; exact Nat.le_refl _), List.take_of_length_le (by rw [l1.out]; exact Nat.le_refl _)] at h3
theorem times_any (A1 A2 : Option Addr) (xs ys : List Nat) (c1 c2 : Nat) (w : World) (h1 : Lim .u32 w.heap.size w A1 xs) (h2 : Lim .u32 w.heap.size w A2 ys) (hx : Low 4294967296 xs) (hy : Low 4294967296 ys)
    (hm : xs.length ≤ 1000000) (hl : ys.length ≤ 1000000) :
    Calls Tryd.prog 61 #[.slice A1 xs.length c1, .slice A2 ys.length c2] w fun e w' => e = .returned (.slice (some ⟨w.heap.size, 0, none⟩) (xs.length + ys.length) (xs.length + ys.length)) ∧ Made w w' (xs.length + ys.length) (val 4294967296 xs * val 4294967296 ys) :=
  times_at A1 A2 xs ys c1 c2 _ _ w h1 h2 hx hy (Lib.hid rfl) (Lib.hid rfl) hm hl
end Go.Proofs.YtocoflojlliapaaDoor
