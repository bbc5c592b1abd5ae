import Derived.Test.YtocoflojlliapaaDoorB1
import Derived.Laws.MakeOwn
import Derived.Laws.OwnMore
import Derived.Deep.RegionHeld3
set_option linter.unusedVariables false
namespace Go.Proofs.YtocoflojlliapaaDoor
open Go.RowKit
theorem u32_info : (Tryd.prog.info? 43).map (fun i => (i.zero, i.size, i.bytes)) = some (some (.int .u32 0), 1, 4) := by kernel_rfl
theorem u8_info : (Tryd.prog.info? 5).map (fun i => (i.zero, i.size, i.bytes)) = some (some (.int .u8 0), 1, 1) := by kernel_rfl
/-- noughts -/
def zer (n : Nat) : List Nat := List.replicate n 0
/-- a block's cells -/
def ca (k : IntKind) (xs : List Nat) : Array Value := (cl k xs).toArray
theorem made_cells (k : IntKind) (n : Nat) : madeCells (Value.int k 0).cells (n * 1) = ca k (zer n) := by
  apply Array.ext
  · simp [madeCells, ca, cl, zer]
  · intro i h1 h2
    simp [madeCells, ca, cl, zer, Value.cells, nv]
    rw [Nat.mod_one]
    rfl
theorem make32 (n : Nat) (z : Int) (hz : z = n) (hn : n ≤ 35184372088832) (W : World) :
    (Instr.makeSlice 22 (.int .i64 z) (.int .i64 z)).run Tryd.prog W = .ok (.slice (some ⟨W.heap.size, 0, none⟩) n n) (W.alloc (.cells (ca .u32 (zer n)) 43)) := by
  subst hz
  obtain ⟨i0, hi, hz0, hz1, hz2⟩ := info_parts u32_info
  have := run_make (P := Tryd.prog) W 22 43 i0 _ Tryd.underlying22 hi hz0 .i64 .i64 (n : Int) (n : Int) (by omega) (by omega) (by rw [hz2]; omega) (by omega)
  rw [this, Int.toNat_natCast, hz1, made_cells]
theorem make8 (n : Nat) (z : Int) (hz : z = n) (hn : n ≤ 35184372088832) (W : World) :
    (Instr.makeSlice 28 (.int .i64 z) (.int .i64 z)).run Tryd.prog W = .ok (.slice (some ⟨W.heap.size, 0, none⟩) n n) (W.alloc (.cells (ca .u8 (zer n)) 5)) := by
  subst hz
  obtain ⟨i0, hi, hz0, hz1, hz2⟩ := info_parts u8_info
  have := run_make (P := Tryd.prog) W 28 5 i0 _ Tryd.underlying28 hi hz0 .i64 .i64 (n : Int) (n : Int) (by omega) (by omega) (by rw [hz2]; omega) (by omega)
  rw [this, Int.toNat_natCast, hz1, made_cells]
theorem Nums.new (w : World) (t : TypeId) (k : IntKind) (xs : List Nat) : Nums k t (w.alloc (.cells (ca k xs) t)) w.heap.size xs := Nums.made w t k xs
theorem zer_len (n : Nat) : (zer n).length = n := by simp [zer]
/-- what a function that makes a row of numbers leaves: n limbs that come to v, in the first new block -/
def Made (w w' : World) (n v : Nat) : Prop := ∃ zs, zs.length = n ∧ Low 4294967296 zs ∧ val 4294967296 zs = v ∧ Nums .u32 43 w' w.heap.size zs ∧ Below w.heap.size w w'
/-- a row that is filled from its beginning: the first ones come to v -/
def Fill (n i v : Nat) (zs : List Nat) : Prop := zs.length = n ∧ Low 4294967296 zs ∧ val 4294967296 (zs.take i) = v
theorem Fill.zero (n : Nat) : Fill n 0 0 (zer n) := ⟨zer_len n, Low.rep (by decide) n, by simp [val]⟩
theorem Fill.set {n i v : Nat} {zs : List Nat} (h : Fill n i v zs) {x : Nat} (hx : x < 4294967296) (hi : i < n) : Fill n (i + 1) (v + 4294967296 ^ i * x) (zs.set i x) := by
  obtain ⟨hl, hlow, hv⟩ := h
  refine ⟨by simp [hl], hlow.set hx, ?_⟩
  have e : (zs.set i x).take (i + 1) = zs.take i ++ [x] := by
    rw [take_snoc _ i (by simp [hl, hi]), List.getElem_set_self, List.take_set_of_le (Nat.le_refl i)]
  rw [e, val_snoc, hv, List.length_take, Nat.min_eq_left (by omega)]
theorem Fill.full {n v : Nat} {zs : List Nat} (h : Fill n n v zs) : zs.length = n ∧ Low 4294967296 zs ∧ val 4294967296 zs = v := by
  refine ⟨h.1, h.2.1, ?_⟩
  have := h.2.2
  rwa [List.take_of_length_le (by rw [h.1]; exact Nat.le_refl n)] at this
theorem limb_at (A : Option Addr) (xs : List Nat) (n c i : Nat) (B : Nat) (w : World) (hx : Lim .u32 B w A xs) (hn : Hid (xs.length = n)) (hl : n ≤ 140737488355328) (hi : i ≤ 140737488355328) :
    Calls Tryd.prog 56 #[.slice A n c, .int .i64 i] w fun e w' => e = .returned (.int .u32 (lmb xs i : Nat)) ∧ w = w' := by
  have h := hn.out
  subst h
  exact limb_any A xs c i B w hx hl hi
set_option maxHeartbeats 1600000 in
theorem plus_less (A1 A2 : Option Addr) (xs ys : List Nat) (c1 c2 m n : Nat) (w : World) (h1 : Lim .u32 w.heap.size w A1 xs) (h2 : Lim .u32 w.heap.size w A2 ys) (hx : Low 4294967296 xs) (hy : Low 4294967296 ys)
    (l1 : Hid (xs.length = m)) (l2 : Hid (ys.length = n)) (l3 : m < n) (hm : m ≤ 1000000) (hl : n ≤ 1000000) :
    Calls Tryd.prog 80 #[.slice A1 m c1, .slice A2 n c2] w fun e w' => e = .returned (.slice (some ⟨w.heap.size, 0, none⟩) (n + 1) (n + 1)) ∧ Made w w' (n + 1) (val 4294967296 xs + val 4294967296 ys) := by
  have hmk := make32 (n + 1) ((n : Int) + 1) (by omega) (by omega)
  have HX := Lib.hid hx
  have HY := Lib.hid hy
  clear hx hy
  go_enter Tryd.func80, Tryd.ntmps80
  go_wp2_with fail
  go_loopw [7, 18] (fun cv i wr => ∃ (k c : Nat) (zs : List Nat), k ≤ n ∧ i = .int .i64 k ∧ cv = .int .u32 c ∧ c ≤ 1 ∧ Hid (∃ v, Fill (n + 1) k v zs ∧ v + 4294967296 ^ k * c = val 4294967296 (xs.take k) + val 4294967296 (ys.take k)) ∧
      Nums .u32 43 wr w.heap.size zs ∧ Below w.heap.size w wr) (fun _ i _ => n - (intOf i).toNat)
  case atStart => exact ⟨0, 0, zer (n + 1), Nat.zero_le _, rfl, rfl, by omega, Lib.hid ⟨0, Fill.zero _, by simp [val]⟩, Nums.new _ _ _ _, (Below.refl _ _).alloc (Nat.le_refl _) _⟩
  case round =>
    obtain ⟨k, c, zs, hk, rfl, rfl, hc, hF, hN, hbel⟩ := hrel
    have hzl : k < zs.length := by
      obtain ⟨v, hf, _⟩ := hF.out
      rw [hf.1]
      omega
    by_cases hlt : k < n
    · have hcell := hN.at hzl
      have hfree := hN.free k
      have k1 : lmb xs k < 4294967296 := lmb_lt HX.out k
      have k2 : lmb ys k < 4294967296 := lmb_lt HY.out k
      have hlim1 := h1.below hbel
      have hlim2 := h2.below hbel
      go_wp2_with (first
        | (go_at_call 56; (first | (with_reducible refine (limb_at A1 xs m c1 k _ _ hlim1 l1 (by omega) (by omega)).mono ?_) | (with_reducible refine (limb_at A2 ys n c2 k _ _ hlim2 l2 (by omega) (by omega)).mono ?_)); rintro e w' ⟨rfl, rfl⟩)
        | (go_at_call 91; refine (add32 _ _ _ k1 k2 (by omega) _).mono ?_; rintro e w' ⟨rfl, rfl⟩))
      go_roundw
      case rel => exact ⟨k + 1, addHi (lmb xs k) (lmb ys k) c, zs.set k (addLo (lmb xs k) (lmb ys k) c), by omega, by go_num, rfl, addHi_le _ _ _ k1 k2 hc, Lib.hid (by
        obtain ⟨v, hf, he⟩ := hF.out
        refine ⟨_, hf.set (addLo_lt _ _ _) (by omega), ?_⟩
        rw [val_take_lmb, val_take_lmb, Nat.pow_succ]
        exact add_step he (add_eq _ _ _)), hN.set _ _, hbel.setCell (Nat.le_refl _) _⟩
      case measure => simp [intOf]; omega
    · obtain rfl : n = k := by omega
      have hcell := hN.at hzl
      have hfree := hN.free n
      go_wp2
      go_ret
      refine ⟨rfl, ?_⟩
      obtain ⟨v, hf, he⟩ := hF.out
      have hf2 := (hf.set (x := c) (by omega) (by omega)).full
      refine ⟨_, hf2.1, hf2.2.1, ?_, hN.set _ _, hbel.setCell (Nat.le_refl _) _⟩
      rw [hf2.2.2, he, List.take_of_length_le (by rw [l1.out]; omega), List.take_of_length_le (by rw [l2.out]; omega)]
set_option maxHeartbeats 1600000 in
theorem plus_more (A1 A2 : Option Addr) (xs ys : List Nat) (c1 c2 m n : Nat) (w : World) (h1 : Lim .u32 w.heap.size w A1 xs) (h2 : Lim .u32 w.heap.size w A2 ys) (hx : Low 4294967296 xs) (hy : Low 4294967296 ys)
    (l1 : Hid (xs.length = m)) (l2 : Hid (ys.length = n)) (l3 : n ≤ m) (hm : m ≤ 1000000) (hl : n ≤ 1000000) :
    Calls Tryd.prog 80 #[.slice A1 m c1, .slice A2 n c2] w fun e w' => e = .returned (.slice (some ⟨w.heap.size, 0, none⟩) (m + 1) (m + 1)) ∧ Made w w' (m + 1) (val 4294967296 xs + val 4294967296 ys) := by
  have hmk := make32 (m + 1) ((m : Int) + 1) (by omega) (by omega)
  have HX := Lib.hid hx
  have HY := Lib.hid hy
  clear hx hy
  go_enter Tryd.func80, Tryd.ntmps80
  go_wp2_with fail
  go_loopw [7, 18] (fun cv i wr => ∃ (k c : Nat) (zs : List Nat), k ≤ m ∧ i = .int .i64 k ∧ cv = .int .u32 c ∧ c ≤ 1 ∧ Hid (∃ v, Fill (m + 1) k v zs ∧ v + 4294967296 ^ k * c = val 4294967296 (xs.take k) + val 4294967296 (ys.take k)) ∧
      Nums .u32 43 wr w.heap.size zs ∧ Below w.heap.size w wr) (fun _ i _ => m - (intOf i).toNat)
  case atStart => exact ⟨0, 0, zer (m + 1), Nat.zero_le _, rfl, rfl, by omega, Lib.hid ⟨0, Fill.zero _, by simp [val]⟩, Nums.new _ _ _ _, (Below.refl _ _).alloc (Nat.le_refl _) _⟩
  case round =>
    obtain ⟨k, c, zs, hk, rfl, rfl, hc, hF, hN, hbel⟩ := hrel
    have hzl : k < zs.length := by
      obtain ⟨v, hf, _⟩ := hF.out
      rw [hf.1]
      omega
    by_cases hlt : k < m
    · have hcell := hN.at hzl
      have hfree := hN.free k
      have k1 : lmb xs k < 4294967296 := lmb_lt HX.out k
      have k2 : lmb ys k < 4294967296 := lmb_lt HY.out k
      have hlim1 := h1.below hbel
      have hlim2 := h2.below hbel
      go_wp2_with (first
        | (go_at_call 56; (first | (with_reducible refine (limb_at A1 xs m c1 k _ _ hlim1 l1 (by omega) (by omega)).mono ?_) | (with_reducible refine (limb_at A2 ys n c2 k _ _ hlim2 l2 (by omega) (by omega)).mono ?_)); rintro e w' ⟨rfl, rfl⟩)
        | (go_at_call 91; refine (add32 _ _ _ k1 k2 (by omega) _).mono ?_; rintro e w' ⟨rfl, rfl⟩))
      go_roundw
      case rel => exact ⟨k + 1, addHi (lmb xs k) (lmb ys k) c, zs.set k (addLo (lmb xs k) (lmb ys k) c), by omega, by go_num, rfl, addHi_le _ _ _ k1 k2 hc, Lib.hid (by
        obtain ⟨v, hf, he⟩ := hF.out
        refine ⟨_, hf.set (addLo_lt _ _ _) (by omega), ?_⟩
        rw [val_take_lmb, val_take_lmb, Nat.pow_succ]
        exact add_step he (add_eq _ _ _)), hN.set _ _, hbel.setCell (Nat.le_refl _) _⟩
      case measure => simp [intOf]; omega
    · obtain rfl : m = k := by omega
      have hcell := hN.at hzl
      have hfree := hN.free m
      go_wp2
      go_ret
      refine ⟨rfl, ?_⟩
      obtain ⟨v, hf, he⟩ := hF.out
      have hf2 := (hf.set (x := c) (by omega) (by omega)).full
      refine ⟨_, hf2.1, hf2.2.1, ?_, hN.set _ _, hbel.setCell (Nat.le_refl _) _⟩
      rw [hf2.2.2, he, List.take_of_length_le (by rw [l1.out]; omega), List.take_of_length_le (by rw [l2.out]; omega)]
theorem plus_any (A1 A2 : Option Addr) (xs ys : List Nat) (c1 c2 : Nat) (w : World) (h1 : Lim .u32 w.heap.size w A1 xs) (h2 : Lim .u32 w.heap.size w A2 ys) (hx : Low 4294967296 xs) (hy : Low 4294967296 ys)
    (l1 : xs.length ≤ 1000000) (l2 : ys.length ≤ 1000000) :
    Calls Tryd.prog 80 #[.slice A1 xs.length c1, .slice A2 ys.length c2] w fun e w' => e = .returned (.slice (some ⟨w.heap.size, 0, none⟩) (max xs.length ys.length + 1) (max xs.length ys.length + 1)) ∧ Made w w' (max xs.length ys.length + 1) (val 4294967296 xs + val 4294967296 ys) := by
  rcases Nat.lt_or_ge xs.length ys.length with h | h
  · rw [Nat.max_eq_right (by omega)]
    exact plus_less A1 A2 xs ys c1 c2 _ _ w h1 h2 hx hy (Lib.hid rfl) (Lib.hid rfl) h l1 l2
  · rw [Nat.max_eq_left (by omega)]
    exact plus_more A1 A2 xs ys c1 c2 _ _ w h1 h2 hx hy (Lib.hid rfl) (Lib.hid rfl) h l1 l2
end Go.Proofs.YtocoflojlliapaaDoor
