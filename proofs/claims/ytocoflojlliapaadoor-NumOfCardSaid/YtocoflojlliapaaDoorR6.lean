import Derived.Test.YtocoflojlliapaaDoorR5
import Derived.Test.YtocoflojlliapaaDoorG2
set_option linter.unusedVariables false
namespace Go.Proofs.YtocoflojlliapaaDoor
open Go.RowKit
set_option maxHeartbeats 1600000 in
theorem refOf_pos (x : Nat) (hx : x ≤ 9223372036854775807) (w : World) :
    Calls Tryd.prog 34 #[.int .i64 x] w fun e w' => ∃ A c, e = .returned (.agg #[.bool (signB false x), .slice A (dl x) c]) ∧ Fresh w w' A c x := by
  have hfit : dl x ≤ 48 := Nat.le_trans ((dl_le x 2).2 (by omega)) (by decide)
  have hbits : bl x ≤ 1536 := Nat.le_trans ((bl_le x 64).2 (by omega)) (by decide)
  obtain ⟨lo, hlo⟩ : ∃ lo, lo = x % 4294967296 := ⟨_, rfl⟩
  obtain ⟨hi, hhi⟩ : ∃ hi, hi = x / 4294967296 := ⟨_, rfl⟩
  have blo : lo < 4294967296 := by omega
  have bhi : hi < 4294967296 := by omega
  have elo : (x : Int) % 4294967296 = lo := by omega
  have ehi : (x : Int) / 4294967296 = hi := by omega
  have HV : Hid (lo + 4294967296 * hi = x) := Lib.hid (by omega)
  clear hlo hhi
  obtain ⟨W, hW⟩ : ∃ W, W = w.alloc (.cells #[.bool false, .slice none 0 0] 24) := ⟨_, rfl⟩
  have hbW : Below w.heap.size w W := by rw [hW]; exact below_al (Below.refl _ _) _
  have hT : Two W w.heap.size 24 (.bool false) (.slice none 0 0) := by rw [hW]; exact Two.made w 24 _ _
  have hWs : W.heap.size = w.heap.size + 1 := by rw [hW]; simp
  have hM := Mag.pair W lo hi blo bhi
  rw [HV.out, hWs] at hM
  have hx0 : ¬ (x : Int) < 0 := by omega
  go_enter Tryd.func34, Tryd.ntmps34
  go_wp2_with fail
  rw [← hW]
  have HW := Lib.hid hW
  have HWS := Lib.hid hWs
  clear hW hWs
  have RV := fun W h => Lib.hid (refValue false (some ⟨w.heap.size + 1, 0, none⟩) 2 2 x W h (by decide))
  refine ((RV _ hM).out).mono ?_
  rintro e w1 ⟨B, d, rfl, m1, b1⟩
  have hb1 : Below W.heap.size W w1 := below_then (below_al (Below.refl _ _) _) b1
  go_wp2_with (go_at_call 53; refine (refNum_yes (signB false x) B d x _ m1 hbits).mono ?_; rintro e w2 ⟨A', c', rfl, hf⟩; refine Hid.out ?_)
  refine Lib.hid ?_
  have hb2 : Below W.heap.size W w2 := below_then hb1 hf.2
  have T2 := hT.below' hb2
  have k2 := T2.fst
  have k3 := T2.snd
  have k4 := T2.free 0
  have k5 := T2.free 1
  have hlt : w.heap.size < w2.heap.size := T2.lt
  go_wp2
  have hr := fun o => (T2.set2 (a' := .bool (signB false x)) (b' := .slice A' (dl x) c')).alloc o
  have r0 := fun o => (hr o).fst
  have r1 := fun o => (hr o).snd
  refine bodyPost_ret (v := .agg #[.bool (signB false x), .slice A' (dl x) c']) (by simp [results, Tryd.results34, go_sem, r0, r1]) rfl
    ⟨A', c', rfl, (hf.two (g := w.heap.size) (below_then hbW hb1) (Nat.le_refl _) (by have := hb1.size; have := HWS.out; omega)).alloc _⟩
set_option maxHeartbeats 1600000 in
theorem refOf_neg (x : Nat) (hx : x ≤ 9223372036854775808) (h0 : 0 < x) (w : World) :
    Calls Tryd.prog 34 #[.int .i64 (-(x : Int))] w fun e w' => ∃ A c, e = .returned (.agg #[.bool (signB true x), .slice A (dl x) c]) ∧ Fresh w w' A c x := by
  have hfit : dl x ≤ 48 := Nat.le_trans ((dl_le x 2).2 (by omega)) (by decide)
  have hbits : bl x ≤ 1536 := Nat.le_trans ((bl_le x 64).2 (by omega)) (by decide)
  obtain ⟨lo, hlo⟩ : ∃ lo, lo = x % 4294967296 := ⟨_, rfl⟩
  obtain ⟨hi, hhi⟩ : ∃ hi, hi = x / 4294967296 := ⟨_, rfl⟩
  have blo : lo < 4294967296 := by omega
  have bhi : hi < 4294967296 := by omega
  have elo : (x : Int) % 4294967296 = lo := by omega
  have ehi : (x : Int) / 4294967296 = hi := by omega
  have HV : Hid (lo + 4294967296 * hi = x) := Lib.hid (by omega)
  clear hlo hhi
  obtain ⟨W, hW⟩ : ∃ W, W = w.alloc (.cells #[.bool false, .slice none 0 0] 24) := ⟨_, rfl⟩
  have hbW : Below w.heap.size w W := by rw [hW]; exact below_al (Below.refl _ _) _
  have hT : Two W w.heap.size 24 (.bool false) (.slice none 0 0) := by rw [hW]; exact Two.made w 24 _ _
  have hWs : W.heap.size = w.heap.size + 1 := by rw [hW]; simp
  have hM := Mag.pair W lo hi blo bhi
  rw [HV.out, hWs] at hM
  have en : IntKind.u64.wrap (-IntKind.u64.wrap (-(x : Int))) = (x : Int) := by rw [IntKind.wrap_u64, IntKind.wrap_u64]; omega
  have hx0 : (-(x : Int)) < 0 := by omega
  go_enter Tryd.func34, Tryd.ntmps34
  go_wp2_with fail
  rw [← hW]
  have HW := Lib.hid hW
  have HWS := Lib.hid hWs
  clear hW hWs
  have RV := fun W h => Lib.hid (refValue true (some ⟨w.heap.size + 1, 0, none⟩) 2 2 x W h (by decide))
  refine ((RV _ hM).out).mono ?_
  rintro e w1 ⟨B, d, rfl, m1, b1⟩
  have hb1 : Below W.heap.size W w1 := below_then (below_al (Below.refl _ _) _) b1
  go_wp2_with (go_at_call 53; refine (refNum_yes (signB true x) B d x _ m1 hbits).mono ?_; rintro e w2 ⟨A', c', rfl, hf⟩; refine Hid.out ?_)
  refine Lib.hid ?_
  have hb2 : Below W.heap.size W w2 := below_then hb1 hf.2
  have T2 := hT.below' hb2
  have k2 := T2.fst
  have k3 := T2.snd
  have k4 := T2.free 0
  have k5 := T2.free 1
  have hlt : w.heap.size < w2.heap.size := T2.lt
  go_wp2
  have hr := fun o => (T2.set2 (a' := .bool (signB true x)) (b' := .slice A' (dl x) c')).alloc o
  have r0 := fun o => (hr o).fst
  have r1 := fun o => (hr o).snd
  refine bodyPost_ret (v := .agg #[.bool (signB true x), .slice A' (dl x) c']) (by simp [results, Tryd.results34, go_sem, r0, r1]) rfl
    ⟨A', c', rfl, (hf.two (g := w.heap.size) (below_then hbW hb1) (Nat.le_refl _) (by have := hb1.size; have := HWS.out; omega)).alloc _⟩
end Go.Proofs.YtocoflojlliapaaDoor
