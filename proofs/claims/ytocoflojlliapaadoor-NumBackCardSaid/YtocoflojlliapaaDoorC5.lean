import Derived.Test.YtocoflojlliapaaDoorC4
set_option linter.unusedVariables false
namespace Go.Proofs.YtocoflojlliapaaDoor
open Go.RowKit
theorem Two.set2 {w : World} {g : Nat} {t : TypeId} {a b a' b' : Value} (h : Two w g t a b) : Two ((w.setCell ⟨g, 0, none⟩ a').setCell ⟨g, 1, none⟩ b') g t a' b' := by
  unfold Two at h ⊢
  simp [World.setCell, Array.getElem?_modify, h]
theorem Mag.pair (w : World) (a b : Nat) (ha : a < 4294967296) (hb : b < 4294967296) : Mag (w.alloc (.cells #[.int .u32 a, .int .u32 b] 43)) (some ⟨w.heap.size, 0, none⟩) 2 2 (a + 4294967296 * b) := by
  refine ⟨[a, b], Nums.lim (t := 43) ?_, Low.cons ha (Low.cons hb Low.nil), rfl, by simp [val], Nat.le_refl _⟩
  exact Nums.made w 43 .u32 [a, b]
theorem Fresh.alloc {w w1 : World} {A : Option Addr} {c N : Nat} (h : Fresh w w1 A c N) (o : Obj) : Fresh w (w1.alloc o) A c N := ⟨h.1.alloc o, below_al h.2 o⟩
set_option maxHeartbeats 1600000 in
theorem of_pos (x : Nat) (hx : x ≤ 9223372036854775807) (w : World) :
    Calls Tryd.prog 32 #[.int .i64 x] w fun e w' => ∃ A c, e = .returned (.agg #[.bool (signB false x), .slice A (dl x) c]) ∧ Fresh w w' A c x := by
  have hfit : dl x ≤ 48 := Nat.le_trans ((dl_le x 2).2 (by omega)) (by decide)
  obtain ⟨lo, hlo⟩ : ∃ lo, lo = x % 4294967296 := ⟨_, rfl⟩
  obtain ⟨hi, hhi⟩ : ∃ hi, hi = x / 4294967296 := ⟨_, rfl⟩
  have blo : lo < 4294967296 := by omega
  have bhi : hi < 4294967296 := by omega
  have elo : (x : Int) % 4294967296 = lo := by omega
  have ehi : (x : Int) / 4294967296 = hi := by omega
  have HV : Hid (lo + 4294967296 * hi = x) := Lib.hid (by omega)
  clear hlo hhi
  obtain ⟨W, hW⟩ : ∃ W, W = (w.alloc (.cells #[.bool false, .slice none 0 0] 24)).alloc (.cells #[.bool false] 4) := ⟨_, rfl⟩
  have hbW : Below w.heap.size w W := by rw [hW]; exact below_al (below_al (Below.refl _ _) _) _
  have hT : Two W w.heap.size 24 (.bool false) (.slice none 0 0) := by rw [hW]; exact (Two.made w 24 _ _).alloc _
  have hB : W.heap[w.heap.size + 1]? = some (.cells #[.bool false] 4 (0, 0)) := by
    rw [hW]
    have := one_made (w.alloc (.cells #[.bool false, .slice none 0 0] 24)) (.bool false) 4
    simpa using this
  have hWs : W.heap.size = w.heap.size + 2 := by rw [hW]; simp
  go_enter Tryd.func32, Tryd.ntmps32
  go_wp2_with (go_at_call 52; refine (signed_any false _).mono ?_; rintro e w' ⟨rfl, rfl⟩)
  rw [← hW]
  have hM := Mag.pair W lo hi blo bhi
  rw [HV.out] at hM
  rw [hWs] at hM
  have hB2 := (Below.heap_alloc W (.cells #[.int .u32 lo, .int .u32 hi] 43) (w.heap.size + 1) (by omega)).trans hB
  refine (signed1_yes (w.heap.size + 1) false (some ⟨w.heap.size + 2, 0, none⟩) 2 2 x _ hB2 hM (by decide) hfit).mono ?_
  rintro e w1 ⟨A', c', rfl, hf⟩
  have hb1 : Below W.heap.size W w1 := below_then (below_al (Below.refl _ _) _) hf.2
  have k2 := (hT.below' hb1).fst
  have k3 := (hT.below' hb1).snd
  have k4 := (hT.below' hb1).free 0
  have k5 := (hT.below' hb1).free 1
  have hlt : w.heap.size < w1.heap.size := by have := hb1.size; omega
  have HW := Lib.hid hW
  have HWS := Lib.hid hWs
  clear hW hWs
  go_wp2
  have hr := fun o => ((hT.below' hb1).set2 (a' := .bool (signB false x)) (b' := .slice A' (dl x) c')).alloc o
  have r0 := fun o => (hr o).fst
  have r1 := fun o => (hr o).snd
  exact bodyPost_ret (v := .agg #[.bool (signB false x), .slice A' (dl x) c']) (by simp [results, Tryd.results32, go_sem, r0, r1]) rfl
    ⟨A', c', rfl, (hf.two (g := w.heap.size) (below_al hbW _) (Nat.le_refl _) (by have := HWS.out; simp; omega)).alloc _⟩
set_option maxHeartbeats 1600000 in
theorem of_neg (x : Nat) (hx : x ≤ 9223372036854775808) (h0 : 0 < x) (w : World) :
    Calls Tryd.prog 32 #[.int .i64 (-(x : Int))] w fun e w' => ∃ A c, e = .returned (.agg #[.bool (signB true x), .slice A (dl x) c]) ∧ Fresh w w' A c x := by
  have hfit : dl x ≤ 48 := Nat.le_trans ((dl_le x 2).2 (by omega)) (by decide)
  obtain ⟨lo, hlo⟩ : ∃ lo, lo = x % 4294967296 := ⟨_, rfl⟩
  obtain ⟨hi, hhi⟩ : ∃ hi, hi = x / 4294967296 := ⟨_, rfl⟩
  have blo : lo < 4294967296 := by omega
  have bhi : hi < 4294967296 := by omega
  have elo : (x : Int) % 4294967296 = lo := by omega
  have ehi : (x : Int) / 4294967296 = hi := by omega
  have HV : Hid (lo + 4294967296 * hi = x) := Lib.hid (by omega)
  clear hlo hhi
  obtain ⟨W, hW⟩ : ∃ W, W = (w.alloc (.cells #[.bool false, .slice none 0 0] 24)).alloc (.cells #[.bool true] 4) := ⟨_, rfl⟩
  have hbW : Below w.heap.size w W := by rw [hW]; exact below_al (below_al (Below.refl _ _) _) _
  have hT : Two W w.heap.size 24 (.bool false) (.slice none 0 0) := by rw [hW]; exact (Two.made w 24 _ _).alloc _
  have hB : W.heap[w.heap.size + 1]? = some (.cells #[.bool true] 4 (0, 0)) := by
    rw [hW]
    have := one_made (w.alloc (.cells #[.bool false, .slice none 0 0] 24)) (.bool true) 4
    simpa using this
  have hWs : W.heap.size = w.heap.size + 2 := by rw [hW]; simp
  have en : IntKind.u64.wrap (-IntKind.u64.wrap (-(x : Int))) = (x : Int) := by rw [IntKind.wrap_u64, IntKind.wrap_u64]; omega
  go_enter Tryd.func32, Tryd.ntmps32
  go_wp2_with (go_at_call 52; refine (signed_any true _).mono ?_; rintro e w' ⟨rfl, rfl⟩)
  rw [← hW]
  have hM := Mag.pair W lo hi blo bhi
  rw [HV.out] at hM
  rw [hWs] at hM
  have hB2 := (Below.heap_alloc W (.cells #[.int .u32 lo, .int .u32 hi] 43) (w.heap.size + 1) (by omega)).trans hB
  refine (signed1_yes (w.heap.size + 1) true (some ⟨w.heap.size + 2, 0, none⟩) 2 2 x _ hB2 hM (by decide) hfit).mono ?_
  rintro e w1 ⟨A', c', rfl, hf⟩
  have hb1 : Below W.heap.size W w1 := below_then (below_al (Below.refl _ _) _) hf.2
  have k2 := (hT.below' hb1).fst
  have k3 := (hT.below' hb1).snd
  have k4 := (hT.below' hb1).free 0
  have k5 := (hT.below' hb1).free 1
  have hlt : w.heap.size < w1.heap.size := by have := hb1.size; omega
  have HW := Lib.hid hW
  have HWS := Lib.hid hWs
  clear hW hWs
  go_wp2
  have hr := fun o => ((hT.below' hb1).set2 (a' := .bool (signB true x)) (b' := .slice A' (dl x) c')).alloc o
  have r0 := fun o => (hr o).fst
  have r1 := fun o => (hr o).snd
  exact bodyPost_ret (v := .agg #[.bool (signB true x), .slice A' (dl x) c']) (by simp [results, Tryd.results32, go_sem, r0, r1]) rfl
    ⟨A', c', rfl, (hf.two (g := w.heap.size) (below_al hbW _) (Nat.le_refl _) (by have := HWS.out; simp; omega)).alloc _⟩
end Go.Proofs.YtocoflojlliapaaDoor
