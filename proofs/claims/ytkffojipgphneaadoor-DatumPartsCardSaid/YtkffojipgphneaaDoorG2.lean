/- The document's Same of two data. -/
import Derived.Test.YtkffojipgphneaaDoorG1
import Derived.Test.YtkffojipgphneaaDoorS0
import Derived.Test.YtkffojipgphneaaDoorW2
import Derived.Deep.RegionHeld3
set_option linter.unusedVariables false
set_option linter.unusedSimpArgs false
namespace Go.Proofs.YtkffojipgphneaaDoor
open Go Go.RowKit
set_option maxRecDepth 100000 in
set_option maxHeartbeats 3200000 in
theorem rsame_no (d : D) (f : F) (e : D) (g : F) (w : World) (v1 : Val (fun k => k < w.heap.size) w d f) (v2 : Val (fun k => k < w.heap.size) w e g) (h : alB d e f.len g.len = false) :
    Calls Tryd.prog 18 #[.agg #[.int .i64 d.k, .int .i32 d.c, .bool d.neg, .slice d.mA d.mag.length d.mcap, .string d.t, .slice d.lA f.len d.lcap], .agg #[.int .i64 e.k, .int .i32 e.c, .bool e.neg, .slice e.mA e.mag.length e.mcap, .string e.t, .slice e.lA g.len e.lcap]] w fun x w' => x = .returned (.bool false) ∧ Below w.heap.size w w' := by
  obtain ⟨W, hW⟩ : ∃ W, W = (w.alloc (six d f.len)).alloc (six e g.len) := ⟨_, rfl⟩
  have hbW : Below w.heap.size w W := by rw [hW]; exact ((Below.refl _ _).alloc (Nat.le_refl _) _).alloc (by simp) _
  have hx1 : W.heap[w.heap.size]? = some (six d f.len) := by rw [hW]; exact (Below.heap_alloc _ _ _ (by simp)).trans (heap_alloc_new _ _)
  have hx2 : W.heap[w.heap.size + 1]? = some (six e g.len) := by
    rw [hW]
    have := heap_alloc_new (w.alloc (six d f.len)) (six e g.len)
    rwa [World.size_alloc] at this
  have ⟨n1, n2, n3, n4, n5, n6⟩ := Node.of_six hx1
  have ⟨p1, p2, p3, p4, p5, p6⟩ := Node.of_six hx2
  simp only [Nat.zero_add] at n1 n2 n3 n4 n5 n6 p1 p2 p3 p4 p5 p6
  have HN : Hid (∀ B, numB d.neg e.neg d.mag e.mag = B → Calls Tryd.prog 21 #[.agg #[.bool d.neg, .slice d.mA d.mag.length d.mcap], .agg #[.bool e.neg, .slice e.mA e.mag.length e.mcap]] W fun x w' => x = .returned (.bool B) ∧ Below W.heap.size W w') := Lib.hid (fun B hB =>
    numsame_any _ _ _ _ _ _ _ _ d.mag e.mag W (Lib.hid rfl) (Lib.hid rfl) (v1.below hbW).mag (v2.below hbW).mag v1.ok.magc v2.ok.magc B (Lib.hid hB))
  have hl1 := v1.ok.kidc
  have hl2 := v2.ok.kidc
  have X1 := Lib.hid (fun (V : World) (hb : Below W.heap.size W V) => Node.of_six ((hb.block _ (Array.getElem?_eq_some_iff.1 hx1).1).trans hx1))
  have X2 := Lib.hid (fun (V : World) (hb : Below W.heap.size W V) => Node.of_six ((hb.block _ (Array.getElem?_eq_some_iff.1 hx2).1).trans hx2))
  have HW := Lib.hid hW
  clear hW hx1 hx2 v1 v2
  by_cases c1 : d.k = e.k
  rotate_left
  · have b1 : (d.k != e.k) = true := by simpa using c1
    clear c1 h
    go_enter Tryd.func18, Tryd.ntmps18
    go_wp2_with fail
    rw [show (w.alloc (.cells #[.int .i64 d.k, .int .i32 d.c, .bool d.neg, .slice d.mA d.mag.length d.mcap, .string d.t, .slice d.lA f.len d.lcap] 27)).alloc (.cells #[.int .i64 e.k, .int .i32 e.c, .bool e.neg, .slice e.mA e.mag.length e.mcap, .string e.t, .slice e.lA g.len e.lcap] 27) = W from HW.out.symm]
    go_wp2_with fail
    go_ret
    exact ⟨rfl, hbW⟩
  have b1 : (d.k != e.k) = false := by simp [c1]
  by_cases c2 : d.c = e.c
  rotate_left
  · have b2 : (d.c != e.c) = true := by simpa using c2
    clear c1 c2 h
    go_enter Tryd.func18, Tryd.ntmps18
    go_wp2_with fail
    rw [show (w.alloc (.cells #[.int .i64 d.k, .int .i32 d.c, .bool d.neg, .slice d.mA d.mag.length d.mcap, .string d.t, .slice d.lA f.len d.lcap] 27)).alloc (.cells #[.int .i64 e.k, .int .i32 e.c, .bool e.neg, .slice e.mA e.mag.length e.mcap, .string e.t, .slice e.lA g.len e.lcap] 27) = W from HW.out.symm]
    go_wp2_with fail
    go_ret
    exact ⟨rfl, hbW⟩
  have b2 : (d.c != e.c) = false := by simp [c2]
  cases c3 : numB d.neg e.neg d.mag e.mag with
  | false =>
    have C := Lib.hid (HN.out false c3)
    clear c1 c2 c3 h
    go_enter Tryd.func18, Tryd.ntmps18
    go_wp2_with (go_at_call 21; rw [show (w.alloc (.cells #[.int .i64 d.k, .int .i32 d.c, .bool d.neg, .slice d.mA d.mag.length d.mcap, .string d.t, .slice d.lA f.len d.lcap] 27)).alloc (.cells #[.int .i64 e.k, .int .i32 e.c, .bool e.neg, .slice e.mA e.mag.length e.mcap, .string e.t, .slice e.lA g.len e.lcap] 27) = W from HW.out.symm]; refine (C.out).mono ?_; rintro x w1 ⟨rfl, b3⟩)
    go_ret
    exact ⟨rfl, hbW.trans (b3.mono hbW.size)⟩
  | true =>
    have C := Lib.hid (HN.out true c3)
    have hm : d.neg = e.neg ∧ d.mag = e.mag := by simpa [numB] using c3
    by_cases c4 : d.t = e.t
    · have c5 : f.len ≠ g.len := by
        intro c5
        simp [alB, alR, c1, c2, hm, c4, c5] at h
      have b4 : (d.t.toList == e.t.toList) = true := by simp [c4]
      have b5 : ((f.len : Int) != (g.len : Int)) = true := by rw [bne_iff_ne]; omega
      clear c1 c2 c3 c4 c5 hm h
      go_enter Tryd.func18, Tryd.ntmps18
      go_wp2_with (go_at_call 21; rw [show (w.alloc (.cells #[.int .i64 d.k, .int .i32 d.c, .bool d.neg, .slice d.mA d.mag.length d.mcap, .string d.t, .slice d.lA f.len d.lcap] 27)).alloc (.cells #[.int .i64 e.k, .int .i32 e.c, .bool e.neg, .slice e.mA e.mag.length e.mcap, .string e.t, .slice e.lA g.len e.lcap] 27) = W from HW.out.symm]; refine (C.out).mono ?_; rintro x w1 ⟨rfl, b3⟩; refine Hid.out ?_)
      refine Lib.hid ?_
      clear n1 n2 n3 n4 n5 n6 p1 p2 p3 p4 p5 p6
      have ⟨n1, n2, n3, n4, n5, n6⟩ := X1.out _ b3
      have ⟨p1, p2, p3, p4, p5, p6⟩ := X2.out _ b3
      simp only [Nat.zero_add] at n1 n2 n3 n4 n5 n6 p1 p2 p3 p4 p5 p6
      go_wp2_with fail
      go_ret
      exact ⟨rfl, hbW.trans (b3.mono hbW.size)⟩
    · have b4 : (d.t.toList == e.t.toList) = false := by rw [beq_eq_false_iff_ne]; exact fun h => c4 (bytes_inj h)
      clear c1 c2 c3 c4 hm h
      go_enter Tryd.func18, Tryd.ntmps18
      go_wp2_with (go_at_call 21; rw [show (w.alloc (.cells #[.int .i64 d.k, .int .i32 d.c, .bool d.neg, .slice d.mA d.mag.length d.mcap, .string d.t, .slice d.lA f.len d.lcap] 27)).alloc (.cells #[.int .i64 e.k, .int .i32 e.c, .bool e.neg, .slice e.mA e.mag.length e.mcap, .string e.t, .slice e.lA g.len e.lcap] 27) = W from HW.out.symm]; refine (C.out).mono ?_; rintro x w1 ⟨rfl, b3⟩; refine Hid.out ?_)
      refine Lib.hid ?_
      clear n1 n2 n3 n4 n5 n6 p1 p2 p3 p4 p5 p6
      have ⟨n1, n2, n3, n4, n5, n6⟩ := X1.out _ b3
      have ⟨p1, p2, p3, p4, p5, p6⟩ := X2.out _ b3
      simp only [Nat.zero_add] at n1 n2 n3 n4 n5 n6 p1 p2 p3 p4 p5 p6
      go_wp2_with fail
      go_ret
      exact ⟨rfl, hbW.trans (b3.mono hbW.size)⟩
theorem up_below {V V1 V2 : World} (h : Below V.heap.size V V1) (k : Below V1.heap.size V1 V2) : Below V.heap.size V V2 := h.trans (k.mono h.size)
theorem alB_eq' {d e : D} {m n : Nat} (h : alB d e m n = true) : d.k = e.k ∧ d.c = e.c ∧ d.t = e.t ∧ m = n ∧ d.neg = e.neg ∧ d.mag = e.mag := by
  simpa [alB, alR] using h
def SAll (k : F) : Prop := ∀ i, i < k.len → ∀ (e : D) (g : F) (w : World), Val (fun k => k < w.heap.size) w (k.nthD i) (k.nthK i) → Val (fun k => k < w.heap.size) w e g →
  Calls Tryd.prog 18 #[.agg #[.int .i64 (k.nthD i).k, .int .i32 (k.nthD i).c, .bool (k.nthD i).neg, .slice (k.nthD i).mA (k.nthD i).mag.length (k.nthD i).mcap, .string (k.nthD i).t, .slice (k.nthD i).lA (k.nthK i).len (k.nthD i).lcap], .agg #[.int .i64 e.k, .int .i32 e.c, .bool e.neg, .slice e.mA e.mag.length e.mcap, .string e.t, .slice e.lA g.len e.lcap]] w fun x w' => x = .returned (.bool (sameD (k.nthD i) (k.nthK i) e g)) ∧ Below w.heap.size w w'
theorem sameF_drop (f g : F) (i : Nat) (hf : i < f.len) (hg : i < g.len) : sameF (f.drop i) (g.drop i) = (sameD (f.nthD i) (f.nthK i) (g.nthD i) (g.nthK i) && sameF (f.drop (i + 1)) (g.drop (i + 1))) := by
  rw [F.drop_lt f i hf, F.drop_lt g i hg]
  simp [sameF, sameD]
set_option maxRecDepth 100000 in
set_option maxHeartbeats 6400000 in
theorem rsame_yes (d : D) (f : F) (e : D) (g : F) (w : World) (v1 : Val (fun k => k < w.heap.size) w d f) (v2 : Val (fun k => k < w.heap.size) w e g) (ih : SAll f) (h : alB d e f.len g.len = true) :
    Calls Tryd.prog 18 #[.agg #[.int .i64 d.k, .int .i32 d.c, .bool d.neg, .slice d.mA d.mag.length d.mcap, .string d.t, .slice d.lA f.len d.lcap], .agg #[.int .i64 e.k, .int .i32 e.c, .bool e.neg, .slice e.mA e.mag.length e.mcap, .string e.t, .slice e.lA g.len e.lcap]] w fun x w' => x = .returned (.bool (sameF f g)) ∧ Below w.heap.size w w' := by
  obtain ⟨W, hW⟩ : ∃ W, W = (w.alloc (six d f.len)).alloc (six e g.len) := ⟨_, rfl⟩
  have hbW : Below w.heap.size w W := by rw [hW]; exact ((Below.refl _ _).alloc (Nat.le_refl _) _).alloc (by simp) _
  have hx1 : W.heap[w.heap.size]? = some (six d f.len) := by rw [hW]; exact (Below.heap_alloc _ _ _ (by simp)).trans (heap_alloc_new _ _)
  have hx2 : W.heap[w.heap.size + 1]? = some (six e g.len) := by
    rw [hW]
    have := heap_alloc_new (w.alloc (six d f.len)) (six e g.len)
    rwa [World.size_alloc] at this
  have ⟨n1, n2, n3, n4, n5, n6⟩ := Node.of_six hx1
  have ⟨p1, p2, p3, p4, p5, p6⟩ := Node.of_six hx2
  simp only [Nat.zero_add] at n1 n2 n3 n4 n5 n6 p1 p2 p3 p4 p5 p6
  have HN : Hid (∀ B, numB d.neg e.neg d.mag e.mag = B → Calls Tryd.prog 21 #[.agg #[.bool d.neg, .slice d.mA d.mag.length d.mcap], .agg #[.bool e.neg, .slice e.mA e.mag.length e.mcap]] W fun x w' => x = .returned (.bool B) ∧ Below W.heap.size W w') := Lib.hid (fun B hB =>
    numsame_any _ _ _ _ _ _ _ _ d.mag e.mag W (Lib.hid rfl) (Lib.hid rfl) (v1.below hbW).mag (v2.below hbW).mag v1.ok.magc v2.ok.magc B (Lib.hid hB))
  have hl1 := v1.ok.kidc
  have hl2 := v2.ok.kidc
  have X1 := Lib.hid (fun (V : World) (hb : Below W.heap.size W V) => Node.of_six ((hb.block _ (Array.getElem?_eq_some_iff.1 hx1).1).trans hx1))
  have X2 := Lib.hid (fun (V : World) (hb : Below W.heap.size W V) => Node.of_six ((hb.block _ (Array.getElem?_eq_some_iff.1 hx2).1).trans hx2))
  have ⟨c1, c2, c4, c5, c6, c7⟩ := alB_eq' h
  have C := Lib.hid (HN.out true (by simp [numB, c6, c7]))
  have b1 : (d.k != e.k) = false := by simp [c1]
  have b2 : (d.c != e.c) = false := by simp [c2]
  have b4 : (d.t.toList == e.t.toList) = true := by simp [c4]
  have b5 : ((f.len : Int) != (g.len : Int)) = false := by simp [c5]
  have HK1 := Lib.hid v1.ok.kids
  have HK2 := Lib.hid v2.ok.kids
  have V1 := Lib.hid (v1.below hbW)
  have V2 := Lib.hid (v2.below hbW)
  have HIH := Lib.hid ih
  have HW := Lib.hid hW
  have HL := Lib.hid c5
  clear hW hx1 hx2 v1 v2 c1 c2 c4 c5 c6 c7 h ih
  go_enter Tryd.func18, Tryd.ntmps18
  go_wp2_with (go_at_call 21; rw [show (w.alloc (.cells #[.int .i64 d.k, .int .i32 d.c, .bool d.neg, .slice d.mA d.mag.length d.mcap, .string d.t, .slice d.lA f.len d.lcap] 27)).alloc (.cells #[.int .i64 e.k, .int .i32 e.c, .bool e.neg, .slice e.mA e.mag.length e.mcap, .string e.t, .slice e.lA g.len e.lcap] 27) = W from HW.out.symm]; refine (C.out).mono ?_; rintro x w1 ⟨rfl, b3⟩; refine Hid.out ?_)
  refine Lib.hid ?_
  clear n1 n2 n3 n4 n5 n6 p1 p2 p3 p4 p5 p6
  have ⟨n1, n2, n3, n4, n5, n6⟩ := X1.out _ b3
  have ⟨p1, p2, p3, p4, p5, p6⟩ := X2.out _ b3
  simp only [Nat.zero_add] at n1 n2 n3 n4 n5 n6 p1 p2 p3 p4 p5 p6
  go_wp2_with fail
  clear b1 b2 b4 b5 n1 n2 n3 n4 n5 n6 p1 p2 p3 p4 p5 p6
  go_loopw [5] (fun i wr => ∃ j : Nat, j ≤ f.len ∧ i = .int .i64 (j : Nat) ∧ Hid (sameF f g = sameF (f.drop j) (g.drop j)) ∧ Hid (Below W.heap.size W wr)) (fun i _ => f.len - (intOf i).toNat)
  case atStart => exact ⟨0, Nat.zero_le _, rfl, Lib.hid (by rw [F.drop_zero, F.drop_zero]), Lib.hid b3⟩
  case round =>
    obtain ⟨j, hj, rfl, hE, hB⟩ := hrel
    obtain ⟨V, hV⟩ : ∃ V, V = wr := ⟨_, rfl⟩
    rw [← hV] at hB ⊢
    clear hV
    have lc1 := (X1.out V hB.out).l
    have lc2 := (X2.out V hB.out).l
    simp only [Nat.zero_add] at lc1 lc2
    by_cases hlt : j < f.len
    · have hlg : j < g.len := by have := HL.out; omega
      rw [HK1.out (by omega)] at lc1
      rw [HK2.out (by omega)] at lc2
      have vF := (V1.out.below hB.out).kids
      have vG := (V2.out.below hB.out).kids
      have it1 := AtF.nth vF 0 j hlt
      have it2 := AtF.nth vG 0 j hlg
      have y1 := it1.val
      have y2 := it2.val
      simp only [] at y1 y2
      have ⟨i1, i2, i3, i4, i5, i6⟩ := it1.node
      have ⟨k1, k2, k3, k4, k5, k6⟩ := it2.node
      simp only [] at i1 i2 i3 i4 i5 i6 k1 k2 k3 k4 k5 k6
      have HS := Lib.hid (hE.out.trans (sameF_drop f g j hlt hlg))
      have CC := Lib.hid (fun (V' : World) (hb : Below V.heap.size V V') => HIH.out j hlt (g.nthD j) (g.nthK j) V' (y1.below hb) (y2.below hb))
      have KT : ∀ V', Below V.heap.size V V' → (Below V.heap.size V V' ∧ V'.cell? ⟨w.heap.size, 5, none⟩ = some (.slice (some ⟨d.kb, d.ko, none⟩) f.len d.lcap) ∧ V'.cell? ⟨w.heap.size + 1, 5, none⟩ = some (.slice (some ⟨e.kb, e.ko, none⟩) g.len e.lcap) ∧ V'.cell? ⟨d.kb, d.ko + j * 6, none⟩ = some (.int .i64 (f.nthD j).k) ∧ V'.cell? ⟨d.kb, d.ko + j * 6 + 1, none⟩ = some (.int .i32 (f.nthD j).c) ∧ V'.cell? ⟨d.kb, d.ko + j * 6 + 2, none⟩ = some (.bool (f.nthD j).neg) ∧ V'.cell? ⟨d.kb, d.ko + j * 6 + 3, none⟩ = some (.slice (f.nthD j).mA (f.nthD j).mag.length (f.nthD j).mcap) ∧ V'.cell? ⟨d.kb, d.ko + j * 6 + 4, none⟩ = some (.string (f.nthD j).t) ∧ V'.cell? ⟨d.kb, d.ko + j * 6 + 5, none⟩ = some (.slice (f.nthD j).lA (f.nthK j).len (f.nthD j).lcap) ∧ V'.cell? ⟨e.kb, e.ko + j * 6, none⟩ = some (.int .i64 (g.nthD j).k) ∧ V'.cell? ⟨e.kb, e.ko + j * 6 + 1, none⟩ = some (.int .i32 (g.nthD j).c) ∧ V'.cell? ⟨e.kb, e.ko + j * 6 + 2, none⟩ = some (.bool (g.nthD j).neg) ∧ V'.cell? ⟨e.kb, e.ko + j * 6 + 3, none⟩ = some (.slice (g.nthD j).mA (g.nthD j).mag.length (g.nthD j).mcap) ∧ V'.cell? ⟨e.kb, e.ko + j * 6 + 4, none⟩ = some (.string (g.nthD j).t) ∧ V'.cell? ⟨e.kb, e.ko + j * 6 + 5, none⟩ = some (.slice (g.nthD j).lA (g.nthK j).len (g.nthD j).lcap)) := fun V' hb => by
        have z1 := it1.node.keep it1.g (Keep.of_below hb)
        have z2 := it2.node.keep it2.g (Keep.of_below hb)
        have z3 := (X1.out V' (hB.out.trans (hb.mono hB.out.size))).l
        have z4 := (X2.out V' (hB.out.trans (hb.mono hB.out.size))).l
        rw [HK1.out (by omega)] at z3
        rw [HK2.out (by omega)] at z4
        exact ⟨hb, z3, z4, z1.k, z1.c, z1.neg, z1.mag, z1.t, z1.l, z2.k, z2.c, z2.neg, z2.mag, z2.t, z2.l⟩
      clear it1 it2 y1 y2 vF vG
      generalize sameD (f.nthD j) (f.nthK j) (g.nthD j) (g.nthK j) = R at *
      generalize f.nthD j = x at *
      generalize f.nthK j = kx at *
      generalize g.nthD j = y at *
      generalize g.nthK j = ky at *
      have BRd : Below V.heap.size V V.drew := (Below.refl _ _).drew
      cases R with
      | true =>
        go_wp2_with fail
        go_region_held3 (fun V' => Below V.heap.size V V' ∧ V'.cell? ⟨w.heap.size, 5, none⟩ = some (.slice (some ⟨d.kb, d.ko, none⟩) f.len d.lcap) ∧ V'.cell? ⟨w.heap.size + 1, 5, none⟩ = some (.slice (some ⟨e.kb, e.ko, none⟩) g.len e.lcap) ∧ V'.cell? ⟨d.kb, d.ko + j * 6, none⟩ = some (.int .i64 x.k) ∧ V'.cell? ⟨d.kb, d.ko + j * 6 + 1, none⟩ = some (.int .i32 x.c) ∧ V'.cell? ⟨d.kb, d.ko + j * 6 + 2, none⟩ = some (.bool x.neg) ∧ V'.cell? ⟨d.kb, d.ko + j * 6 + 3, none⟩ = some (.slice x.mA x.mag.length x.mcap) ∧ V'.cell? ⟨d.kb, d.ko + j * 6 + 4, none⟩ = some (.string x.t) ∧ V'.cell? ⟨d.kb, d.ko + j * 6 + 5, none⟩ = some (.slice x.lA kx.len x.lcap) ∧ V'.cell? ⟨e.kb, e.ko + j * 6, none⟩ = some (.int .i64 y.k) ∧ V'.cell? ⟨e.kb, e.ko + j * 6 + 1, none⟩ = some (.int .i32 y.c) ∧ V'.cell? ⟨e.kb, e.ko + j * 6 + 2, none⟩ = some (.bool y.neg) ∧ V'.cell? ⟨e.kb, e.ko + j * 6 + 3, none⟩ = some (.slice y.mA y.mag.length y.mcap) ∧ V'.cell? ⟨e.kb, e.ko + j * 6 + 4, none⟩ = some (.string y.t) ∧ V'.cell? ⟨e.kb, e.ko + j * 6 + 5, none⟩ = some (.slice y.lA ky.len y.lcap)) (exact KT _ (by first | assumption | exact Below.drew (by assumption) | exact Below.refl _ _))
          ((go_at_call 18; refine (CC.out _ (by assumption)).mono ?_; rintro z w2 ⟨rfl, c2⟩; have B2 := up_below (by assumption) c2))
        go_wp2
        go_roundw
        case rel => exact ⟨j + 1, by omega, by go_num, Lib.hid (by rw [HS.out]; simp), Lib.hid (hB.out.trans (B2.mono hB.out.size))⟩
        case measure => simp [intOf]; omega
      | false =>
        go_wp2_with fail
        go_region_held3 (fun V' => Below V.heap.size V V' ∧ V'.cell? ⟨w.heap.size, 5, none⟩ = some (.slice (some ⟨d.kb, d.ko, none⟩) f.len d.lcap) ∧ V'.cell? ⟨w.heap.size + 1, 5, none⟩ = some (.slice (some ⟨e.kb, e.ko, none⟩) g.len e.lcap) ∧ V'.cell? ⟨d.kb, d.ko + j * 6, none⟩ = some (.int .i64 x.k) ∧ V'.cell? ⟨d.kb, d.ko + j * 6 + 1, none⟩ = some (.int .i32 x.c) ∧ V'.cell? ⟨d.kb, d.ko + j * 6 + 2, none⟩ = some (.bool x.neg) ∧ V'.cell? ⟨d.kb, d.ko + j * 6 + 3, none⟩ = some (.slice x.mA x.mag.length x.mcap) ∧ V'.cell? ⟨d.kb, d.ko + j * 6 + 4, none⟩ = some (.string x.t) ∧ V'.cell? ⟨d.kb, d.ko + j * 6 + 5, none⟩ = some (.slice x.lA kx.len x.lcap) ∧ V'.cell? ⟨e.kb, e.ko + j * 6, none⟩ = some (.int .i64 y.k) ∧ V'.cell? ⟨e.kb, e.ko + j * 6 + 1, none⟩ = some (.int .i32 y.c) ∧ V'.cell? ⟨e.kb, e.ko + j * 6 + 2, none⟩ = some (.bool y.neg) ∧ V'.cell? ⟨e.kb, e.ko + j * 6 + 3, none⟩ = some (.slice y.mA y.mag.length y.mcap) ∧ V'.cell? ⟨e.kb, e.ko + j * 6 + 4, none⟩ = some (.string y.t) ∧ V'.cell? ⟨e.kb, e.ko + j * 6 + 5, none⟩ = some (.slice y.lA ky.len y.lcap)) (exact KT _ (by first | assumption | exact Below.drew (by assumption) | exact Below.refl _ _))
          ((go_at_call 18; refine (CC.out _ (by assumption)).mono ?_; rintro z w2 ⟨rfl, c2⟩; have B2 := up_below (by assumption) c2))
        go_wp2
        go_ret
        exact ⟨by rw [HS.out]; rfl, hbW.trans ((hB.out.trans (B2.mono hB.out.size)).mono hbW.size)⟩
    · have ej : j = f.len := by omega
      have HR : Hid (sameF f g = true) := Lib.hid (by
        rw [hE.out, ej, F.drop_len]
        rw [show f.len = g.len from HL.out, F.drop_len]
        rfl)
      go_wp2
      go_ret
      exact ⟨by rw [HR.out]; rfl, hbW.trans (hB.out.mono hbW.size)⟩
theorem rsame_one (d : D) (f : F) (e : D) (g : F) (w : World) (v1 : Val (fun k => k < w.heap.size) w d f) (v2 : Val (fun k => k < w.heap.size) w e g) (ih : SAll f) :
    Calls Tryd.prog 18 #[.agg #[.int .i64 d.k, .int .i32 d.c, .bool d.neg, .slice d.mA d.mag.length d.mcap, .string d.t, .slice d.lA f.len d.lcap], .agg #[.int .i64 e.k, .int .i32 e.c, .bool e.neg, .slice e.mA e.mag.length e.mcap, .string e.t, .slice e.lA g.len e.lcap]] w fun x w' => x = .returned (.bool (sameD d f e g)) ∧ Below w.heap.size w w' := by
  cases h : alB d e f.len g.len with
  | false =>
    rw [show sameD d f e g = false by simp [sameD, h]]
    exact rsame_no d f e g w v1 v2 h
  | true =>
    rw [show sameD d f e g = sameF f g by simp [sameD, h]]
    exact rsame_yes d f e g w v1 v2 ih h
theorem sall (f : F) : SAll f := by
  induction f with
  | nil => intro i h; simp [F.len] at h
  | cons d k r ihk ihr =>
    intro i h
    cases i with
    | zero => exact fun e g w v1 v2 => rsame_one d k e g w v1 v2 ihk
    | succ i => exact ihr i (by simp only [F.len] at h; omega)
theorem rsame_any (d : D) (f : F) (e : D) (g : F) (w : World) (v1 : Val (fun k => k < w.heap.size) w d f) (v2 : Val (fun k => k < w.heap.size) w e g) :
    Calls Tryd.prog 18 #[.agg #[.int .i64 d.k, .int .i32 d.c, .bool d.neg, .slice d.mA d.mag.length d.mcap, .string d.t, .slice d.lA f.len d.lcap], .agg #[.int .i64 e.k, .int .i32 e.c, .bool e.neg, .slice e.mA e.mag.length e.mcap, .string e.t, .slice e.lA g.len e.lcap]] w fun x w' => x = .returned (.bool (sameD d f e g)) ∧ Below w.heap.size w w' := rsame_one d f e g w v1 v2 (sall f)
end Go.Proofs.YtkffojipgphneaaDoor
