/- The document's SameList. -/
import Derived.Test.YtkffojipgphneaaDoorG2
set_option linter.unusedVariables false
set_option linter.unusedSimpArgs false
namespace Go.Proofs.YtkffojipgphneaaDoor
open Go Go.RowKit
theorem sameF_ne {f g : F} (h : f.len ≠ g.len) : sameF f g = false := by
  cases hs : sameF f g with
  | false => rfl
  | true => exact absurd (sameF_len _ _ hs) h
set_option maxHeartbeats 1600000 in
theorem rlist_ne (f g : F) (A B : Option Addr) (c1 c2 : Nat) (w : World) (h : f.len ≠ g.len) (l1 : f.len ≤ 140737488355328) (l2 : g.len ≤ 140737488355328) :
    Calls Tryd.prog 30 #[.slice A f.len c1, .slice B g.len c2] w fun x w' => x = .returned (.bool (sameF f g)) ∧ Below w.heap.size w w' := by
  rw [sameF_ne h]
  have b5 : ((f.len : Int) != (g.len : Int)) = true := by rw [bne_iff_ne]; omega
  clear h
  go_enter Tryd.func30, Tryd.ntmps30
  go_wp2
  go_ret
  exact ⟨rfl, Below.refl _ _⟩
set_option maxRecDepth 100000 in
set_option maxHeartbeats 6400000 in
theorem rlist_eq (f g : F) (A B : Option Addr) (b o b2 o2 c1 c2 : Nat) (w : World) (h : f.len = g.len) (l1 : f.len ≤ 140737488355328) (hA : Hid (0 < f.len → A = some ⟨b, o, none⟩)) (hB : Hid (0 < g.len → B = some ⟨b2, o2, none⟩)) (hF : AtF (fun k => k < w.heap.size) w f b o) (hG : AtF (fun k => k < w.heap.size) w g b2 o2) :
    Calls Tryd.prog 30 #[.slice A f.len c1, .slice B g.len c2] w fun x w' => x = .returned (.bool (sameF f g)) ∧ Below w.heap.size w w' := by
  have b5 : ((f.len : Int) != (g.len : Int)) = false := by simp [h]
  have l2 : g.len ≤ 140737488355328 := by omega
  have HL := Lib.hid h
  clear h
  go_enter Tryd.func30, Tryd.ntmps30
  go_wp2_with fail
  clear b5
  go_loopw [5] (fun i wr => ∃ j : Nat, j ≤ f.len ∧ i = .int .i64 (j : Nat) ∧ Hid (sameF f g = sameF (f.drop j) (g.drop j)) ∧ Hid (Below w.heap.size w wr)) (fun i _ => f.len - (intOf i).toNat)
  case atStart => exact ⟨0, Nat.zero_le _, rfl, Lib.hid (by rw [F.drop_zero, F.drop_zero]), Lib.hid (Below.refl _ _)⟩
  case round =>
    obtain ⟨j, hj, rfl, hE, hBl⟩ := hrel
    obtain ⟨V, hV⟩ : ∃ V, V = wr := ⟨_, rfl⟩
    rw [← hV] at hBl ⊢
    clear hV
    by_cases hlt : j < f.len
    · have hlg : j < g.len := by have := HL.out; omega
      obtain rfl := hA.out (by omega)
      obtain rfl := hB.out (by omega)
      have vF := AtF.mono (fun k hk => Nat.lt_of_lt_of_le hk hBl.out.size) _ _ _ (AtF.keep (Keep.of_below hBl.out) _ _ _ hF)
      have vG := AtF.mono (fun k hk => Nat.lt_of_lt_of_le hk hBl.out.size) _ _ _ (AtF.keep (Keep.of_below hBl.out) _ _ _ hG)
      have it1 := AtF.nth vF 0 j hlt
      have it2 := AtF.nth vG 0 j hlg
      have y1 := it1.val
      have y2 := it2.val
      simp only [] at y1 y2
      have ⟨i1, i2, i3, i4, i5, i6⟩ := it1.node
      have ⟨k1, k2, k3, k4, k5, k6⟩ := it2.node
      simp only [] at i1 i2 i3 i4 i5 i6 k1 k2 k3 k4 k5 k6
      have HS := Lib.hid (hE.out.trans (sameF_drop f g j hlt hlg))
      have CC := Lib.hid (fun (V' : World) (hb : Below V.heap.size V V') => rsame_any (f.nthD j) (f.nthK j) (g.nthD j) (g.nthK j) V' (y1.below hb) (y2.below hb))
      have KT : ∀ V', Below V.heap.size V V' → (Below V.heap.size V V' ∧ V'.cell? ⟨b, o + j * 6, none⟩ = some (.int .i64 (f.nthD j).k) ∧ V'.cell? ⟨b, o + j * 6 + 1, none⟩ = some (.int .i32 (f.nthD j).c) ∧ V'.cell? ⟨b, o + j * 6 + 2, none⟩ = some (.bool (f.nthD j).neg) ∧ V'.cell? ⟨b, o + j * 6 + 3, none⟩ = some (.slice (f.nthD j).mA (f.nthD j).mag.length (f.nthD j).mcap) ∧ V'.cell? ⟨b, o + j * 6 + 4, none⟩ = some (.string (f.nthD j).t) ∧ V'.cell? ⟨b, o + j * 6 + 5, none⟩ = some (.slice (f.nthD j).lA (f.nthK j).len (f.nthD j).lcap) ∧ V'.cell? ⟨b2, o2 + j * 6, none⟩ = some (.int .i64 (g.nthD j).k) ∧ V'.cell? ⟨b2, o2 + j * 6 + 1, none⟩ = some (.int .i32 (g.nthD j).c) ∧ V'.cell? ⟨b2, o2 + j * 6 + 2, none⟩ = some (.bool (g.nthD j).neg) ∧ V'.cell? ⟨b2, o2 + j * 6 + 3, none⟩ = some (.slice (g.nthD j).mA (g.nthD j).mag.length (g.nthD j).mcap) ∧ V'.cell? ⟨b2, o2 + j * 6 + 4, none⟩ = some (.string (g.nthD j).t) ∧ V'.cell? ⟨b2, o2 + j * 6 + 5, none⟩ = some (.slice (g.nthD j).lA (g.nthK j).len (g.nthD j).lcap)) := fun V' hb => by
        have z1 := it1.node.keep it1.g (Keep.of_below hb)
        have z2 := it2.node.keep it2.g (Keep.of_below hb)
        exact ⟨hb, z1.k, z1.c, z1.neg, z1.mag, z1.t, z1.l, z2.k, z2.c, z2.neg, z2.mag, z2.t, z2.l⟩
      clear it1 it2 y1 y2 vF vG
      generalize sameD (f.nthD j) (f.nthK j) (g.nthD j) (g.nthK j) = R at *
      generalize f.nthD j = x at *
      generalize f.nthK j = kx at *
      generalize g.nthD j = y at *
      generalize g.nthK j = ky at *
      have BRd : Below V.heap.size V V.drew := (Below.refl _ _).drew
      cases R with
      | true =>
        go_wp2_with fail
        go_region_held3 (fun V' => Below V.heap.size V V' ∧ V'.cell? ⟨b, o + j * 6, none⟩ = some (.int .i64 x.k) ∧ V'.cell? ⟨b, o + j * 6 + 1, none⟩ = some (.int .i32 x.c) ∧ V'.cell? ⟨b, o + j * 6 + 2, none⟩ = some (.bool x.neg) ∧ V'.cell? ⟨b, o + j * 6 + 3, none⟩ = some (.slice x.mA x.mag.length x.mcap) ∧ V'.cell? ⟨b, o + j * 6 + 4, none⟩ = some (.string x.t) ∧ V'.cell? ⟨b, o + j * 6 + 5, none⟩ = some (.slice x.lA kx.len x.lcap) ∧ V'.cell? ⟨b2, o2 + j * 6, none⟩ = some (.int .i64 y.k) ∧ V'.cell? ⟨b2, o2 + j * 6 + 1, none⟩ = some (.int .i32 y.c) ∧ V'.cell? ⟨b2, o2 + j * 6 + 2, none⟩ = some (.bool y.neg) ∧ V'.cell? ⟨b2, o2 + j * 6 + 3, none⟩ = some (.slice y.mA y.mag.length y.mcap) ∧ V'.cell? ⟨b2, o2 + j * 6 + 4, none⟩ = some (.string y.t) ∧ V'.cell? ⟨b2, o2 + j * 6 + 5, none⟩ = some (.slice y.lA ky.len y.lcap)) (exact KT _ (by first | assumption | exact Below.drew (by assumption) | exact Below.refl _ _))
          ((go_at_call 18; refine (CC.out _ (by assumption)).mono ?_; rintro z w2 ⟨rfl, c2⟩; have B2 := up_below (by assumption) c2))
        go_wp2
        go_roundw
        case rel => exact ⟨j + 1, by omega, by go_num, Lib.hid (by rw [HS.out]; simp), Lib.hid (hBl.out.trans (B2.mono hBl.out.size))⟩
        case measure => simp [intOf]; omega
      | false =>
        go_wp2_with fail
        go_region_held3 (fun V' => Below V.heap.size V V' ∧ V'.cell? ⟨b, o + j * 6, none⟩ = some (.int .i64 x.k) ∧ V'.cell? ⟨b, o + j * 6 + 1, none⟩ = some (.int .i32 x.c) ∧ V'.cell? ⟨b, o + j * 6 + 2, none⟩ = some (.bool x.neg) ∧ V'.cell? ⟨b, o + j * 6 + 3, none⟩ = some (.slice x.mA x.mag.length x.mcap) ∧ V'.cell? ⟨b, o + j * 6 + 4, none⟩ = some (.string x.t) ∧ V'.cell? ⟨b, o + j * 6 + 5, none⟩ = some (.slice x.lA kx.len x.lcap) ∧ V'.cell? ⟨b2, o2 + j * 6, none⟩ = some (.int .i64 y.k) ∧ V'.cell? ⟨b2, o2 + j * 6 + 1, none⟩ = some (.int .i32 y.c) ∧ V'.cell? ⟨b2, o2 + j * 6 + 2, none⟩ = some (.bool y.neg) ∧ V'.cell? ⟨b2, o2 + j * 6 + 3, none⟩ = some (.slice y.mA y.mag.length y.mcap) ∧ V'.cell? ⟨b2, o2 + j * 6 + 4, none⟩ = some (.string y.t) ∧ V'.cell? ⟨b2, o2 + j * 6 + 5, none⟩ = some (.slice y.lA ky.len y.lcap)) (exact KT _ (by first | assumption | exact Below.drew (by assumption) | exact Below.refl _ _))
          ((go_at_call 18; refine (CC.out _ (by assumption)).mono ?_; rintro z w2 ⟨rfl, c2⟩; have B2 := up_below (by assumption) c2))
        go_wp2
        go_ret
        exact ⟨by rw [HS.out]; rfl, hBl.out.trans (B2.mono hBl.out.size)⟩
    · have ej : j = f.len := by omega
      have HR : Hid (sameF f g = true) := Lib.hid (by
        rw [hE.out, ej, F.drop_len]
        rw [show f.len = g.len from HL.out, F.drop_len]
        rfl)
      go_wp2
      go_ret
      exact ⟨by rw [HR.out]; rfl, hBl.out⟩
theorem rlist_any (f g : F) (A B : Option Addr) (b o b2 o2 c1 c2 : Nat) (w : World) (l1 : f.len ≤ 140737488355328) (l2 : g.len ≤ 140737488355328) (hA : Hid (0 < f.len → A = some ⟨b, o, none⟩)) (hB : Hid (0 < g.len → B = some ⟨b2, o2, none⟩)) (hF : AtF (fun k => k < w.heap.size) w f b o) (hG : AtF (fun k => k < w.heap.size) w g b2 o2) :
    Calls Tryd.prog 30 #[.slice A f.len c1, .slice B g.len c2] w fun x w' => x = .returned (.bool (sameF f g)) ∧ Below w.heap.size w w' := by
  by_cases h : f.len = g.len
  · exact rlist_eq f g A B b o b2 o2 c1 c2 w h l1 hA hB hF hG
  · exact rlist_ne f g A B c1 c2 w h l1 l2
end Go.Proofs.YtkffojipgphneaaDoor
