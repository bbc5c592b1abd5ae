/- For every act, SegNobody returns true: a nil memory, and one that New did not make, answer each call as the document says. No condition. -/
import Derived.Test.YtmhbbhlmiinobaaRw
import Derived.Deep.DeepCutAuto
set_option linter.unusedVariables false
set_option linter.unusedSimpArgs false
namespace Go.Proofs.Ytmhbbhlmiinobaa.segNobody
open Go.ChangeShapes Go.WideShapes Go.ChangeAt Go.RowKit
theorem own_then {W V : World} {f : FuncId} {args : Array Value} {r : Ending} (hb : Below W.heap.size W V) (h : Calls Try.prog f args V fun e w' => e = r ∧ Below V.heap.size V w') : Hid (Calls Try.prog f args V fun e w' => e = r ∧ Below W.heap.size W w') :=
  Lib.hid (h.mono fun e w' ⟨h1, h2⟩ => ⟨h1, hb.trans (h2.mono hb.size)⟩)
def seven (u : Value) : Array Value := #[u, u, u, u, u, u, u]
theorem info51 : (Try.prog.info? 51).map (·.size) = some (seven (.int .i64 0)).size := by kernel_rfl
theorem zeros_there {V : World} {b : Nat} (h : V.heap[b]? = some (.cells #[.int .i64 0, .int .i64 0, .int .i64 0, .int .i64 0, .int .i64 0, .int .i64 0, .int .i64 0] 51 (0, 0))) : V.there b 0 7 := by
  intro j hj
  rw [cell_of_row _ _ _ _ _ _ h, frozen_of_row _ _ _ _ _ h]
  match j, hj with
  | 0, _ => exact ⟨rfl, rfl⟩
  | 1, _ => exact ⟨rfl, rfl⟩
  | 2, _ => exact ⟨rfl, rfl⟩
  | 3, _ => exact ⟨rfl, rfl⟩
  | 4, _ => exact ⟨rfl, rfl⟩
  | 5, _ => exact ⟨rfl, rfl⟩
  | 6, _ => exact ⟨rfl, rfl⟩
theorem set_cells_below {B b : Nat} {W V : World} (h : Below B W V) (hb : B ≤ b) : ∀ (vs : List Value) (o : Nat), Below B W (V.setCells b o vs) := by
  intro vs
  induction vs generalizing V with
  | nil => intro o; exact h
  | cons v r ih => intro o; exact ih (h.setCell (by exact hb) v) (o + 1)
theorem alloc3 (w : World) (A B C : Obj) (W : World) (h : W = ((w.alloc A).alloc B).alloc C) : Below w.heap.size w W ∧ W.heap.size = w.heap.size + 3 ∧ W.heap[w.heap.size]? = some A ∧ W.heap[w.heap.size + 1]? = some B ∧ W.heap[w.heap.size + 2]? = some C := by
  subst h
  have e2 : ((w.alloc A).alloc B).heap.size = w.heap.size + 2 := by simp
  refine ⟨(((Below.refl _ _).alloc (Nat.le_refl _) _).alloc (by simp) _).alloc (by omega) _, by simp, ?_, ?_, ?_⟩
  · rw [Below.heap_alloc _ _ _ (by omega), heap_alloc2_old]
  · rw [Below.heap_alloc _ _ _ (by omega), heap_alloc2_new]
  · rw [← e2]; exact heap_alloc_new _ _
set_option maxRecDepth 100000 in
set_option maxHeartbeats 4000000 in
theorem walk (t : Ac) (ht : t.Ok) (w : World) : Calls Try.prog 4 #[.agg #[.int .i64 t.d, .int .i64 t.a, .int .i64 t.b, .int .i64 t.c, .int .u64 t.x]] w fun e w' => e = .returned (.bool true) ∧ Below w.heap.size w w' := by
  obtain ⟨W, hW⟩ : ∃ W, W = ((w.alloc (.cells #[.int .i64 t.d, .int .i64 t.a, .int .i64 t.b, .int .i64 t.c, .int .u64 t.x] 34)).alloc (.cells #[.slice none 0 0, .slice none 0 0, .int .i64 0] 45)).alloc (.cells #[.pointer none, .pointer (some ⟨w.heap.size + 1, 0, none⟩)] 24) := ⟨_, rfl⟩
  obtain ⟨hbW, hs, g0, g1, g2⟩ := alloc3 w _ _ _ W hW
  have HW := Lib.hid hW
  have HS := Lib.hid hs
  have xa : ∀ V, Below W.heap.size W V → V.cell? ⟨w.heap.size, 1, none⟩ = some (.int .i64 t.a) := fun V hb => (hb.cell (p := ⟨w.heap.size, 1, none⟩) (by show w.heap.size < _; omega)).trans (by rw [cell_of_row _ _ _ _ _ _ g0]; rfl)
  have xb : ∀ V, Below W.heap.size W V → V.cell? ⟨w.heap.size, 2, none⟩ = some (.int .i64 t.b) := fun V hb => (hb.cell (p := ⟨w.heap.size, 2, none⟩) (by show w.heap.size < _; omega)).trans (by rw [cell_of_row _ _ _ _ _ _ g0]; rfl)
  have xc : ∀ V, Below W.heap.size W V → V.cell? ⟨w.heap.size, 3, none⟩ = some (.int .i64 t.c) := fun V hb => (hb.cell (p := ⟨w.heap.size, 3, none⟩) (by show w.heap.size < _; omega)).trans (by rw [cell_of_row _ _ _ _ _ _ g0]; rfl)
  have xx : ∀ V, Below W.heap.size W V → V.cell? ⟨w.heap.size, 4, none⟩ = some (.int .u64 t.x) := fun V hb => (hb.cell (p := ⟨w.heap.size, 4, none⟩) (by show w.heap.size < _; omega)).trans (by rw [cell_of_row _ _ _ _ _ _ g0]; rfl)
  have each : ∀ i : Nat, i < 2 → ∃ p, Nob W p ∧ ∀ V, Below W.heap.size W V → V.cell? ⟨w.heap.size + 1 + 1, i, none⟩ = some (.pointer p) := by
    intro i hi
    match i with
    | 0 => exact ⟨none, Or.inl rfl, fun V hb => (hb.cell (p := ⟨w.heap.size + 2, 0, none⟩) (by show w.heap.size + 2 < _; omega)).trans (by rw [cell_of_row _ _ _ _ _ _ g2]; rfl)⟩
    | 1 => exact ⟨some ⟨w.heap.size + 1, 0, none⟩, Or.inr ⟨w.heap.size + 1, rfl, by omega, by rw [cell_of_row _ _ _ _ _ _ g1]; rfl, by rw [cell_of_row _ _ _ _ _ _ g1]; rfl⟩, fun V hb => (hb.cell (p := ⟨w.heap.size + 2, 1, none⟩) (by show w.heap.size + 2 < _; omega)).trans (by rw [cell_of_row _ _ _ _ _ _ g2]; rfl)⟩
    | i + 2 => omega
  have EACH := Lib.hid each
  have XA := Lib.hid xa
  have XB := Lib.hid xb
  have XC := Lib.hid xc
  have XX := Lib.hid xx
  have HBW := Lib.hid hbW
  have ba := ht.a
  clear hW hs g0 g1 g2 xa xb xc xx each hbW
  go_enter Try.func4, Try.ntmps4
  go_wp2_with fail
  rw [show ((w.alloc (.cells #[.int .i64 t.d, .int .i64 t.a, .int .i64 t.b, .int .i64 t.c, .int .u64 t.x] 34)).alloc (.cells #[.slice none 0 0, .slice none 0 0, .int .i64 0] 45)).alloc (.cells #[.pointer none, .pointer (some ⟨w.heap.size + 1, 0, none⟩)] 24) = W from HW.out.symm]
  go_loopw [5] (fun iv wr => ∃ i : Nat, i ≤ 2 ∧ iv = .int .i64 i ∧ Below W.heap.size W wr) (fun iv _ => 2 - (intOf iv).toNat)
  case atStart => exact ⟨0, by omega, rfl, Below.refl _ _⟩
  case round =>
    obtain ⟨i, hi, rfl, hB⟩ := hrel
    obtain ⟨V0, hV⟩ : ∃ V, V = wr := ⟨_, rfl⟩
    rw [← hV] at hB ⊢
    clear hV
    by_cases hlt : i < 2
    · obtain ⟨p, hnob, hcell⟩ := EACH.out i hlt
      have C13 := Lib.hid (fun V (hb : Below W.heap.size W V) => nob_take (hnob.below hb) t.a t.b)
      have C17 := Lib.hid (fun V (hb : Below W.heap.size W V) => nob_bump (hnob.below hb) t.a t.b)
      have C18 := Lib.hid (fun V (hb : Below W.heap.size W V) => nob_read (hnob.below hb) ba)
      have C19 : ∀ V : World, Hid (Below W.heap.size W V → Calls Try.prog 19 #[.pointer p, .int .i64 t.a] V fun e w' => e = .returned (.tuple #[.agg #[.int .i64 0, .int .i64 0, .int .i64 0, .int .i64 0, .int .i64 0, .int .i64 0, .int .i64 0], .bool false]) ∧ Below W.heap.size W w' ∧ Below V.heap.size V w') := fun V => Lib.hid (fun hb => (nob_seg (hnob.below hb) t.a).mono fun e w' ⟨h1, h2⟩ => ⟨h1, hb.trans (h2.mono hb.size), h2⟩)
      have C14 := Lib.hid (fun V (hb : Below W.heap.size W V) => nob_write (hnob.below hb) ba t.x)
      have C15 := Lib.hid (fun V (hb : Below W.heap.size W V) => own_then hb (nob_give (hnob.below hb) t.a))
      have C20 := Lib.hid (fun V (hb : Below W.heap.size W V) => nob_mark (hnob.below hb) t.a t.b t.c)
      have C21 := Lib.hid (fun V (hb : Below W.heap.size W V) => own_then hb (nob_taken (hnob.below hb)))
      have C22 := Lib.hid (fun V (hb : Below W.heap.size W V) => own_then hb (nob_free (hnob.below hb)))
      have C23 := Lib.hid (fun V (hb : Below W.heap.size W V) => nob_limit (hnob.below hb))
      have KS : ∀ V, Below W.heap.size W V → Below W.heap.size W V ∧ V.cell? ⟨w.heap.size, 1, none⟩ = some (.int .i64 t.a) ∧ V.cell? ⟨w.heap.size, 2, none⟩ = some (.int .i64 t.b) ∧ V.cell? ⟨w.heap.size, 3, none⟩ = some (.int .i64 t.c) ∧ V.cell? ⟨w.heap.size, 4, none⟩ = some (.int .u64 t.x) ∧ V.cell? ⟨w.heap.size + 1 + 1, i, none⟩ = some (.pointer p) := fun V hb => ⟨hb, XA.out V hb, XB.out V hb, XC.out V hb, XX.out V hb, hcell V hb⟩
      have KSH := Lib.hid KS
      have hV0 := hB
      clear hcell KS
      go_wp2_with fail
      go_region_held3 (fun V => Below W.heap.size W V ∧ V.cell? ⟨w.heap.size, 1, none⟩ = some (.int .i64 t.a) ∧ V.cell? ⟨w.heap.size, 2, none⟩ = some (.int .i64 t.b) ∧ V.cell? ⟨w.heap.size, 3, none⟩ = some (.int .i64 t.c) ∧ V.cell? ⟨w.heap.size, 4, none⟩ = some (.int .u64 t.x) ∧ V.cell? ⟨w.heap.size + 1 + 1, i, none⟩ = some (.pointer p)) (exact KSH.out _ (by first | assumption | exact Below.drew (by assumption) | exact Below.drew (Below.drew (by assumption)) | exact Below.drew (Below.drew (Below.drew (by assumption))) | exact Below.drew (Below.drew (Below.drew (Below.drew (by assumption)))) | exact Below.alloc (by assumption) (Below.size (by assumption)) _ | exact Below.drew (Below.alloc (by assumption) (Below.size (by assumption)) _) | exact Below.drew (Below.drew (Below.alloc (by assumption) (Below.size (by assumption)) _)) | exact Below.drew (Below.drew (Below.drew (Below.alloc (by assumption) (Below.size (by assumption)) _))) | exact Below.drew (Below.drew (Below.drew (Below.drew (Below.alloc (by assumption) (Below.size (by assumption)) _)))) | exact seven_set (by assumption) hV0.size | exact Below.drew (seven_set (by assumption) hV0.size)))
        (first | (go_at_call 13; refine (C13.out _ (by first | assumption | exact Below.drew (by assumption) | exact Below.drew (Below.drew (by assumption)) | exact Below.drew (Below.drew (Below.drew (by assumption))) | exact Below.drew (Below.drew (Below.drew (Below.drew (by assumption)))) | exact Below.alloc (by assumption) (Below.size (by assumption)) _ | exact Below.drew (Below.alloc (by assumption) (Below.size (by assumption)) _) | exact Below.drew (Below.drew (Below.alloc (by assumption) (Below.size (by assumption)) _)) | exact Below.drew (Below.drew (Below.drew (Below.alloc (by assumption) (Below.size (by assumption)) _))) | exact Below.drew (Below.drew (Below.drew (Below.drew (Below.alloc (by assumption) (Below.size (by assumption)) _)))) | exact seven_set (by assumption) hV0.size | exact Below.drew (seven_set (by assumption) hV0.size))).mono ?_; rintro e w' ⟨rfl, rfl⟩))
      go_wp2_with fail
      go_region_held3 (fun V => Below W.heap.size W V ∧ V.cell? ⟨w.heap.size, 1, none⟩ = some (.int .i64 t.a) ∧ V.cell? ⟨w.heap.size, 2, none⟩ = some (.int .i64 t.b) ∧ V.cell? ⟨w.heap.size, 3, none⟩ = some (.int .i64 t.c) ∧ V.cell? ⟨w.heap.size, 4, none⟩ = some (.int .u64 t.x) ∧ V.cell? ⟨w.heap.size + 1 + 1, i, none⟩ = some (.pointer p)) (exact KSH.out _ (by first | assumption | exact Below.drew (by assumption) | exact Below.drew (Below.drew (by assumption)) | exact Below.drew (Below.drew (Below.drew (by assumption))) | exact Below.drew (Below.drew (Below.drew (Below.drew (by assumption)))) | exact Below.alloc (by assumption) (Below.size (by assumption)) _ | exact Below.drew (Below.alloc (by assumption) (Below.size (by assumption)) _) | exact Below.drew (Below.drew (Below.alloc (by assumption) (Below.size (by assumption)) _)) | exact Below.drew (Below.drew (Below.drew (Below.alloc (by assumption) (Below.size (by assumption)) _))) | exact Below.drew (Below.drew (Below.drew (Below.drew (Below.alloc (by assumption) (Below.size (by assumption)) _)))) | exact seven_set (by assumption) hV0.size | exact Below.drew (seven_set (by assumption) hV0.size)))
        (first | (go_at_call 17; refine (C17.out _ (by first | assumption | exact Below.drew (by assumption) | exact Below.drew (Below.drew (by assumption)) | exact Below.drew (Below.drew (Below.drew (by assumption))) | exact Below.drew (Below.drew (Below.drew (Below.drew (by assumption)))) | exact Below.alloc (by assumption) (Below.size (by assumption)) _ | exact Below.drew (Below.alloc (by assumption) (Below.size (by assumption)) _) | exact Below.drew (Below.drew (Below.alloc (by assumption) (Below.size (by assumption)) _)) | exact Below.drew (Below.drew (Below.drew (Below.alloc (by assumption) (Below.size (by assumption)) _))) | exact Below.drew (Below.drew (Below.drew (Below.drew (Below.alloc (by assumption) (Below.size (by assumption)) _)))) | exact seven_set (by assumption) hV0.size | exact Below.drew (seven_set (by assumption) hV0.size))).mono ?_; rintro e w' ⟨rfl, rfl⟩))
      go_wp2_with fail
      go_region_held3 (fun V => Below W.heap.size W V ∧ V.cell? ⟨w.heap.size, 1, none⟩ = some (.int .i64 t.a) ∧ V.cell? ⟨w.heap.size, 2, none⟩ = some (.int .i64 t.b) ∧ V.cell? ⟨w.heap.size, 3, none⟩ = some (.int .i64 t.c) ∧ V.cell? ⟨w.heap.size, 4, none⟩ = some (.int .u64 t.x) ∧ V.cell? ⟨w.heap.size + 1 + 1, i, none⟩ = some (.pointer p)) (exact KSH.out _ (by first | assumption | exact Below.drew (by assumption) | exact Below.drew (Below.drew (by assumption)) | exact Below.drew (Below.drew (Below.drew (by assumption))) | exact Below.drew (Below.drew (Below.drew (Below.drew (by assumption)))) | exact Below.alloc (by assumption) (Below.size (by assumption)) _ | exact Below.drew (Below.alloc (by assumption) (Below.size (by assumption)) _) | exact Below.drew (Below.drew (Below.alloc (by assumption) (Below.size (by assumption)) _)) | exact Below.drew (Below.drew (Below.drew (Below.alloc (by assumption) (Below.size (by assumption)) _))) | exact Below.drew (Below.drew (Below.drew (Below.drew (Below.alloc (by assumption) (Below.size (by assumption)) _)))) | exact seven_set (by assumption) hV0.size | exact Below.drew (seven_set (by assumption) hV0.size)))
        (first | (go_at_call 18; refine (C18.out _ (by first | assumption | exact Below.drew (by assumption) | exact Below.drew (Below.drew (by assumption)) | exact Below.drew (Below.drew (Below.drew (by assumption))) | exact Below.drew (Below.drew (Below.drew (Below.drew (by assumption)))) | exact Below.alloc (by assumption) (Below.size (by assumption)) _ | exact Below.drew (Below.alloc (by assumption) (Below.size (by assumption)) _) | exact Below.drew (Below.drew (Below.alloc (by assumption) (Below.size (by assumption)) _)) | exact Below.drew (Below.drew (Below.drew (Below.alloc (by assumption) (Below.size (by assumption)) _))) | exact Below.drew (Below.drew (Below.drew (Below.drew (Below.alloc (by assumption) (Below.size (by assumption)) _)))) | exact seven_set (by assumption) hV0.size | exact Below.drew (seven_set (by assumption) hV0.size))).mono ?_; rintro e w' ⟨rfl, rfl⟩))
      go_wp2_with fail
      go_upto_region 9 with fail
      go_cut [13] (fun okv wx => okv = .bool false ∧ Below W.heap.size W wx)
      case first =>
        have hB0 : Below W.heap.size W V0.drew.drew.drew.drew := (((hB.drew).drew).drew).drew
        go_wp2_with fail
        refine wp_region_held_drew (S := (fun V => Below W.heap.size W V ∧ V.cell? ⟨w.heap.size, 1, none⟩ = some (.int .i64 t.a) ∧ V.cell? ⟨w.heap.size, 2, none⟩ = some (.int .i64 t.b) ∧ V.cell? ⟨w.heap.size, 3, none⟩ = some (.int .i64 t.c) ∧ V.cell? ⟨w.heap.size, 4, none⟩ = some (.int .u64 t.x) ∧ V.cell? ⟨w.heap.size + 1 + 1, i, none⟩ = some (.pointer p))) (by kernel_rfl) ?_ (fun hHeld => ?_)
        · exact KSH.out _ hB0
        refine wpAnyH_take (i := 0) (v := ?_) rfl (by kernel_rfl) (by kernel_rfl) (by kernel_rfl) (fun _ _ _ h => h) (Or.inl ⟨by rfl, ?_⟩) (by assumption) ?_
        rotate_left
        · intro w hSw
          (try dsimp only at hSw)
          go_simp
          all_goals with_reducible rfl
        try simp only [Act.put, List.getElem_toArray, List.getElem_cons_zero, List.getElem_cons_succ, List.setIfInBounds_toArray, List.set_cons_zero, List.set_cons_succ]
        refine wpAnyH_take (i := 1) (v := ?_) rfl (by kernel_rfl) (by kernel_rfl) (by kernel_rfl) (fun _ _ _ h => h) (Or.inl ⟨by rfl, ?_⟩) (by assumption) ?_
        rotate_left
        · intro w hSw
          (try dsimp only at hSw)
          go_simp
          all_goals with_reducible rfl
        try simp only [Act.put, List.getElem_toArray, List.getElem_cons_zero, List.getElem_cons_succ, List.setIfInBounds_toArray, List.set_cons_zero, List.set_cons_succ]
        refine wpAnyH_take (i := 2) (v := ?_) rfl (by kernel_rfl) (by kernel_rfl) (by kernel_rfl) (fun _ _ _ h => h) (Or.inl ⟨by rfl, ?_⟩) (by assumption) ?_
        rotate_left
        · intro w hSw
          (try dsimp only at hSw)
          go_simp
          all_goals with_reducible rfl
        try simp only [Act.put, List.getElem_toArray, List.getElem_cons_zero, List.getElem_cons_succ, List.setIfInBounds_toArray, List.set_cons_zero, List.set_cons_succ]
        refine wpAnyH_take (i := 3) (v := ?_) rfl (by kernel_rfl) (by kernel_rfl) (by kernel_rfl) (fun _ _ _ h => h) (Or.inl ⟨by rfl, ?_⟩) (by assumption) ?_
        rotate_left
        · intro w hSw
          (try dsimp only at hSw)
          go_simp
          all_goals with_reducible rfl
        try simp only [Act.put, List.getElem_toArray, List.getElem_cons_zero, List.getElem_cons_succ, List.setIfInBounds_toArray, List.set_cons_zero, List.set_cons_succ]
        refine wpAnyH_take (i := 4) (v := ?_) rfl (by kernel_rfl) (by kernel_rfl) (by kernel_rfl) (fun _ _ _ h => h) (Or.inl ⟨by rfl, ?_⟩) (by assumption) ?_
        rotate_left
        · intro w hSw
          (try dsimp only at hSw)
          go_simp
          all_goals with_reducible rfl
        try simp only [Act.put, List.getElem_toArray, List.getElem_cons_zero, List.getElem_cons_succ, List.setIfInBounds_toArray, List.set_cons_zero, List.set_cons_succ]
        refine wpAnyH_take (i := 5) (v := ?_) rfl (by kernel_rfl) (by kernel_rfl) (by kernel_rfl) (fun _ _ _ h => h) (Or.inl ⟨by rfl, ?_⟩) (by assumption) ?_
        rotate_left
        · intro w hSw
          (try dsimp only at hSw)
          go_simp
          all_goals with_reducible rfl
        try simp only [Act.put, List.getElem_toArray, List.getElem_cons_zero, List.getElem_cons_succ, List.setIfInBounds_toArray, List.set_cons_zero, List.set_cons_succ]
        refine wpAnyH_ready (rs := [6, 10]) (by kernel_rfl) (by simp) ?_
        refine AllReadyH.cons rfl (fun K hK => ?_) (AllReadyH.cons rfl (fun K hK => ?_) AllReadyH.nil)
        · go_simp
          go_at_call 19
          refine ((C19 _).out hB0).mono ?_
          rintro e w' ⟨rfl, hbn, hbv⟩
          go_wp2_with fail
          refine hK.out _ _ ?_ (fun hH2 => ?_)
          · exact KSH.out _ hbn
          clear hK K hHeld
          have hHeld := hH2
          clear hH2
          try simp only [Act.put, List.getElem_toArray, List.getElem_cons_zero, List.getElem_cons_succ, List.setIfInBounds_toArray, List.set_cons_zero, List.set_cons_succ]
          refine wpAnyH_take (i := 7) (v := ?_) rfl (by kernel_rfl) (by kernel_rfl) (by kernel_rfl) (fun _ _ _ h => h) (Or.inl ⟨by rfl, ?_⟩) (by assumption) ?_
          rotate_left
          · intro w hSw
            (try dsimp only at hSw)
            go_simp
            all_goals with_reducible rfl
          try simp only [Act.put, List.getElem_toArray, List.getElem_cons_zero, List.getElem_cons_succ, List.setIfInBounds_toArray, List.set_cons_zero, List.set_cons_succ]
          refine wpAnyH_take (i := 8) (v := ?_) rfl (by kernel_rfl) (by kernel_rfl) (by kernel_rfl) (fun _ _ _ h => h) (Or.inl ⟨by rfl, ?_⟩) (by assumption) ?_
          rotate_left
          · intro w hSw
            (try dsimp only at hSw)
            go_simp
            all_goals with_reducible rfl
          try simp only [Act.put, List.getElem_toArray, List.getElem_cons_zero, List.getElem_cons_succ, List.setIfInBounds_toArray, List.set_cons_zero, List.set_cons_succ]
          refine wpAnyH_take (i := 9) (v := ?_) rfl (by kernel_rfl) (by kernel_rfl) (by kernel_rfl) (fun _ _ _ h => h) (Or.inl ⟨by rfl, ?_⟩) (by assumption) ?_
          rotate_left
          · intro w hSw
            (try dsimp only at hSw)
            go_simp
            all_goals with_reducible rfl
          try simp only [Act.put, List.getElem_toArray, List.getElem_cons_zero, List.getElem_cons_succ, List.setIfInBounds_toArray, List.set_cons_zero, List.set_cons_succ]
          refine wpAnyH_ready (rs := [10]) (by kernel_rfl) (by simp) ?_
          refine AllReadyH.cons rfl (fun K hK => ?_) AllReadyH.nil
          go_simp
          refine hK.out _ _ ?_ (fun hH2 => ?_)
          · exact KSH.out _ (hbn.alloc hbn.size _)
          clear hK K hHeld
          have hHeld := hH2
          clear hH2
          try simp only [Act.put, List.getElem_toArray, List.getElem_cons_zero, List.getElem_cons_succ, List.setIfInBounds_toArray, List.set_cons_zero, List.set_cons_succ]
          refine wpAnyH_ready (rs := [11]) (by kernel_rfl) (by simp) ?_
          refine AllReadyH.cons rfl (fun K hK => ?_) AllReadyH.nil
          rw [if_pos (by rfl)]
          refine wp_store_mid 51 _ _ rfl w'.heap.size 0 (seven (.int .i64 0)) rfl rfl (zeros_there (heap_alloc_new w' _)) info51 (by simp [seven, Value.oneCell']) ?_
          have hbY : Below W.heap.size W ((w'.alloc (.cells #[.int .i64 0, .int .i64 0, .int .i64 0, .int .i64 0, .int .i64 0, .int .i64 0, .int .i64 0] 51)).setCells w'.heap.size 0 (seven (.int .i64 0)).toList) := set_cells_below (hbn.alloc hbn.size _) hbn.size _ _
          refine hK.out _ _ ?_ (fun hH2 => ?_)
          · exact KSH.out _ hbY
          clear hK K hHeld
          have hHeld := hH2
          clear hH2
          try simp only [Act.put, List.getElem_toArray, List.getElem_cons_zero, List.getElem_cons_succ, List.setIfInBounds_toArray, List.set_cons_zero, List.set_cons_succ]
          generalize (w'.alloc (.cells #[.int .i64 0, .int .i64 0, .int .i64 0, .int .i64 0, .int .i64 0, .int .i64 0, .int .i64 0] 51)).setCells w'.heap.size 0 (seven (.int .i64 0)).toList = Y at hbY hHeld ⊢
          refine wpAnyH_take (i := 12) (v := ?_) rfl (by kernel_rfl) (by kernel_rfl) (by kernel_rfl) (fun _ _ _ h => h) (Or.inl ⟨by rfl, ?_⟩) (by assumption) ?_
          rotate_left
          · intro w hSw
            (try dsimp only at hSw)
            go_simp
            all_goals with_reducible rfl
          try simp only [Act.put, List.getElem_toArray, List.getElem_cons_zero, List.getElem_cons_succ, List.setIfInBounds_toArray, List.set_cons_zero, List.set_cons_succ]
          refine wpAnyH_done (by kernel_rfl) ?_ _
          go_wp2_with fail
          go_meet
          case rel => exact ⟨rfl, hbY⟩
        · go_simp
          refine hK.out _ _ ?_ (fun hH2 => ?_)
          · exact KSH.out _ (((((hB.alloc hB.size _).drew).drew).drew).drew)
          clear hK K hHeld
          have hHeld := hH2
          clear hH2
          try simp only [Act.put, List.getElem_toArray, List.getElem_cons_zero, List.getElem_cons_succ, List.setIfInBounds_toArray, List.set_cons_zero, List.set_cons_succ]
          refine wpAnyH_ready (rs := [6]) (by kernel_rfl) (by simp) ?_
          refine AllReadyH.cons rfl (fun K hK => ?_) AllReadyH.nil
          go_simp
          go_at_call 19
          refine ((C19 _).out (((((hB.alloc hB.size _).drew).drew).drew).drew)).mono ?_
          rintro e w' ⟨rfl, hbn, hbv⟩
          go_wp2_with fail
          refine hK.out _ _ ?_ (fun hH2 => ?_)
          · exact KSH.out _ hbn
          clear hK K hHeld
          have hHeld := hH2
          clear hH2
          try simp only [Act.put, List.getElem_toArray, List.getElem_cons_zero, List.getElem_cons_succ, List.setIfInBounds_toArray, List.set_cons_zero, List.set_cons_succ]
          refine wpAnyH_take (i := 7) (v := ?_) rfl (by kernel_rfl) (by kernel_rfl) (by kernel_rfl) (fun _ _ _ h => h) (Or.inl ⟨by rfl, ?_⟩) (by assumption) ?_
          rotate_left
          · intro w hSw
            (try dsimp only at hSw)
            go_simp
            all_goals with_reducible rfl
          try simp only [Act.put, List.getElem_toArray, List.getElem_cons_zero, List.getElem_cons_succ, List.setIfInBounds_toArray, List.set_cons_zero, List.set_cons_succ]
          refine wpAnyH_take (i := 8) (v := ?_) rfl (by kernel_rfl) (by kernel_rfl) (by kernel_rfl) (fun _ _ _ h => h) (Or.inl ⟨by rfl, ?_⟩) (by assumption) ?_
          rotate_left
          · intro w hSw
            (try dsimp only at hSw)
            go_simp
            all_goals with_reducible rfl
          try simp only [Act.put, List.getElem_toArray, List.getElem_cons_zero, List.getElem_cons_succ, List.setIfInBounds_toArray, List.set_cons_zero, List.set_cons_succ]
          refine wpAnyH_take (i := 9) (v := ?_) rfl (by kernel_rfl) (by kernel_rfl) (by kernel_rfl) (fun _ _ _ h => h) (Or.inl ⟨by rfl, ?_⟩) (by assumption) ?_
          rotate_left
          · intro w hSw
            (try dsimp only at hSw)
            go_simp
            all_goals with_reducible rfl
          try simp only [Act.put, List.getElem_toArray, List.getElem_cons_zero, List.getElem_cons_succ, List.setIfInBounds_toArray, List.set_cons_zero, List.set_cons_succ]
          refine wpAnyH_ready (rs := [11]) (by kernel_rfl) (by simp) ?_
          refine AllReadyH.cons rfl (fun K hK => ?_) AllReadyH.nil
          rw [if_pos (by rfl)]
          refine wp_store_mid 51 _ _ rfl V0.heap.size 0 (seven (.int .i64 0)) rfl rfl (zeros_there ((hbv.block V0.heap.size (by simp)).trans (heap_alloc_new V0 _))) info51 (by simp [seven, Value.oneCell']) ?_
          have hbY : Below W.heap.size W (w'.setCells V0.heap.size 0 (seven (.int .i64 0)).toList) := set_cells_below hbn hB.size _ _
          refine hK.out _ _ ?_ (fun hH2 => ?_)
          · exact KSH.out _ hbY
          clear hK K hHeld
          have hHeld := hH2
          clear hH2
          try simp only [Act.put, List.getElem_toArray, List.getElem_cons_zero, List.getElem_cons_succ, List.setIfInBounds_toArray, List.set_cons_zero, List.set_cons_succ]
          generalize w'.setCells V0.heap.size 0 (seven (.int .i64 0)).toList = Y at hbY hHeld ⊢
          refine wpAnyH_take (i := 12) (v := ?_) rfl (by kernel_rfl) (by kernel_rfl) (by kernel_rfl) (fun _ _ _ h => h) (Or.inl ⟨by rfl, ?_⟩) (by assumption) ?_
          rotate_left
          · intro w hSw
            (try dsimp only at hSw)
            go_simp
            all_goals with_reducible rfl
          try simp only [Act.put, List.getElem_toArray, List.getElem_cons_zero, List.getElem_cons_succ, List.setIfInBounds_toArray, List.set_cons_zero, List.set_cons_succ]
          refine wpAnyH_done (by kernel_rfl) ?_ _
          go_wp2_with fail
          go_meet
          case rel => exact ⟨rfl, hbY⟩
      case rest =>
        obtain ⟨rfl, hcB⟩ := hcut
        clear hB hV0 hnob
        go_wp2_with fail
        simp only [List.append_eq, List.cons_append, List.nil_append]
        go_region_held3 (fun V => Below W.heap.size W V ∧ V.cell? ⟨w.heap.size, 1, none⟩ = some (.int .i64 t.a) ∧ V.cell? ⟨w.heap.size, 2, none⟩ = some (.int .i64 t.b) ∧ V.cell? ⟨w.heap.size, 3, none⟩ = some (.int .i64 t.c) ∧ V.cell? ⟨w.heap.size, 4, none⟩ = some (.int .u64 t.x) ∧ V.cell? ⟨w.heap.size + 1 + 1, i, none⟩ = some (.pointer p)) (exact KSH.out _ (by first | assumption | exact Below.drew (by assumption) | exact Below.drew (Below.drew (by assumption)) | exact Below.drew (Below.drew (Below.drew (by assumption)))))
          (first | (go_at_call 14; refine (C14.out _ (by first | assumption | exact Below.drew (by assumption) | exact Below.drew (Below.drew (by assumption)) | exact Below.drew (Below.drew (Below.drew (by assumption))))).mono ?_; rintro e w' ⟨rfl, rfl⟩) | (go_at_call 15; refine ((C15.out _ (by first | assumption | exact Below.drew (by assumption) | exact Below.drew (Below.drew (by assumption)) | exact Below.drew (Below.drew (Below.drew (by assumption))))).out).mono ?_; rintro e w' ⟨rfl, hbn⟩) | (go_at_call 20; refine (C20.out _ (by first | assumption | exact Below.drew (by assumption) | exact Below.drew (Below.drew (by assumption)) | exact Below.drew (Below.drew (Below.drew (by assumption))))).mono ?_; rintro e w' ⟨rfl, rfl⟩) | (go_at_call 21; refine ((C21.out _ (by first | assumption | exact Below.drew (by assumption) | exact Below.drew (Below.drew (by assumption)) | exact Below.drew (Below.drew (Below.drew (by assumption))))).out).mono ?_; rintro e w' ⟨rfl, hbn⟩) | (go_at_call 22; refine ((C22.out _ (by first | assumption | exact Below.drew (by assumption) | exact Below.drew (Below.drew (by assumption)) | exact Below.drew (Below.drew (Below.drew (by assumption))))).out).mono ?_; rintro e w' ⟨rfl, hbn⟩) | (go_at_call 23; refine (C23.out _ (by first | assumption | exact Below.drew (by assumption) | exact Below.drew (Below.drew (by assumption)) | exact Below.drew (Below.drew (Below.drew (by assumption))))).mono ?_; rintro e w' ⟨rfl, rfl⟩))
        go_wp2_with fail
        go_roundw
        case rel => exact ⟨i + 1, by omega, by go_num, (by first | assumption | exact Below.drew (by assumption) | exact Below.drew (Below.drew (by assumption)) | exact Below.drew (Below.drew (Below.drew (by assumption))))⟩
        case measure => simp [intOf]; omega
    · obtain rfl : i = 2 := by omega
      have CC := Lib.hid (nob_copy (w := V0))
      have CA := Lib.hid (awake_any V0)
      go_wp2_with fail
      go_at_call 12
      refine CC.out.mono ?_
      rintro e w' ⟨rfl, rfl⟩
      go_wp2_with fail
      go_at_call 8
      refine CA.out.mono ?_
      rintro e w' ⟨rfl, hb8⟩
      go_wp2_with fail
      go_ret
      exact ⟨rfl, HBW.out.trans ((hB.trans (hb8.mono hB.size)).mono (by have := HS.out; omega))⟩
/-! The row's step. -/
set_option maxRecDepth 100000 in
theorem lifted (os : Os) (started : os.Started) (H : Type) (enc : TypeId × Value → H) :
    ReturnsInHanded {} Try.checked os 4 .any (Rows.segNobodySpec.pre6 enc Try.prog Try.f4 Rows.segNobodyRow.domain false) (Rows.segNobodySpec.post enc Try.prog Try.f4 false true false false) := by
  refine returnsInHanded_of_change (C := Try.checked) own started (by kernel_rfl) Try.func4
    (ChangeSpec.witness6 (enc := enc) (C := Try.checked) false ⟨#[], #[.agg #[.int .i64 0, .int .i64 0, .int .i64 0, .int .i64 0, .int .u64 0]], []⟩ 8 (by kernel_rfl) (by kernel_rfl) (by kernel_rfl) (by kernel_rfl)) ?_
  intro W base args ds gs before hval0 hW hcnd _
  have hval : ∀ (j : Nat) t v, Try.f4.params[j]? = some t → args[j]? = some v → Value.okWide Try.prog W .any base t v := hval0
  have hW' := hW
  obtain ⟨p, q, hA0, hV, rfl, hfz, hnd⟩ := hW
  have hA : DataW.TrodAll enc Try.prog W 0 (fun _ => true) true Try.f4.params.toList args.toList ds p := hA0
  obtain ⟨rfl, rfl⟩ := trodVars_none hV
  simp only [List.append_nil] at hW'
  have hlt : ∀ x ∈ p, x.block < W.heap.size := fun x hx => by simpa using hW'.lt x hx
  have hAk := hA
  rw [Try.params4] at hA hval
  obtain ⟨v0, vs0, d0, ds0, p0, q0, hargs, rfl, rfl, h0, r0⟩ := trodAll_cons hA
  obtain ⟨rfl, rfl, rfl⟩ := trodAll_nil r0
  obtain rfl : args = #[v0] := by cases args; simp_all
  obtain ⟨t0, rfl, ok0⟩ := open_act (hval 0 34 v0 rfl rfl) h0
  refine (walk t0 ok0 W).mono fun e W' ⟨he, hg⟩ => ?_
  subst he
  exact ⟨_, rfl, _, _, _, [], _, [], hW', (trodAll_cons_mk (shut_bool Try.underlying4 _) trodAll_mk0), below_all hg (by kernel_rfl) hAk hlt, rfl, hg.frame _, fun h => by cases h⟩
theorem over : Rows.segNobodyRow.holds Try.pinned (OpenSpec.ofChange Rows.segNobodySpec) :=
  OpenClaim.holds_of_wide 4 Try.f4 rfl rfl rfl rfl rfl rfl rfl ⟨rfl, rfl, rfl, rfl, rfl⟩ rfl rfl rfl rfl rfl (by kernel_rfl) Try.func4 (by kernel_rfl)
    (of_decide_eq_true (by kernel_rfl)) (by unfold Func.isWrapper; first | (rw [if_pos (by decide +kernel)]; kernel_rfl) | (rw [if_neg (by decide +kernel)]; exact ⟨rfl, rfl⟩))
    (fun os started H enc _ => lifted os started H enc)
/-- THE STATEMENT -/
theorem proved : Rows.SegNobodySaid :=
  over
#print axioms proved
end Go.Proofs.Ytmhbbhlmiinobaa.segNobody
