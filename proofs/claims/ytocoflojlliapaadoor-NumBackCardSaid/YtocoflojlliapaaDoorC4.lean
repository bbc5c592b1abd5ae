import Derived.Test.YtocoflojlliapaaDoorC3
set_option linter.unusedVariables false
namespace Go.Proofs.YtocoflojlliapaaDoor
open Go.RowKit
/-- a number that may be is answered, of the value x -/
def Num (w w' : World) (e : Ending) (neg : Bool) (N : Nat) : Prop :=
  ∃ A c, e = .returned (.tuple #[.agg #[.bool (signB neg N), .slice A (dl N) c], .int .i64 0]) ∧ Fresh w w' A c N
def Big (w w' : World) (e : Ending) : Prop := e = .returned (.tuple #[.agg #[.bool false, .slice none 0 0], .int .i64 6]) ∧ Below w.heap.size w w'
theorem Fresh.from_ {w w0 w1 : World} {A : Option Addr} {c N : Nat} (h : Fresh w0 w1 A c N) (hb : Below w.heap.size w w0) : Fresh w w1 A c N :=
  ⟨own_mono h.1 hb.size, below_then hb h.2⟩
theorem Fresh.two {w w0 w1 : World} {A : Option Addr} {c N g : Nat} {a b : Value} (h : Fresh w0 w1 A c N) (hb : Below w.heap.size w w0) (hg : w.heap.size ≤ g) (hg2 : g < w0.heap.size) :
    Fresh w ((w1.setCell ⟨g, 0, none⟩ a).setCell ⟨g, 1, none⟩ b) A c N := by
  have h1 := own_mono h.1 (show g + 1 ≤ w0.heap.size from hg2)
  refine ⟨own_mono (own_two h1) hg, ?_⟩
  exact ((below_then hb h.2).setCell (p := ⟨g, 0, none⟩) hg a).setCell (p := ⟨g, 1, none⟩) hg b
theorem below_two {w w1 : World} {g : Nat} {a b : Value} (hb : Below w.heap.size w w1) (hg : w.heap.size ≤ g) : Below w.heap.size w ((w1.setCell ⟨g, 0, none⟩ a).setCell ⟨g, 1, none⟩ b) :=
  (hb.setCell (p := ⟨g, 0, none⟩) hg a).setCell (p := ⟨g, 1, none⟩) hg b
theorem Fresh.drew {w w1 : World} {A : Option Addr} {c N : Nat} (h : Fresh w w1 A c N) : Fresh w w1.drew A c N := ⟨h.1.drew, h.2.drew⟩
theorem one_made (w : World) (v : Value) (t : TypeId) : (w.alloc (.cells #[v] t)).heap[w.heap.size]? = some (.cells #[v] t (0, 0)) := heap_alloc_new w _
set_option maxHeartbeats 1600000 in
theorem norm_yes (neg : Bool) (A : Option Addr) (n c N : Nat) (w : World) (h : Mag w A n c N) (hl : n ≤ 35184372088832) (hfit : dl N ≤ 48) :
    Calls Tryd.prog 21 #[.agg #[.bool neg, .slice A n c]] w fun e w' => Num w w' e neg N := by
  obtain ⟨W, hW⟩ : ∃ W, W = (w.alloc (.cells #[.bool neg, .slice A n c] 24)).alloc (.cells #[.bool false, .slice none 0 0] 24) := ⟨_, rfl⟩
  have hbW : Below w.heap.size w W := by rw [hW]; exact below_al (below_al (Below.refl _ _) _) _
  have hT1 : Two W w.heap.size 24 (.bool neg) (.slice A n c) := by rw [hW]; exact (boxes2 w _ _ 24 _ _).1
  have hT2 : Two W (w.heap.size + 1) 24 (.bool false) (.slice none 0 0) := by rw [hW]; exact (boxes2 w _ _ 24 _ _).2
  have hWs : W.heap.size = w.heap.size + 2 := by rw [hW]; simp
  go_enter Tryd.func21, Tryd.ntmps21
  go_wp2_with fail
  rw [← hW]
  have HW := Lib.hid hWs
  clear hW hWs
  have c0 := hT1.fst
  have c1 := hT1.snd
  go_region_held3 (fun w' => w'.cell? ⟨w.heap.size, 0, none⟩ = some (.bool neg) ∧ w'.cell? ⟨w.heap.size, 1, none⟩ = some (.slice A n c)) (go_keep)
    (first
      | (go_at_call 52; refine (signed_any neg _).mono ?_; rintro e w' ⟨rfl, rfl⟩)
      | (go_at_call 79; refine (signed1_yes W.heap.size neg A n c N _ (by exact one_made _ _ _) (by exact (h.below hbW).alloc _) hl hfit).mono ?_; rintro e w1 ⟨A', c', rfl, hf⟩; have hb1 : Below W.heap.size W w1 := below_then (below_al (Below.refl _ _) _).drew hf.2; have k0 := (hT1.below' hb1).fst; have k1 := (hT1.below' hb1).snd; have k2 := (hT2.below' hb1).fst; have k3 := (hT2.below' hb1).snd; have k4 := (hT2.below' hb1).free 0; have k5 := (hT2.below' hb1).free 1))
  all_goals go_wp2
  exact bodyPost_ret (v := .tuple #[.agg #[.bool (signB neg N), .slice A' (dl N) c'], .int .i64 0]) (by simp [results, Tryd.results21, go_sem, k2, k3]) rfl
    ⟨A', c', rfl, (hf.two (g := w.heap.size + 1) (below_al hbW _).drew (by omega) (by have := HW.out; simp; omega))⟩
set_option maxHeartbeats 1600000 in
theorem norm_no (neg : Bool) (A : Option Addr) (n c N : Nat) (w : World) (h : Mag w A n c N) (hl : n ≤ 35184372088832) (hbig : 48 < dl N) :
    Calls Tryd.prog 21 #[.agg #[.bool neg, .slice A n c]] w fun e w' => Big w w' e := by
  obtain ⟨W, hW⟩ : ∃ W, W = (w.alloc (.cells #[.bool neg, .slice A n c] 24)).alloc (.cells #[.bool false, .slice none 0 0] 24) := ⟨_, rfl⟩
  have hbW : Below w.heap.size w W := by rw [hW]; exact below_al (below_al (Below.refl _ _) _) _
  have hT1 : Two W w.heap.size 24 (.bool neg) (.slice A n c) := by rw [hW]; exact (boxes2 w _ _ 24 _ _).1
  have hT2 : Two W (w.heap.size + 1) 24 (.bool false) (.slice none 0 0) := by rw [hW]; exact (boxes2 w _ _ 24 _ _).2
  have hWs : W.heap.size = w.heap.size + 2 := by rw [hW]; simp
  go_enter Tryd.func21, Tryd.ntmps21
  go_wp2_with fail
  rw [← hW]
  have HW := Lib.hid hWs
  clear hW hWs
  have c0 := hT1.fst
  have c1 := hT1.snd
  go_region_held3 (fun w' => w'.cell? ⟨w.heap.size, 0, none⟩ = some (.bool neg) ∧ w'.cell? ⟨w.heap.size, 1, none⟩ = some (.slice A n c)) (go_keep)
    (first
      | (go_at_call 52; refine (signed_any neg _).mono ?_; rintro e w' ⟨rfl, rfl⟩)
      | (go_at_call 79; refine (signed1_no W.heap.size neg A n c N _ (by exact one_made _ _ _) (by exact (h.below hbW).alloc _) hl hbig).mono ?_; rintro e w1 ⟨rfl, hf⟩; have hb1 : Below W.heap.size W w1 := below_then (below_al (Below.refl _ _) _).drew hf; have k0 := (hT1.below' hb1).fst; have k1 := (hT1.below' hb1).snd; have k2 := (hT2.below' hb1).fst; have k3 := (hT2.below' hb1).snd; have k4 := (hT2.below' hb1).free 0; have k5 := (hT2.below' hb1).free 1))
  all_goals go_wp2
  exact bodyPost_ret (v := .tuple #[.agg #[.bool false, .slice none 0 0], .int .i64 6]) (by simp [results, Tryd.results21, go_sem, k2, k3]) rfl
    ⟨rfl, (below_two (g := w.heap.size + 1) (below_then hbW hb1) (by omega))⟩
set_option maxHeartbeats 1600000 in
theorem neg_yes (neg : Bool) (A : Option Addr) (n c N : Nat) (w : World) (h : Mag w A n c N) (hl : n ≤ 35184372088832) (hfit : dl N ≤ 48) :
    Calls Tryd.prog 22 #[.agg #[.bool neg, .slice A n c]] w fun e w' => Num w w' e (!neg) N := by
  obtain ⟨W, hW⟩ : ∃ W, W = (w.alloc (.cells #[.bool neg, .slice A n c] 24)).alloc (.cells #[.bool false, .slice none 0 0] 24) := ⟨_, rfl⟩
  have hbW : Below w.heap.size w W := by rw [hW]; exact below_al (below_al (Below.refl _ _) _) _
  have hT1 : Two W w.heap.size 24 (.bool neg) (.slice A n c) := by rw [hW]; exact (boxes2 w _ _ 24 _ _).1
  have hT2 : Two W (w.heap.size + 1) 24 (.bool false) (.slice none 0 0) := by rw [hW]; exact (boxes2 w _ _ 24 _ _).2
  have hWs : W.heap.size = w.heap.size + 2 := by rw [hW]; simp
  go_enter Tryd.func22, Tryd.ntmps22
  go_wp2_with fail
  rw [← hW]
  have HW := Lib.hid hWs
  clear hW hWs
  have c0 := hT1.fst
  have c1 := hT1.snd
  go_region_held3 (fun w' => w'.cell? ⟨w.heap.size, 0, none⟩ = some (.bool neg) ∧ w'.cell? ⟨w.heap.size, 1, none⟩ = some (.slice A n c)) (go_keep)
    (first
      | (go_at_call 52; refine (signed_any (!neg) _).mono ?_; rintro e w' ⟨rfl, rfl⟩)
      | (go_at_call 79; refine (signed1_yes W.heap.size (!neg) A n c N _ (by exact one_made _ _ _) (by exact (h.below hbW).alloc _) hl hfit).mono ?_; rintro e w1 ⟨A', c', rfl, hf⟩; have hb1 : Below W.heap.size W w1 := below_then (below_al (Below.refl _ _) _).drew hf.2; have k0 := (hT1.below' hb1).fst; have k1 := (hT1.below' hb1).snd; have k2 := (hT2.below' hb1).fst; have k3 := (hT2.below' hb1).snd; have k4 := (hT2.below' hb1).free 0; have k5 := (hT2.below' hb1).free 1))
  all_goals go_wp2
  exact bodyPost_ret (v := .tuple #[.agg #[.bool (signB (!neg) N), .slice A' (dl N) c'], .int .i64 0]) (by simp [results, Tryd.results22, go_sem, k2, k3]) rfl
    ⟨A', c', rfl, (hf.two (g := w.heap.size + 1) (below_al hbW _).drew (by omega) (by have := HW.out; simp; omega))⟩
set_option maxHeartbeats 1600000 in
theorem neg_no (neg : Bool) (A : Option Addr) (n c N : Nat) (w : World) (h : Mag w A n c N) (hl : n ≤ 35184372088832) (hbig : 48 < dl N) :
    Calls Tryd.prog 22 #[.agg #[.bool neg, .slice A n c]] w fun e w' => Big w w' e := by
  obtain ⟨W, hW⟩ : ∃ W, W = (w.alloc (.cells #[.bool neg, .slice A n c] 24)).alloc (.cells #[.bool false, .slice none 0 0] 24) := ⟨_, rfl⟩
  have hbW : Below w.heap.size w W := by rw [hW]; exact below_al (below_al (Below.refl _ _) _) _
  have hT1 : Two W w.heap.size 24 (.bool neg) (.slice A n c) := by rw [hW]; exact (boxes2 w _ _ 24 _ _).1
  have hT2 : Two W (w.heap.size + 1) 24 (.bool false) (.slice none 0 0) := by rw [hW]; exact (boxes2 w _ _ 24 _ _).2
  have hWs : W.heap.size = w.heap.size + 2 := by rw [hW]; simp
  go_enter Tryd.func22, Tryd.ntmps22
  go_wp2_with fail
  rw [← hW]
  have HW := Lib.hid hWs
  clear hW hWs
  have c0 := hT1.fst
  have c1 := hT1.snd
  go_region_held3 (fun w' => w'.cell? ⟨w.heap.size, 0, none⟩ = some (.bool neg) ∧ w'.cell? ⟨w.heap.size, 1, none⟩ = some (.slice A n c)) (go_keep)
    (first
      | (go_at_call 52; refine (signed_any (!neg) _).mono ?_; rintro e w' ⟨rfl, rfl⟩)
      | (go_at_call 79; refine (signed1_no W.heap.size (!neg) A n c N _ (by exact one_made _ _ _) (by exact (h.below hbW).alloc _) hl hbig).mono ?_; rintro e w1 ⟨rfl, hf⟩; have hb1 : Below W.heap.size W w1 := below_then (below_al (Below.refl _ _) _).drew hf; have k0 := (hT1.below' hb1).fst; have k1 := (hT1.below' hb1).snd; have k2 := (hT2.below' hb1).fst; have k3 := (hT2.below' hb1).snd; have k4 := (hT2.below' hb1).free 0; have k5 := (hT2.below' hb1).free 1))
  all_goals go_wp2
  exact bodyPost_ret (v := .tuple #[.agg #[.bool false, .slice none 0 0], .int .i64 6]) (by simp [results, Tryd.results22, go_sem, k2, k3]) rfl
    ⟨rfl, (below_two (g := w.heap.size + 1) (below_then hbW hb1) (by omega))⟩
end Go.Proofs.YtocoflojlliapaaDoor
