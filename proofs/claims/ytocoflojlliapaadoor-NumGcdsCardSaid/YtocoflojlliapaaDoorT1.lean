/- Two copies, two boxes, in whatever order. -/
import Derived.Test.YtocoflojlliapaaDoorS4
import Derived.Test.YtocoflojlliapaaDoorK9
set_option linter.unusedVariables false
namespace Go.Proofs.YtocoflojlliapaaDoor
open Go.RowKit
theorem bcell {W w1 : World} (hb : Below W.heap.size W w1) : (∀ b o, b < W.heap.size → w1.cell? ⟨b, o, none⟩ = W.cell? ⟨b, o, none⟩) ∧ (∀ b o, b < W.heap.size → w1.frozen? ⟨b, o, none⟩ = W.frozen? ⟨b, o, none⟩) :=
  ⟨fun b o h => hb.cell (p := ⟨b, o, none⟩) h, fun b o h => hb.frozen (p := ⟨b, o, none⟩) h⟩
/-- a pair of cells that hold these -/
def Has (w : World) (g : Nat) (a b : Value) : Prop := w.cell? ⟨g, 0, none⟩ = some a ∧ w.cell? ⟨g, 1, none⟩ = some b ∧ g < w.heap.size
theorem Has.fst {w : World} {g : Nat} {a b : Value} (h : Has w g a b) : w.cell? ⟨g, 0, none⟩ = some a := h.1
theorem Has.snd {w : World} {g : Nat} {a b : Value} (h : Has w g a b) : w.cell? ⟨g, 1, none⟩ = some b := h.2.1
theorem Has.lt {w : World} {g : Nat} {a b : Value} (h : Has w g a b) : g < w.heap.size := h.2.2
theorem Has.below' {w w' : World} {g : Nat} {a b : Value} (h : Has w g a b) (hb : Below w.heap.size w w') : Has w' g a b := ⟨(hb.cell (p := ⟨g, 0, none⟩) h.2.2).trans h.1, (hb.cell (p := ⟨g, 1, none⟩) h.2.2).trans h.2.1, Nat.lt_of_lt_of_le h.2.2 hb.size⟩
theorem Two.has {w : World} {g : Nat} {t : TypeId} {a b : Value} (h : Two w g t a b) : Has w g a b := ⟨h.fst, h.snd, h.lt⟩
theorem Two.drew1 {w : World} {g : Nat} {t : TypeId} {a b : Value} (h : Two w g t a b) : Two w.drew g t a b := h
/-- the row's cells lie in no block g -/
def Off (A : Option Addr) (n g : Nat) : Prop := 0 < n → ∃ ad, A = some ad ∧ ad.block ≠ g
theorem Lim.off2 {k : IntKind} {B g : Nat} {w : World} {A : Option Addr} {xs : List Nat} {u v : Value} (h : Lim k B w A xs) (hf : Off A xs.length g) : Lim k B ((w.setCell ⟨g, 0, none⟩ u).setCell ⟨g, 1, none⟩ v) A xs := by
  intro h0
  obtain ⟨ad, hA, hb, hc⟩ := h h0
  obtain ⟨ad', hA', hg⟩ := hf (List.length_pos_iff.2 h0)
  rw [hA] at hA'
  injection hA' with hA'
  subst hA'
  refine ⟨ad, hA, hb, fun i hi => ?_⟩
  have e : ∀ j : Nat, (⟨g, j, none⟩ : Addr) ≠ ad.add i := fun j he => by
    have := congrArg Addr.block he
    rw [add_block] at this
    simp at this
    omega
  rw [World.cell?_setCell_other _ _ _ _ (e 1), World.cell?_setCell_other _ _ _ _ (e 0)]
  exact hc i hi
theorem off_of {V y : World} {A : Option Addr} {n g : Nat} {k : IntKind} {xs : List Nat} (hl : Lim k y.heap.size y A xs) (hn : xs.length = n) (hf : Fro V.heap.size A n) (ho : g < V.heap.size ∨ y.heap.size ≤ g) : Off A n g := by
  intro h0
  obtain ⟨ad, hA, hg⟩ := hf h0
  obtain ⟨ad', hA', hb, _⟩ := hl (List.length_pos_iff.1 (by omega))
  rw [hA] at hA'
  injection hA' with hA'
  subst hA'
  exact ⟨ad, hA, by omega⟩
/-- two rows and the boxes that hold them -/
def Pair2 (P1 P2 : World → Option Addr → Nat → Nat → Prop) (w0 wx : World) (s5 s6 : Value) (r1 r2 : Bool) (n1 n2 : Nat) : Prop :=
  ∃ g5 g6 B1 d1 B2 d2, s5 = .pointer (some ⟨g5, 0, none⟩) ∧ s6 = .pointer (some ⟨g6, 0, none⟩) ∧ Has wx g5 (.bool r1) (.slice B1 n1 d1) ∧ Has wx g6 (.bool r2) (.slice B2 n2 d2) ∧ P1 wx B1 n1 d1 ∧ P2 wx B2 n2 d2 ∧ Below w0.heap.size w0 wx
theorem Two.made' {w : World} {g : Nat} {t : TypeId} {a b : Value} (h : w.heap.size = g) : Two (w.alloc (.cells #[a, b] t)) g t a b := by
  subst h
  exact Two.made w t a b
/-- as y, but for the blocks g, g' and new ones -/
structure Near (y : World) (g g' : Nat) (w : World) : Prop where
  os : w.os = y.os
  tape : w.tape = y.tape
  output : w.output = y.output
  size : y.heap.size ≤ w.heap.size
  block : ∀ k, k < y.heap.size → k ≠ g → k ≠ g' → w.heap[k]? = y.heap[k]?
theorem Near.refl (y : World) (g g' : Nat) : Near y g g' y := ⟨rfl, rfl, rfl, Nat.le_refl _, fun _ _ _ _ => rfl⟩
theorem Near.alloc {y w : World} {g g' : Nat} (h : Near y g g' w) (o : Obj) : Near y g g' (w.alloc o) :=
  ⟨h.os, h.tape, h.output, by have := h.size; simp; omega, fun k hk h1 h2 => (Below.heap_alloc w o k (by have := h.size; omega)).trans (h.block k hk h1 h2)⟩
theorem Near.drew {y w : World} {g g' : Nat} (h : Near y g g' w) : Near y g g' w.drew := ⟨h.os, h.tape, h.output, h.size, h.block⟩
theorem Near.one {y w : World} {g g' : Nat} {i : Nat} {u : Value} (h : Near y g g' w) : Near y g g' (w.setCell ⟨g, i, none⟩ u) :=
  ⟨h.os, h.tape, h.output, by have := h.size; simpa using this, fun k hk h1 h2 => (Below.heap_setCell w ⟨g, i, none⟩ u k h1).trans (h.block k hk h1 h2)⟩
theorem Near.two {y w : World} {g g' : Nat} {i : Nat} {u : Value} (h : Near y g g' w) : Near y g g' (w.setCell ⟨g', i, none⟩ u) :=
  ⟨h.os, h.tape, h.output, by have := h.size; simpa using this, fun k hk h1 h2 => (Below.heap_setCell w ⟨g', i, none⟩ u k h2).trans (h.block k hk h1 h2)⟩
theorem Lim.near {k : IntKind} {y w : World} {g g' : Nat} {A : Option Addr} {xs : List Nat} (h : Lim k y.heap.size y A xs) (hn : Near y g g' w) (h1 : Off A xs.length g) (h2 : Off A xs.length g') : Lim k w.heap.size w A xs := by
  intro h0
  obtain ⟨ad, hA, hb, hc⟩ := h h0
  obtain ⟨a1, e1, n1⟩ := h1 (List.length_pos_iff.2 h0)
  obtain ⟨a2, e2, n2⟩ := h2 (List.length_pos_iff.2 h0)
  rw [hA] at e1 e2
  injection e1 with e1
  injection e2 with e2
  subst e1
  subst e2
  exact ⟨ad, hA, Nat.lt_of_lt_of_le hb hn.size, fun i hi => (World.cell?_of_block (a := ad.add i) (by rw [add_block]; exact hn.block _ hb n1 n2)).trans (hc i hi)⟩
theorem fin2 {k : IntKind} {t : TypeId} {w0 V1 y1 V2 y2 wx : World} {r1 r2 : Bool} {B1 B2 : Option Addr} {n1 d1 n2 d2 g5 g6 : Nat} {xs ys : List Nat}
    (b0 : Below w0.heap.size w0 V1) (yb1 : Below V1.heap.size V1 y1) (b1 : Below y1.heap.size y1 V2) (yb2 : Below V2.heap.size V2 y2)
    (P1 : Lim k y1.heap.size y1 B1 xs) (L1 : xs.length = n1) (F1 : Fro V1.heap.size B1 n1) (P2 : Lim k y2.heap.size y2 B2 ys) (L2 : ys.length = n2) (F2 : Fro V2.heap.size B2 n2)
    (h5 : Two wx g5 t (.bool r1) (.slice B1 n1 d1)) (h6 : Two wx g6 t (.bool r2) (.slice B2 n2 d2)) (b2 : Near y2 g5 g6 wx) (o5 : w0.heap.size ≤ g5) (o6 : w0.heap.size ≤ g6)
    (q5 : g5 < V1.heap.size ∨ (y1.heap.size ≤ g5 ∧ g5 < V2.heap.size) ∨ y2.heap.size ≤ g5) (q6 : g6 < V1.heap.size ∨ (y1.heap.size ≤ g6 ∧ g6 < V2.heap.size) ∨ y2.heap.size ≤ g6) {Q1 Q2 : World → Option Addr → Nat → Nat → Prop}
    (H1 : ∀ w', Lim k w'.heap.size w' B1 xs → Q1 w' B1 n1 d1) (H2 : ∀ w', Lim k w'.heap.size w' B2 ys → Q2 w' B2 n2 d2) :
    Pair2 Q1 Q2 w0 wx (.pointer (some ⟨g5, 0, none⟩)) (.pointer (some ⟨g6, 0, none⟩)) r1 r2 n1 n2 := by
  have s1 := b0.size
  have s2 := yb1.size
  have s3 := b1.size
  have s4 := yb2.size
  refine ⟨g5, g6, B1, d1, B2, d2, rfl, rfl, h5.has, h6.has, H1 _ ?_, H2 _ ?_, ?_⟩
  · exact ((P1.below' b1).below' yb2).near b2 (by rw [L1]; exact off_of P1 L1 F1 (by omega)) (by rw [L1]; exact off_of P1 L1 F1 (by omega))
  · exact P2.near b2 (by rw [L2]; exact off_of P2 L2 F2 (by omega)) (by rw [L2]; exact off_of P2 L2 F2 (by omega))
  · have hb : Below w0.heap.size w0 y2 := below_then b0 (below_then yb1 (below_then b1 yb2))
    exact hb.trans ⟨b2.os, b2.tape, b2.output, b2.size, fun k hk => b2.block k (by have := hb.size; omega) (by omega) (by omega)⟩
set_option maxHeartbeats 1600000 in
theorem copy_rowF (r : Bool) (A : Option Addr) (n c : Nat) (xs : List Nat) (w : World) (h : Limbs w A n c xs) (hl : n ≤ 1000) :
    Calls Tryd.prog 19 #[.agg #[.bool r, .slice A n c]] w fun e w' => ∃ B d, e = .returned (.agg #[.bool r, .slice B n d]) ∧ Limbs w' B n d xs ∧ Fro w.heap.size B n ∧ Below w.heap.size w w' := by
  obtain ⟨W, hW⟩ : ∃ W, W = (w.alloc (.cells #[.bool r, .slice A n c] 24)).alloc (.cells #[.bool false, .slice none 0 0] 24) := ⟨_, rfl⟩
  obtain ⟨t1, t2, hbW, hWs⟩ := boxes24 w _ _ _ _ W hW
  have R := h.below hbW
  have HL := Lib.hid R.2.2.1
  have HLo := Lib.hid R.2.1
  have LM := R.1
  have k1 := t1.fst
  have k2 := t1.snd
  go_enter Tryd.func19, Tryd.ntmps19
  go_wp2_with fail
  rw [← hW]
  have HW := Lib.hid hW
  have HWS := Lib.hid hWs
  clear hW hWs h R
  have BL : Below W.heap.size W (W.drew.alloc (.cells #[] 43)) := below_al (Below.refl _ _).drew _
  have BO : (W.drew.alloc (.cells #[] 43)).ownsRow W.heap.size 43 1 (.slice (some ⟨W.heap.size, 0, none⟩) 0 0) 0 (cl .u32 []) :=
    World.ownsRow_lit (base := W.heap.size) (e := 43) (size := 1) W.drew #[] 0 (Nat.le_refl _) (by unfold maxLen; omega) rfl
  have LB := LM.below BL
  have SB : W.heap.size ≤ (W.drew.alloc (.cells #[] 43)).heap.size := BL.size
  go_region_held3 (fun V => V.cell? ⟨w.heap.size, 0, none⟩ = some (.bool r) ∧ V.cell? ⟨w.heap.size, 1, none⟩ = some (.slice A n c)) (first | go_keep | exact ⟨hk0, hk1⟩)
    ((refine step_app_any (k := .u32) 22 43 4 Tryd.underlying22 u32_info (by decide) _ rfl _ _ rfl rfl W.heap.size (.slice (some ⟨W.heap.size, 0, none⟩) 0 0) 0 [] (by rfl) BO W.heap.size A n c xs (by rfl) LB HL (by omega) SB ?_; intro v1 w1 hown hgr; obtain ⟨B, d, rfl⟩ := own_slice hown; have hb1 : Below W.heap.size W w1 := BL.grown hgr SB (by simp [Value.ownBlock]); have hk0 := (t1.below' hb1).fst; have hk1 := (t1.below' hb1).snd; have hk2 := (t2.below' hb1).fst; have hk3 := (t2.below' hb1).snd; have hk4 := (t2.below' hb1).free 0; have hk5 := (t2.below' hb1).free 1))
  rw [List.nil_append] at hown
  go_wp2
  have hf := (t2.below' hb1).set2 (a' := .bool r) (b' := .slice B n d)
  have f0 := hf.fst
  have f1 := hf.snd
  have HO : Hid (w1.ownsRow W.heap.size 43 1 (.slice B n d) n (cl .u32 xs)) := Lib.hid (by simpa using hown)
  refine bodyPost_ret (v := .agg #[.bool r, .slice B n d]) (by simp [results, Tryd.results19, go_sem, f0, f1]) rfl ⟨B, d, rfl, ⟨?_, HLo.out, HL.out, own_cap HO.out⟩, (Fro.of_own HO.out).mono (by have := HWS.out; omega), below_two (g := w.heap.size + 1) (below_then hbW hb1) (by omega)⟩
  have ho := own_two (g := w.heap.size + 1) (a := .bool r) (b := .slice B n d) (own_mono HO.out (by have := HWS.out; omega))
  have := Lim.of_own (k := .u32) (xs := xs) (by rw [HL.out]; exact ho)
  exact this
end Go.Proofs.YtocoflojlliapaaDoor
