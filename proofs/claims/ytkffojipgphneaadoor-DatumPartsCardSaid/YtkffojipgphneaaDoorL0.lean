/- Lists: what is plain; datum.pair. -/
import Derived.Test.YtkffojipgphneaaDoorR1c
set_option linter.unusedVariables false
set_option linter.unusedSimpArgs false
namespace Go.Proofs.YtkffojipgphneaaDoor
open Go Go.RowKit
theorem alB_trans {a b c : D} {m n k : Nat} (h1 : alB a b m n = true) (h2 : alB b c n k = true) : alB a c m k = true := by
  simp only [alB, alR, decide_eq_true_eq] at *
  obtain ⟨a1, a2, a3, a4, a5, a6⟩ := h1
  obtain ⟨b1, b2, b3, b4, b5, b6⟩ := h2
  exact ⟨a1.trans b1, a2.trans b2, a3.trans b3, a4.trans b4, a5.trans b5, a6.trans b6⟩
theorem sameF_trans : ∀ (f g h : F), sameF f g = true → sameF g h = true → sameF f h = true := by
  intro f
  induction f with
  | nil =>
    intro g h h1 h2
    cases g with
    | nil => exact h2
    | cons d k r => simp [sameF] at h1
  | cons d k r ihk ihr =>
    intro g h h1 h2
    cases g with
    | nil => simp [sameF] at h1
    | cons d' k' r' =>
      cases h with
      | nil => simp [sameF] at h2
      | cons d2 k2 r2 =>
        simp only [sameF, Bool.and_eq_true] at *
        exact ⟨⟨alB_trans h1.1.1 h2.1.1, ihk _ _ h1.1.2 h2.1.2⟩, ihr _ _ h1.2 h2.2⟩
theorem sameD_trans {a b c : D} {f g h : F} (h1 : sameD a f b g = true) (h2 : sameD b g c h = true) : sameD a f c h = true := by
  simp only [sameD, Bool.and_eq_true] at *
  exact ⟨alB_trans h1.1 h2.1, sameF_trans _ _ _ h1.2 h2.2⟩
theorem sameF_len : ∀ (f g : F), sameF f g = true → f.len = g.len := by
  intro f
  induction f with
  | nil => intro g h; cases g <;> simp_all [sameF, F.len]
  | cons d k r _ ih =>
    intro g h
    cases g with
    | nil => simp [sameF] at h
    | cons d' k' r' =>
      simp only [sameF, Bool.and_eq_true] at h
      simp only [F.len]
      rw [ih _ h.2]
/-- what a number is not, and so on -/
def nilD : D := ⟨0, 0, false, none, [], 0, ⟨#[]⟩, none, 0⟩
def pairD (A : Option Addr) : D := ⟨7, 0, false, none, [], 0, ⟨#[]⟩, A, 2⟩
def two (d : D) (f : F) (e : D) (g : F) : F := .cons d f (.cons e g .nil)
theorem nilD_ok : nilD.Ok 0 := ⟨by decide, by decide, by decide, by decide, by simp [nilD], by simp [nilD], by simp [nilD], by simp [nilD, ByteArray.size], by simp [nilD], by simp, by simp⟩
theorem pairD_ok (b : Nat) : (pairD (some ⟨b, 0, none⟩)).Ok 2 := ⟨by simp [pairD], by simp [pairD], by simp [pairD], by simp [pairD], by simp [pairD], by simp [pairD], by simp [pairD], by simp [pairD, ByteArray.size], by simp [pairD], by simp, fun _ => rfl⟩
theorem nilD_val (G : Nat → Prop) (w : World) : Val G w nilD .nil := ⟨nilD_ok, fun i hi => by simp [nilD] at hi, trivial⟩
theorem same_two {d e d' e' : D} {f g f' g' : F} {A A' : Option Addr} (h1 : sameD d f d' f' = true) (h2 : sameD e g e' g' = true) : sameD (pairD A) (two d f e g) (pairD A') (two d' f' e' g') = true := by
  simp only [sameD, Bool.and_eq_true] at *
  simp only [two, sameF, Bool.and_eq_true]
  refine ⟨by simp [alB, alR, pairD, F.len], ⟨h1.1, h1.2⟩, ⟨h2.1, h2.2⟩, trivial⟩
theorem Node.of12 {w : World} {b : Nat} {d e : D} {m n : Nat} (h : w.heap[b]? = some (.cells #[.int .i64 d.k, .int .i32 d.c, .bool d.neg, .slice d.mA d.mag.length d.mcap, .string d.t, .slice d.lA m d.lcap, .int .i64 e.k, .int .i32 e.c, .bool e.neg, .slice e.mA e.mag.length e.mcap, .string e.t, .slice e.lA n e.lcap] 27 (0, 0))) :
    Node w b 0 d m ∧ Node w b 6 e n :=
  ⟨⟨by simp [World.cell?, h], by simp [World.cell?, h], by simp [World.cell?, h], by simp [World.cell?, h], by simp [World.cell?, h], by simp [World.cell?, h]⟩,
   ⟨by simp [World.cell?, h], by simp [World.cell?, h], by simp [World.cell?, h], by simp [World.cell?, h], by simp [World.cell?, h], by simp [World.cell?, h]⟩⟩
set_option maxHeartbeats 1600000 in
theorem pair_any (d : D) (f : F) (e : D) (g : F) (G : Nat → Prop) (w : World) (h1 : Val G w d f) (h2 : Val G w e g) :
    Calls Tryd.prog 44 #[.agg #[.int .i64 d.k, .int .i32 d.c, .bool d.neg, .slice d.mA d.mag.length d.mcap, .string d.t, .slice d.lA f.len d.lcap], .agg #[.int .i64 e.k, .int .i32 e.c, .bool e.neg, .slice e.mA e.mag.length e.mcap, .string e.t, .slice e.lA g.len e.lcap]] w
      fun x w' => x = .returned (.agg #[.int .i64 7, .int .i32 0, .bool false, .slice none 0 0, .string ⟨#[]⟩, .slice (some ⟨w.heap.size + 1 + 1 + 1, 0, none⟩) 2 2]) ∧ Val (fun k => G k ∨ w.heap.size ≤ k) w' (pairD (some ⟨w.heap.size + 1 + 1 + 1, 0, none⟩)) (two d f e g) ∧ Below w.heap.size w w' := by
  obtain ⟨W, hW⟩ : ∃ W, W = (((w.alloc (.cells #[.int .i64 d.k, .int .i32 d.c, .bool d.neg, .slice d.mA d.mag.length d.mcap, .string d.t, .slice d.lA f.len d.lcap] 27)).alloc (.cells #[.int .i64 e.k, .int .i32 e.c, .bool e.neg, .slice e.mA e.mag.length e.mcap, .string e.t, .slice e.lA g.len e.lcap] 27)).alloc (.cells #[.int .i64 7, .int .i32 0, .bool false, .slice none 0 0, .string ⟨#[]⟩, .slice (some ⟨w.heap.size + 1 + 1 + 1, 0, none⟩) 2 2] 27)).alloc (.cells #[.int .i64 d.k, .int .i32 d.c, .bool d.neg, .slice d.mA d.mag.length d.mcap, .string d.t, .slice d.lA f.len d.lcap, .int .i64 e.k, .int .i32 e.c, .bool e.neg, .slice e.mA e.mag.length e.mcap, .string e.t, .slice e.lA g.len e.lcap] 27) := ⟨_, rfl⟩
  have hbW : Below w.heap.size w W := by rw [hW]; exact ((((Below.refl _ _).alloc (Nat.le_refl _) _).alloc (by simp) _).alloc (by simp <;> omega) _).alloc (by simp <;> omega) _
  have h12 : W.heap[w.heap.size + 1 + 1 + 1]? = some (.cells #[.int .i64 d.k, .int .i32 d.c, .bool d.neg, .slice d.mA d.mag.length d.mcap, .string d.t, .slice d.lA f.len d.lcap, .int .i64 e.k, .int .i32 e.c, .bool e.neg, .slice e.mA e.mag.length e.mcap, .string e.t, .slice e.lA g.len e.lcap] 27) := by
    rw [hW]
    have := heap_alloc_new (((w.alloc (.cells #[.int .i64 d.k, .int .i32 d.c, .bool d.neg, .slice d.mA d.mag.length d.mcap, .string d.t, .slice d.lA f.len d.lcap] 27)).alloc (.cells #[.int .i64 e.k, .int .i32 e.c, .bool e.neg, .slice e.mA e.mag.length e.mcap, .string e.t, .slice e.lA g.len e.lcap] 27)).alloc (.cells #[.int .i64 7, .int .i32 0, .bool false, .slice none 0 0, .string ⟨#[]⟩, .slice (some ⟨w.heap.size + 1 + 1 + 1, 0, none⟩) 2 2] 27)) (.cells #[.int .i64 d.k, .int .i32 d.c, .bool d.neg, .slice d.mA d.mag.length d.mcap, .string d.t, .slice d.lA f.len d.lcap, .int .i64 e.k, .int .i32 e.c, .bool e.neg, .slice e.mA e.mag.length e.mcap, .string e.t, .slice e.lA g.len e.lcap] 27)
    rw [World.size_alloc, World.size_alloc, World.size_alloc] at this
    exact this
  have hkW : Keep (fun _ => True) w W := by rw [hW]; exact ((((Keep.refl _ _).alloc _).alloc _).alloc _).alloc _
  have HFIN : Hid (Val (fun k => G k ∨ w.heap.size ≤ k) W (pairD (some ⟨w.heap.size + 1 + 1 + 1, 0, none⟩)) (two d f e g) ∧ Below w.heap.size w W) := by
    have v1 := (h1.keep (hkW.mono (fun _ _ _ => trivial))).mono (G' := fun k => G k ∨ w.heap.size ≤ k) (fun _ hk => .inl hk)
    have v2 := (h2.keep (hkW.mono (fun _ _ _ => trivial))).mono (G' := fun k => G k ∨ w.heap.size ≤ k) (fun _ hk => .inl hk)
    obtain ⟨n1, n2⟩ := Node.of12 h12
    exact ⟨⟨pairD_ok _, fun i hi => by simp [pairD] at hi, ⟨.inr (by simp [pairD, D.kb]; omega), n1, v1.ok, v1.mag, v1.kids⟩, ⟨.inr (by simp [pairD, D.kb]; omega), n2, v2.ok, v2.mag, v2.kids⟩, trivial⟩, hbW⟩
  clear hbW h12 hkW
  have HW := Lib.hid hW
  clear hW
  have HV1 := Lib.hid h1
  have HV2 := Lib.hid h2
  clear h1 h2
  go_enter Tryd.func44, Tryd.ntmps44
  go_wp2_with fail
  rw [← show W = _ from HW.out]
  have hr : W.heap[w.heap.size + 1 + 1]? = some (.cells #[.int .i64 7, .int .i32 0, .bool false, .slice none 0 0, .string ⟨#[]⟩, .slice (some ⟨w.heap.size + 1 + 1 + 1, 0, none⟩) 2 2] 27) := by
    rw [HW.out]
    have := heap_alloc_new ((w.alloc (.cells #[.int .i64 d.k, .int .i32 d.c, .bool d.neg, .slice d.mA d.mag.length d.mcap, .string d.t, .slice d.lA f.len d.lcap] 27)).alloc (.cells #[.int .i64 e.k, .int .i32 e.c, .bool e.neg, .slice e.mA e.mag.length e.mcap, .string e.t, .slice e.lA g.len e.lcap] 27)) (.cells #[.int .i64 7, .int .i32 0, .bool false, .slice none 0 0, .string ⟨#[]⟩, .slice (some ⟨w.heap.size + 1 + 1 + 1, 0, none⟩) 2 2] 27)
    rw [World.size_alloc, World.size_alloc] at this
    exact (Below.heap_alloc _ _ _ (by simp)).trans this
  exact bodyPost_ret (results_cell_row rfl _ W (w.heap.size + 1 + 1) 27 _ (0, 0) _ rfl hr Tryd.underlying27 (by kernel_rfl) (by kernel_rfl)) rfl ⟨rfl, HFIN.out.1, HFIN.out.2⟩
end Go.Proofs.YtkffojipgphneaaDoor
