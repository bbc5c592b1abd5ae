/- May, Depth by what is plain; the same for what is the same. -/
import Derived.Test.YtkffojipgphneaaDoorY1
import Derived.Test.YtkffojipgphneaaDoorI1
set_option linter.unusedVariables false
set_option linter.unusedSimpArgs false
namespace Go.Proofs.YtkffojipgphneaaDoor
open Go Go.RowKit
def mayF (pk lvl : Int) : F → Bool
  | .nil => true
  | .cons d k r => (decide (rch d.k (lvl + stp pk (r.len == 0) d.k) ≤ 64) && fitsB d k.len) && (mayF d.k (lvl + stp pk (r.len == 0) d.k) k && mayF pk lvl r)
def mayD (d : D) (f : F) : Bool := (decide (rch d.k 0 ≤ 64) && fitsB d f.len) && mayF d.k 0 f
theorem okL_flatF : ∀ (f : F) (pk lvl : Int) (b o : Nat), okL (flatF pk lvl f b o) = mayF pk lvl f := by
  intro f
  induction f with
  | nil => exact fun _ _ _ _ => rfl
  | cons d k r ihk ihr =>
    intro pk lvl b o
    have h1 := ihk d.k (lvl + stp pk (r.len == 0) d.k) d.kb d.ko
    have h2 := ihr pk lvl b (o + 6)
    simp only [okL] at h1 h2
    simp only [flatF, okL, List.all_cons, List.all_append, h1, h2, mayF, okE]
theorem okL_flat (bx : Nat) (d : D) (f : F) : okL (El.flat ⟨bx, 0, 0, d, f⟩) = mayD d f := by
  have := okL_flatF f d.k 0 d.kb d.ko
  simp only [okL] at this
  simp only [El.flat, okL, List.all_cons, this, mayD, okE]
def dpF (m pk lvl : Int) : F → Int
  | .nil => m
  | .cons d k r => dpF (dpF (max m (rch d.k (lvl + stp pk (r.len == 0) d.k))) d.k (lvl + stp pk (r.len == 0) d.k) k) pk lvl r
def dpD (d : D) (f : F) : Int := dpF (max 0 (rch d.k 0)) d.k 0 f
theorem fold_flatF : ∀ (f : F) (pk lvl m : Int) (b o : Nat), (flatF pk lvl f b o).foldl (fun m x => max m (rch x.d.k x.lvl)) m = dpF m pk lvl f := by
  intro f
  induction f with
  | nil => exact fun _ _ _ _ _ => rfl
  | cons d k r ihk ihr =>
    intro pk lvl m b o
    simp only [flatF, List.foldl_cons, List.foldl_append, ihk, ihr, dpF]
theorem mxR_flat (bx : Nat) (d : D) (f : F) : mxR (El.flat ⟨bx, 0, 0, d, f⟩) = dpD d f := by
  simp only [mxR, El.flat, List.foldl_cons, fold_flatF, dpD]
theorem alB_eq {d e : D} {m n : Nat} (h : alB d e m n = true) : d.k = e.k ∧ d.c = e.c ∧ d.t = e.t ∧ m = n ∧ d.neg = e.neg ∧ d.mag = e.mag := by
  simpa [alB, alR] using h
theorem fits_same {d e : D} {m n : Nat} (h : alB d e m n = true) : fitsB d m = fitsB e n := by
  obtain ⟨h1, h2, h3, h4, h5, h6⟩ := alB_eq h
  rw [fitsB, fitsB, h1, h2, h3, h4, h5, h6]
theorem mayF_same : ∀ (f g : F) (pk lvl : Int), sameF f g = true → mayF pk lvl f = mayF pk lvl g := by
  intro f
  induction f with
  | nil => intro g pk lvl h; cases g <;> simp_all [sameF]
  | cons d k r ihk ihr =>
    intro g pk lvl h
    cases g with
    | nil => simp [sameF] at h
    | cons d' k' r' =>
      simp only [sameF, Bool.and_eq_true] at h
      simp only [mayF, fits_same h.1.1, (alB_eq h.1.1).1, sameF_len _ _ h.2, ihk _ _ _ h.1.2, ihr _ _ _ h.2]
theorem mayD_same {d e : D} {f g : F} (h : sameD d f e g = true) : mayD d f = mayD e g := by
  simp only [sameD, Bool.and_eq_true] at h
  simp only [mayD, fits_same h.1, (alB_eq h.1).1, mayF_same _ _ _ _ h.2]
theorem dpF_same : ∀ (f g : F) (m pk lvl : Int), sameF f g = true → dpF m pk lvl f = dpF m pk lvl g := by
  intro f
  induction f with
  | nil => intro g m pk lvl h; cases g <;> simp_all [sameF]
  | cons d k r ihk ihr =>
    intro g m pk lvl h
    cases g with
    | nil => simp [sameF] at h
    | cons d' k' r' =>
      simp only [sameF, Bool.and_eq_true] at h
      simp only [dpF, (alB_eq h.1.1).1, sameF_len _ _ h.2, ihk _ _ _ _ h.1.2, ihr _ _ _ _ h.2]
theorem dpD_same {d e : D} {f g : F} (h : sameD d f e g = true) : dpD d f = dpD e g := by
  simp only [sameD, Bool.and_eq_true] at h
  simp only [dpD, (alB_eq h.1).1, dpF_same _ _ _ _ _ h.2]
theorem may_d (d : D) (f : F) (w : World) (h : Val (fun k => k < w.heap.size) w d f) (hT : Lib.Utf8Tabs 0 1 w) (hc : f.cnt ≤ 199000) :
    Calls Tryd.prog 12 #[.agg #[.int .i64 d.k, .int .i32 d.c, .bool d.neg, .slice d.mA d.mag.length d.mcap, .string d.t, .slice d.lA f.len d.lcap]] w fun e w' => e = .returned (.bool (mayD d f)) ∧ Below w.heap.size w w' :=
  may_all d f w h hT hc _ (Lib.hid fun bx => okL_flat bx d f)
theorem depth_d (d : D) (f : F) (w : World) (h : Val (fun k => k < w.heap.size) w d f) (hc : f.cnt ≤ 199000) :
    Calls Tryd.prog 14 #[.agg #[.int .i64 d.k, .int .i32 d.c, .bool d.neg, .slice d.mA d.mag.length d.mcap, .string d.t, .slice d.lA f.len d.lcap]] w fun e w' => e = .returned (.int .i64 (dpD d f)) ∧ Below w.heap.size w w' :=
  depth_any d f w h hc _ (Lib.hid fun bx => mxR_flat bx d f)
/-- cars, items of what is the same -/
theorem cars_same : ∀ (n : Nat) (f g : F) (d e : D), f.cnt < n → sameD d f e g = true → sameF (forest (carsE d f)) (forest (carsE e g)) = true ∧ endK d f = endK e g := by
  intro n
  induction n with
  | zero => intro f g d e h; omega
  | succ n ih =>
    intro f g d e hn h
    simp only [sameD, Bool.and_eq_true] at h
    have hk := (alB_eq h.1).1
    have hl := sameF_len _ _ h.2
    by_cases hp : d.k = 7 ∧ f.len = 2
    · obtain ⟨d0, k0, d1, k1, rfl⟩ := F.two_of hp.2
      obtain ⟨e0, j0, e1, j1, rfl⟩ := F.two_of (hl.symm.trans hp.2)
      simp only [sameF, Bool.and_eq_true] at h
      have h2 := ih k1 j1 d1 e1 (by simp only [F.cnt] at hn; omega) (by simp only [sameD, Bool.and_eq_true]; exact h.2.2.1)
      simp only [carsE, endK, hp.1, ← hk, if_true, forest, sameF, Bool.and_eq_true]
      exact ⟨⟨h.2.1, h2.1⟩, h2.2⟩
    · obtain ⟨a1, a2⟩ := cars_not hp
      obtain ⟨b1, b2⟩ := cars_not (d := e) (f := g) (by rw [← hk, ← hl]; exact hp)
      rw [a1, a2, b1, b2]
      exact ⟨rfl, hk⟩
theorem carsE_same {d e : D} {f g : F} (h : sameD d f e g = true) : sameF (forest (carsE d f)) (forest (carsE e g)) = true ∧ endK d f = endK e g := cars_same (f.cnt + 1) f g d e (by omega) h
theorem cars_lst : ∀ (fl : F), sameF (forest (carsE (lstD fl) (lstF fl))) fl = true ∧ endK (lstD fl) (lstF fl) = 0 := by
  intro fl
  induction fl with
  | nil => exact ⟨rfl, rfl⟩
  | cons d k r _ ih =>
    simp only [lstD, lstF, two, carsE, endK, pairD, if_true, forest, sameF, Bool.and_eq_true]
    exact ⟨⟨⟨by simp [alB, alR], sameF_refl k⟩, ih.1⟩, ih.2⟩
end Go.Proofs.YtkffojipgphneaaDoor
