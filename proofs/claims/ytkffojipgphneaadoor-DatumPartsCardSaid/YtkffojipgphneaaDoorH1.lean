/- weigh, heavy. -/
import Derived.Test.YtkffojipgphneaaDoorL0
set_option linter.unusedVariables false
set_option linter.unusedSimpArgs false
namespace Go.Proofs.YtkffojipgphneaaDoor
open Go Go.RowKit
def bigD (d : D) : Bool := decide (3000 < d.t.size) || decide (3000 < d.mag.length)
def offD (d : D) : Int := ((d.t.size : Nat) : Int) / 16 + ((d.mag.length : Nat) : Int) / 16
def wghF : F → Int → Int
  | .nil, l => l
  | .cons d k r, l => if l < 0 then l else wghF r (if bigD d then -1 else wghF k (l - 1 - offD d))
def wghD (d : D) (k : F) (l : Int) : Int := if bigD d then -1 else wghF k (l - 1 - offD d)
theorem offD_bd {d : D} (h : bigD d = false) : 0 ≤ offD d ∧ offD d ≤ 374 := by
  simp only [bigD, Bool.or_eq_false_iff, decide_eq_false_iff_not] at h
  unfold offD
  omega
theorem wghF_bd : ∀ (f : F) (l : Int), -400 ≤ l → l ≤ 3000 → -400 ≤ wghF f l ∧ wghF f l ≤ 3000 := by
  intro f
  induction f with
  | nil => exact fun l h0 h1 => ⟨h0, h1⟩
  | cons d k r ihk ihr =>
    intro l h0 h1
    simp only [wghF]
    split
    · exact ⟨h0, h1⟩
    · cases hb : bigD d
      · have := offD_bd hb
        have h2 := ihk (l - 1 - offD d) (by omega) (by omega)
        simp only [Bool.false_eq_true, if_false]
        exact ihr _ h2.1 h2.2
      · simp only [if_true]
        exact ihr (-1) (by omega) (by omega)
theorem wghF_drop (f : F) (i : Nat) (l : Int) (h : i < f.len) (hl : 0 ≤ l) : wghF (f.drop i) l = wghF (f.drop (i + 1)) (wghD (f.nthD i) (f.nthK i) l) := by
  rw [F.drop_lt f i h]
  simp only [wghF, wghD]
  rw [if_neg (by omega)]
theorem wghF_neg (f : F) (l : Int) (h : l < 0) : wghF f l = l := by
  cases f with
  | nil => rfl
  | cons d k r => simp only [wghF]; rw [if_pos h]
/-- What weighs no more than so much, counts no more. -/
theorem wghF_cnt : ∀ (f : F) (l : Int), l ≤ 3000 → 0 ≤ wghF f l → (f.cnt : Int) + wghF f l ≤ l := by
  intro f
  induction f with
  | nil => intro l _ _; simp [F.cnt, wghF]
  | cons d k r ihk ihr =>
    intro l hl h
    simp only [wghF] at h ⊢
    split at h
    · omega
    · rename_i h0
      rw [if_neg h0]
      cases hb : bigD d
      · have ho := offD_bd hb
        simp only [hb, Bool.false_eq_true, if_false] at h ⊢
        by_cases h1 : wghF k (l - 1 - offD d) < 0
        · rw [wghF_neg _ _ h1] at h
          omega
        · have h2 := ihk (l - 1 - offD d) (by omega) (by omega)
          have h3 := ihr _ (by omega) h
          simp only [F.cnt]
          omega
      · simp only [hb, if_true] at h
        rw [wghF_neg _ _ (by omega)] at h
        omega
def heavyB (d : D) (k : F) : Bool := decide (wghD d k 3000 < 0)
theorem light_cnt {d : D} {k : F} (h : heavyB d k = false) : k.cnt ≤ 2999 ∧ bigD d = false := by
  have h1 : ¬ wghD d k 3000 < 0 := by simpa [heavyB] using h
  cases hb : bigD d
  · have e : wghD d k 3000 = wghF k (3000 - 1 - offD d) := by simp [wghD, hb]
    rw [e] at h1
    have ho := offD_bd hb
    have := wghF_cnt k (3000 - 1 - offD d) (by omega) (by omega)
    exact ⟨by omega, rfl⟩
  · have e : wghD d k 3000 = -1 := by simp [wghD, hb]
    rw [e] at h1
    exact absurd (by decide) h1
def WAll (f : F) : Prop := ∀ i, i < f.len → ∀ (w : World) (l : Int), 0 ≤ l → l ≤ 3000 → Val (fun k => k < w.heap.size) w (f.nthD i) (f.nthK i) →
  Calls Tryd.prog 31 #[.agg #[.int .i64 (f.nthD i).k, .int .i32 (f.nthD i).c, .bool (f.nthD i).neg, .slice (f.nthD i).mA (f.nthD i).mag.length (f.nthD i).mcap, .string (f.nthD i).t, .slice (f.nthD i).lA (f.nthK i).len (f.nthD i).lcap], .int .i64 l] w fun e w' => e = .returned (.int .i64 (wghD (f.nthD i) (f.nthK i) l)) ∧ Below w.heap.size w w'
set_option maxRecDepth 100000 in
set_option maxHeartbeats 3200000 in
theorem weigh_big (d : D) (k : F) (w : World) (l : Int) (h0 : 0 ≤ l) (h1 : l ≤ 3000) (hb : bigD d = true) (ht : d.t.size ≤ 140737488355328) (hm : d.mag.length ≤ 35184372088832) :
    Calls Tryd.prog 31 #[.agg #[.int .i64 d.k, .int .i32 d.c, .bool d.neg, .slice d.mA d.mag.length d.mcap, .string d.t, .slice d.lA k.len d.lcap], .int .i64 l] w fun e w' => e = .returned (.int .i64 (wghD d k l)) ∧ Below w.heap.size w w' := by
  have hz : Hid (wghD d k l = -1) := Lib.hid (by simp [wghD, hb])
  by_cases hh : 3000 < d.t.size
  · clear hb
    go_enter Tryd.func31, Tryd.ntmps31
    go_wp2
    go_ret
    exact ⟨by rw [hz.out]; rfl, (Below.refl _ _).alloc (Nat.le_refl _) _⟩
  · have h2 : 3000 < d.mag.length := by simpa [bigD, hh] using hb
    clear hb
    go_enter Tryd.func31, Tryd.ntmps31
    go_wp2
    go_ret
    exact ⟨by rw [hz.out]; rfl, (Below.refl _ _).alloc (Nat.le_refl _) _⟩
set_option maxRecDepth 100000 in
set_option maxHeartbeats 3200000 in
theorem weigh_small (d : D) (k : F) (ih : WAll k) (w : World) (l : Int) (h0 : 0 ≤ l) (h1 : l ≤ 3000) (hb : bigD d = false) (hv : Val (fun k => k < w.heap.size) w d k) :
    Calls Tryd.prog 31 #[.agg #[.int .i64 d.k, .int .i32 d.c, .bool d.neg, .slice d.mA d.mag.length d.mcap, .string d.t, .slice d.lA k.len d.lcap], .int .i64 l] w fun e w' => e = .returned (.int .i64 (wghD d k l)) ∧ Below w.heap.size w w' := by
  have ho := offD_bd hb
  have hz : Hid (wghD d k l = wghF k (l - 1 - offD d)) := Lib.hid (by simp [wghD, hb])
  have hbb := hb
  simp only [bigD, Bool.or_eq_false_iff, decide_eq_false_iff_not] at hbb
  obtain ⟨hb1, hb2⟩ := hbb
  have hkl := hv.ok.kidc
  have hoff : Hid (l - 1 - (d.t.size : Int) / 16 - (d.mag.length : Int) / 16 = l - 1 - offD d) := Lib.hid (by unfold offD; omega)
  obtain ⟨W, hW⟩ : ∃ W, W = w.alloc (six d k.len) := ⟨_, rfl⟩
  have hbW : Below w.heap.size w W := by rw [hW]; exact (Below.refl _ _).alloc (Nat.le_refl _) _
  have hx : W.heap[w.heap.size]? = some (six d k.len) := by rw [hW]; exact heap_alloc_new _ _
  have HV := Lib.hid (hv.keep (Keep.of_below hbW))
  have HIH := Lib.hid ih
  have HKA := Lib.hid hv.ok.kids
  have HLT : w.heap.size < W.heap.size := by rw [hW]; simp
  have HW := Lib.hid hW
  clear hv ih hb hW
  go_enter Tryd.func31, Tryd.ntmps31
  go_wp2_with fail
  rw [show w.alloc (.cells #[.int .i64 d.k, .int .i32 d.c, .bool d.neg, .slice d.mA d.mag.length d.mcap, .string d.t, .slice d.lA k.len d.lcap] 27) = W from HW.out.symm]
  rw [hoff.out]
  go_loopw [1, 5] (fun s i wr => ∃ (j : Nat) (v : Int), j ≤ k.len ∧ i = .int .i64 (j : Nat) ∧ s = .int .i64 v ∧ -400 ≤ v ∧ v ≤ 3000 ∧ Hid (wghF (k.drop j) v = wghF k (l - 1 - offD d)) ∧ Hid (Below W.heap.size W wr)) (fun _ i _ => k.len - (intOf i).toNat)
  case atStart => exact ⟨0, l - 1 - offD d, Nat.zero_le _, rfl, rfl, by omega, by omega, by show wghF (k.drop 0) _ = _; rw [F.drop_zero], Below.refl _ _⟩
  case round =>
    obtain ⟨j, v, hj, rfl, rfl, v0, v1, hE, hB⟩ := hrel
    obtain ⟨V, hV⟩ : ∃ V, V = wr := ⟨_, rfl⟩
    rw [← hV] at hB ⊢
    clear hV
    have hxV : V.heap[w.heap.size]? = some (six d k.len) := (hB.out.block _ HLT).trans hx
    have nd := Node.of_six hxV
    have lc := nd.l
    simp only [Nat.zero_add] at lc
    by_cases hlt : j < k.len
    · have hA := HKA.out (by omega)
      rw [hA] at lc
      by_cases hv0 : 0 ≤ v
      · have vV := HV.out.keep (Keep.any (G := fun k => k < w.heap.size) hB.out)
        have it := AtF.nth vV.kids 0 j hlt
        have ⟨i1, i2, i3, i4, i5, i6⟩ := it.node
        simp only [] at i1 i2 i3 i4 i5 i6
        have hsz : w.heap.size ≤ V.heap.size := Nat.le_trans hbW.size hB.out.size
        have HC := Lib.hid (HIH.out j hlt V v hv0 v1 (it.val.mono (fun k hk => Nat.lt_of_lt_of_le hk hsz)))
        have HN := Lib.hid (wghF_drop k j v hlt hv0)
        have HBD : Hid (-400 ≤ wghD (k.nthD j) (k.nthK j) v ∧ wghD (k.nthD j) (k.nthK j) v ≤ 3000) := Lib.hid (by
          unfold wghD
          cases hbb : bigD (k.nthD j)
          · have := offD_bd hbb
            simpa using wghF_bd (k.nthK j) (v - 1 - offD (k.nthD j)) (by omega) (by omega)
          · simp)
        clear hA it nd vV
        generalize wghD (k.nthD j) (k.nthK j) v = v' at *
        generalize k.nthD j = dj at *
        generalize k.nthK j = kj at *
        go_wp2_with (go_at_call 31; refine (HC.out).mono ?_; rintro e V2 ⟨rfl, hb2'⟩)
        have hbd := HBD.out
        go_roundw
        case rel => exact ⟨j + 1, v', by omega, by go_num, rfl, hbd.1, hbd.2, Lib.hid (HN.out.symm.trans hE.out), Lib.hid (hB.out.trans (hb2'.mono hB.out.size))⟩
        case measure => simp [intOf]; omega
      · go_wp2
        go_ret
        exact ⟨by rw [hz.out, ← hE.out, wghF_neg _ _ (by omega)]; rfl, hbW.trans (hB.out.mono hbW.size)⟩
    · have ej : j = k.len := by omega
      go_wp2
      go_ret
      exact ⟨by rw [hz.out, ← hE.out, ej, F.drop_len]; rfl, hbW.trans (hB.out.mono hbW.size)⟩
theorem weigh_one (d : D) (k : F) (ih : WAll k) (w : World) (l : Int) (h0 : 0 ≤ l) (h1 : l ≤ 3000) (hv : Val (fun k => k < w.heap.size) w d k) :
    Calls Tryd.prog 31 #[.agg #[.int .i64 d.k, .int .i32 d.c, .bool d.neg, .slice d.mA d.mag.length d.mcap, .string d.t, .slice d.lA k.len d.lcap], .int .i64 l] w fun e w' => e = .returned (.int .i64 (wghD d k l)) ∧ Below w.heap.size w w' := by
  cases hb : bigD d
  · exact weigh_small d k ih w l h0 h1 hb hv
  · exact weigh_big d k w l h0 h1 hb hv.ok.text hv.ok.magc
theorem wall (f : F) : WAll f := by
  induction f with
  | nil => intro i h; simp [F.len] at h
  | cons d k r ihk ihr =>
    intro i h
    cases i with
    | zero => exact fun w l h0 h1 hv => weigh_one d k ihk w l h0 h1 hv
    | succ i => exact ihr i (by simp only [F.len] at h; omega)
set_option maxHeartbeats 800000 in
theorem heavy_any (d : D) (k : F) (w : World) (hv : Val (fun k => k < w.heap.size) w d k) :
    Calls Tryd.prog 9 #[.agg #[.int .i64 d.k, .int .i32 d.c, .bool d.neg, .slice d.mA d.mag.length d.mcap, .string d.t, .slice d.lA k.len d.lcap]] w fun e w' => e = .returned (.bool (heavyB d k)) ∧ Below w.heap.size w w' := by
  have hbW : Below w.heap.size w (w.alloc (six d k.len)) := (Below.refl _ _).alloc (Nat.le_refl _) _
  have HC := Lib.hid (weigh_one d k (wall k) (w.alloc (six d k.len)) 3000 (by omega) (by omega) (hv.below hbW))
  have hz : Hid (heavyB d k = decide (wghD d k 3000 < 0)) := Lib.hid rfl
  generalize wghD d k 3000 = v at *
  generalize heavyB d k = h at *
  clear hv
  go_enter Tryd.func9, Tryd.ntmps9
  go_wp2_with (go_at_call 31; refine (HC.out).mono ?_; rintro e w' ⟨rfl, hb⟩)
  all_goals go_ret
  all_goals exact ⟨by rw [hz.out]; rfl, hbW.trans (hb.mono hbW.size)⟩
end Go.Proofs.YtkffojipgphneaaDoor
