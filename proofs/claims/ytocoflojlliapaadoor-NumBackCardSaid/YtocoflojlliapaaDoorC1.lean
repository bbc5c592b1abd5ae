import Derived.Test.YtocoflojlliapaaDoorB3
import Derived.Test.YtocoflojlliapaaDoorB4
import Derived.Test.YtocoflojlliapaaDoorB5
import Derived.Test.YtocoflojlliapaaDoorC0
set_option linter.unusedVariables false
namespace Go.Proofs.YtocoflojlliapaaDoor
open Go.RowKit
/-- the sign that a number of this magnitude has -/
def signB (neg : Bool) (N : Nat) : Bool := neg && decide (N ≠ 0)
theorem signB_zero (neg : Bool) : signB neg 0 = false := by simp [signB]
theorem signB_pos (neg : Bool) {N : Nat} (h : N ≠ 0) : signB neg N = neg := by simp [signB, h]
/-- a number that may be, in memory of its own -/
def Fresh (w w' : World) (A : Option Addr) (c N : Nat) : Prop :=
  w'.ownsRow w.heap.size 43 1 (.slice A (digs 4294967296 N).length c) (digs 4294967296 N).length (cl .u32 (digs 4294967296 N)) ∧ Below w.heap.size w w'
set_option maxHeartbeats 800000 in
theorem signed1_big (b : Nat) (neg : Bool) (A : Option Addr) (xs : List Nat) (n c : Nat) (w : World) (hb : w.heap[b]? = some (.cells #[.bool neg] 4 (0, 0))) (hx : Lim .u32 w.heap.size w A xs) (hlow : Low 4294967296 xs)
    (l1 : Hid (xs.length = n)) (hc : n ≤ c) (hl : n ≤ 35184372088832) (hN : 48 < (digs 4294967296 (val 4294967296 xs)).length) :
    Calls Tryd.prog 79 #[.slice A n c, .pointer (some ⟨b, 0, none⟩)] w fun e w' => e = .returned (.tuple #[.agg #[.bool false, .slice none 0 0], .int .i64 6]) ∧ Below w.heap.size w w' := by
  have ht : Hid (digs 4294967296 (val 4294967296 xs) = trimL xs) := Lib.hid (digs_of (by decide) hlow)
  rw [ht.out] at hN
  have hle : (trimL xs).length ≤ 35184372088832 := Nat.le_trans (trimL_len xs) (by rw [l1.out]; exact hl)
  go_enter Tryd.func79, Tryd.ntmps79
  go_wp2_with (first
    | (go_at_call 54; refine (trim_at A xs n c _ _ l1 (hx.alloc (Nat.le_refl _) _) hc (by omega)).mono ?_; rintro e w' ⟨rfl, rfl⟩))
  all_goals exact bodyPost_ret (v := .tuple #[.agg #[.bool false, .slice none 0 0], .int .i64 6]) (by simp [results, Tryd.results79, go_sem]) rfl ⟨rfl, (Below.refl _ _).alloc (Nat.le_refl _) _⟩
set_option maxHeartbeats 800000 in
theorem signed1_fit (b : Nat) (neg : Bool) (A : Option Addr) (xs : List Nat) (n c : Nat) (w : World) (hb : w.heap[b]? = some (.cells #[.bool neg] 4 (0, 0))) (hx : Lim .u32 w.heap.size w A xs) (hlow : Low 4294967296 xs)
    (l1 : Hid (xs.length = n)) (hc : n ≤ c) (hl : n ≤ 35184372088832) (N : Nat) (hN : Hid (val 4294967296 xs = N)) (hfit : (digs 4294967296 N).length ≤ 48) :
    Calls Tryd.prog 79 #[.slice A n c, .pointer (some ⟨b, 0, none⟩)] w fun e w' => ∃ A' c', e = .returned (.tuple #[.agg #[.bool (signB neg N), .slice A' (digs 4294967296 N).length c'], .int .i64 0]) ∧ Fresh w w' A' c' N := by
  have ht : trimL xs = digs 4294967296 N := by rw [← hN.out]; exact (digs_of (by decide) hlow).symm
  have hlt := lt_of_block hb
  have hlim := hx.trim
  have TR := fun w' h => trim_at A xs n c w.heap.size w' l1 h hc (by omega)
  rw [ht] at hlim TR
  have hsz : Hid ((digs 4294967296 N).length = 0 → N = 0) := Lib.hid (fun h => (digs_nil (b := 4294967296) (by decide)).1 (List.length_eq_zero_iff.1 h))
  have hsz2 : Hid (N = 0 → (digs 4294967296 N).length = 0) := Lib.hid (fun h => by rw [h]; rfl)
  obtain ⟨D, hD⟩ : ∃ D, D = digs 4294967296 N := ⟨_, rfl⟩
  obtain ⟨m, hm⟩ : ∃ m, m = D.length := ⟨_, rfl⟩
  unfold Fresh
  rw [← hD, ← hm] at hfit hsz hsz2 TR ⊢
  rw [← hD] at hlim
  have HM := Lib.hid hm.symm
  clear hD hm ht
  have HT : ∀ w', Lim .u32 w.heap.size w' A xs → Hid (Calls Tryd.prog 54 #[.slice A n c] w' fun e w'' => e = .returned (.slice A m c) ∧ w' = w'') := fun w' h => Lib.hid (TR w' h)
  have HB := Lib.hid hb
  clear TR hb
  have hcb : ∀ w', (w.alloc (.cells #[.bool false, .slice none 0 0] 24)).grownBy w' none → w'.cell? ⟨b, 0, none⟩ = some (.bool neg) := fun w' hg => (World.cell?_of_block (hg.block b (by simp; omega) (by simp))).trans ((World.cell?_alloc_lt w _ ⟨b, 0, none⟩ hlt).trans (cell_of_one HB.out))
  have hbk : ∀ w', (w.alloc (.cells #[.bool false, .slice none 0 0] 24)).grownBy w' none → Two w' w.heap.size 24 (.bool false) (.slice none 0 0) := fun w' hg => (Two.made w 24 _ _).grown hg (by simp)
  have hbel : ∀ w', (w.alloc (.cells #[.bool false, .slice none 0 0] 24)).grownBy w' none → Below w.heap.size w w' := fun w' hg => ((Below.refl _ _).alloc (Nat.le_refl _) _).grown hg (by simp) (by simp)
  have HS : m = 0 ∨ 0 < m := by omega
  rcases HS with h0 | h0
  · subst h0
    have hsb : Hid (signB neg N = false) := Lib.hid (by rw [hsz.out rfl]; exact signB_zero neg)
    cases neg
    all_goals
      go_enter Tryd.func79, Tryd.ntmps79
      go_wp2_with (first
        | (go_at_call 54; refine ((HT _ (hx.alloc (Nat.le_refl _) _)).out).mono ?_; rintro e w' ⟨rfl, rfl⟩)
        | (at_builtin; refine app_any (k := .u32) 22 43 4 Tryd.underlying22 u32_info (by decide) _ rfl _ _ rfl rfl (w.heap.size + 1) (.slice none 0 0) 0 [] rfl own_nil w.heap.size A 0 c D rfl (hlim.alloc (Nat.le_refl _) _) HM (by decide) (by simp) ?_; intro v1 w1 hown hgr; have hcell := hcb w1 hgr; have hk0 := (hbk w1 hgr).fst; have hk1 := (hbk w1 hgr).snd; have hf0 := (hbk w1 hgr).free 0; have hf1 := (hbk w1 hgr).free 1; have hbl := hbel w1 hgr; obtain ⟨A1, c1, rfl⟩ := own_slice hown; clear hgr hcb hbk hbel))
      rw [hsb.out]
      exact bodyPost_ret (v := .tuple #[.agg #[.bool false, .slice A1 0 c1], .int .i64 0]) (by simp [results, Tryd.results79, go_sem, hk0, hk1]) rfl ⟨A1, c1, rfl, own_two (by simpa using hown), (hbl.setCell (p := ⟨w.heap.size, 0, none⟩) (Nat.le_refl _) _).setCell (p := ⟨w.heap.size, 1, none⟩) (Nat.le_refl _) _⟩
  · have hsb : Hid (signB neg N = neg) := Lib.hid (signB_pos neg (fun h => by have := hsz2.out h; omega))
    cases neg
    all_goals
      go_enter Tryd.func79, Tryd.ntmps79
      go_wp2_with (first
        | (go_at_call 54; refine ((HT _ (hx.alloc (Nat.le_refl _) _)).out).mono ?_; rintro e w' ⟨rfl, rfl⟩)
        | (at_builtin; refine app_any (k := .u32) 22 43 4 Tryd.underlying22 u32_info (by decide) _ rfl _ _ rfl rfl (w.heap.size + 1) (.slice none 0 0) 0 [] rfl own_nil w.heap.size A m c D rfl (hlim.alloc (Nat.le_refl _) _) HM (by omega) (by simp) ?_; intro v1 w1 hown hgr; have hcell := hcb w1 hgr; have hk0 := (hbk w1 hgr).fst; have hk1 := (hbk w1 hgr).snd; have hf0 := (hbk w1 hgr).free 0; have hf1 := (hbk w1 hgr).free 1; have hbl := hbel w1 hgr; obtain ⟨A1, c1, rfl⟩ := own_slice hown; clear hgr hcb hbk hbel))
      rw [hsb.out]
      exact bodyPost_ret (v := .tuple #[.agg #[.bool _, .slice A1 m c1], .int .i64 0]) (by simp [results, Tryd.results79, go_sem, hk0, hk1]) rfl ⟨A1, c1, rfl, own_two (by simpa using hown), (hbl.setCell (p := ⟨w.heap.size, 0, none⟩) (Nat.le_refl _) _).setCell (p := ⟨w.heap.size, 1, none⟩) (Nat.le_refl _) _⟩
end Go.Proofs.YtocoflojlliapaaDoor
