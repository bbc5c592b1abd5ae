/- datum.Int, Str, Sym. -/
import Derived.Test.YtkffojipgphneaaDoorN2
import Derived.Test.YtkffojipgphneaaDoorL2
import Derived.Test.YtkffojipgphneaaDoorSh
set_option linter.unusedVariables false
set_option linter.unusedSimpArgs false
namespace Go.Proofs.YtkffojipgphneaaDoor
open Go Go.RowKit
def lims (x : Int) : List Nat := Nm.digs 4294967296 x.natAbs
def numD (x : Int) (A : Option Addr) (c : Nat) : D := ⟨4, 0, decide (x < 0), A, lims x, c, ⟨#[]⟩, none, 0⟩
def txtD (k : Int) (s : ByteArray) : D := ⟨k, 0, false, none, [], 0, s, none, 0⟩
theorem num_of (x : Int) (h0 : -9223372036854775808 ≤ x) (h1 : x ≤ 9223372036854775807) (w : World) :
    Calls Tryd.prog 40 #[.int .i64 x] w fun e w' => ∃ A c, e = .returned (.agg #[.bool (decide (x < 0)), .slice A (lims x).length c]) ∧ w'.ownsRow w.heap.size 60 1 (.slice A (lims x).length c) (lims x).length (mags (lims x)) ∧ Below w.heap.size w w' := by
  by_cases h : 0 ≤ x
  · obtain ⟨n, rfl⟩ := Int.eq_ofNat_of_zero_le h
    refine (Nm.of_pos n (by omega) w).mono fun e w' hq => ?_
    obtain ⟨A, c, rfl, hf⟩ := hq
    refine ⟨A, c, ?_, hf.1, hf.2⟩
    have : decide ((n : Int) < 0) = false := by simp
    rw [this]
    rfl
  · obtain ⟨n, hn⟩ := Int.eq_ofNat_of_zero_le (show 0 ≤ -x by omega)
    have e : x = -(n : Int) := by omega
    have e2 : x.natAbs = n := by omega
    have e3 : lims x = Nm.digs 4294967296 n := by rw [lims, e2]
    rw [e3, show decide (x < 0) = Nm.signB true n by rw [Nm.signB_pos _ (by omega)]; simp; omega, e]
    refine (Nm.of_neg n (by omega) (by omega) w).mono fun e w' hq => ?_
    obtain ⟨A, c, rfl, hf⟩ := hq
    exact ⟨A, c, rfl, hf.1, hf.2⟩
theorem num_at (x : Int) (m : Nat) (ng : Bool) (h0 : -9223372036854775808 ≤ x) (h1 : x ≤ 9223372036854775807) (hm : (lims x).length = m) (hng : decide (x < 0) = ng) (w : World) :
    Calls Tryd.prog 40 #[.int .i64 x] w fun e w' => ∃ A c, e = .returned (.agg #[.bool ng, .slice A m c]) ∧ w'.ownsRow w.heap.size 60 1 (.slice A m c) m (mags (lims x)) ∧ Below w.heap.size w w' := by
  subst hm hng
  exact num_of x h0 h1 w
theorem lims_lt (x : Int) : ∀ y ∈ lims x, y < 4294967296 := Nm.digs_low (by decide) _
theorem lims_len (x : Int) (h0 : -9223372036854775808 ≤ x) (h1 : x ≤ 9223372036854775807) : (lims x).length ≤ 2 := (Nm.digs_len_le (by decide) _ 2).2 (by omega)
attribute [irreducible] lims
set_option maxHeartbeats 1600000 in
theorem int_at (x : Int) (m : Nat) (ng : Bool) (h0 : -9223372036854775808 ≤ x) (h1 : x ≤ 9223372036854775807) (w : World) (hm : Hid ((lims x).length = m)) (hng : Hid (decide (x < 0) = ng)) (hm2 : m ≤ 2) :
    Calls Tryd.prog 20 #[.int .i64 x] w fun e w' => ∃ A c, e = .returned (.agg #[.int .i64 4, .int .i32 0, .bool ng, .slice A m c, .string ⟨#[]⟩, .slice none 0 0]) ∧ Val (fun k => w.heap.size ≤ k) w' (numD x A c) .nil ∧ Below w.heap.size w w' := by
  have hC := fun V => Lib.hid (num_at x m ng h0 h1 hm.out hng.out V)
  go_enter Tryd.func20, Tryd.ntmps20
  go_wp2_with (go_at_call 40; refine ((hC _).out).mono ?_; rintro e w1 ⟨A, c, rfl, hown, hb⟩; have hr := (hb.block w.heap.size (by simp)).trans (heap_alloc_new w (.cells #[.int .i64 0, .int .i32 0, .bool false, .slice none 0 0, .string ⟨#[]⟩, .slice none 0 0] 27)); have z0 : w1.cell? ⟨w.heap.size, 0, none⟩ = some (.int .i64 0) := (by simp [World.cell?, hr]); have y0 : w1.frozen? ⟨w.heap.size, 0, none⟩ = false := (by simp [World.frozen?, hr]); have z1 : w1.cell? ⟨w.heap.size, 1, none⟩ = some (.int .i32 0) := (by simp [World.cell?, hr]); have y1 : w1.frozen? ⟨w.heap.size, 1, none⟩ = false := (by simp [World.frozen?, hr]); have z2 : w1.cell? ⟨w.heap.size, 2, none⟩ = some (.bool false) := (by simp [World.cell?, hr]); have y2 : w1.frozen? ⟨w.heap.size, 2, none⟩ = false := (by simp [World.frozen?, hr]); have z3 : w1.cell? ⟨w.heap.size, 3, none⟩ = some (.slice none 0 0) := (by simp [World.cell?, hr]); have y3 : w1.frozen? ⟨w.heap.size, 3, none⟩ = false := (by simp [World.frozen?, hr]); have z4 : w1.cell? ⟨w.heap.size, 4, none⟩ = some (.string ⟨#[]⟩) := (by simp [World.cell?, hr]); have y4 : w1.frozen? ⟨w.heap.size, 4, none⟩ = false := (by simp [World.frozen?, hr]); have z5 : w1.cell? ⟨w.heap.size, 5, none⟩ = some (.slice none 0 0) := (by simp [World.cell?, hr]); have y5 : w1.frozen? ⟨w.heap.size, 5, none⟩ = false := (by simp [World.frozen?, hr]))
  have hkp : Keep (fun k => k ≠ w.heap.size) w1 ((((((w1.setCell ⟨w.heap.size, 0, none⟩ (.int .i64 4)).setCell ⟨w.heap.size, 1, none⟩ (.int .i32 0)).setCell ⟨w.heap.size, 2, none⟩ (.bool ng)).setCell ⟨w.heap.size, 3, none⟩ (.slice A m c)).setCell ⟨w.heap.size, 4, none⟩ (.string ⟨#[]⟩)).setCell ⟨w.heap.size, 5, none⟩ (.slice none 0 0)) := (((((((Keep.refl _ _).setCell (p := ⟨w.heap.size, 0, none⟩) _ (.inl (by simp))).setCell (p := ⟨w.heap.size, 1, none⟩) _ (.inl (by simp))).setCell (p := ⟨w.heap.size, 2, none⟩) _ (.inl (by simp))).setCell (p := ⟨w.heap.size, 3, none⟩) _ (.inl (by simp))).setCell (p := ⟨w.heap.size, 4, none⟩) _ (.inl (by simp))).setCell (p := ⟨w.heap.size, 5, none⟩) _ (.inl (by simp)))
  have hsix := set_six hr (.int .i64 4) (.int .i32 0) (.bool ng) (.slice A m c) (.string ⟨#[]⟩) (.slice none 0 0)
  generalize ((((((w1.setCell ⟨w.heap.size, 0, none⟩ (.int .i64 4)).setCell ⟨w.heap.size, 1, none⟩ (.int .i32 0)).setCell ⟨w.heap.size, 2, none⟩ (.bool ng)).setCell ⟨w.heap.size, 3, none⟩ (.slice A m c)).setCell ⟨w.heap.size, 4, none⟩ (.string ⟨#[]⟩)).setCell ⟨w.heap.size, 5, none⟩ (.slice none 0 0)) = X6 at *
  refine bodyPost_ret (results_cell_row rfl _ _ w.heap.size 27 _ (0, 0) _ rfl hsix Tryd.underlying27 (by kernel_rfl) (by kernel_rfl)) rfl ?_
  refine ⟨A, c, rfl, ⟨⟨?_, ?_, ?_, ?_, lims_lt x, ?_, ?_, ?_, ?_, ?_, ?_⟩, ?_, trivial⟩, ?_⟩
  · show (-9223372036854775808 : Int) ≤ 4; decide
  · show (4 : Int) ≤ 9223372036854775807; decide
  · show (-2147483648 : Int) ≤ 0; decide
  · show (0 : Int) ≤ 2147483647; decide
  · show (lims x).length ≤ c
    rw [hm.out]
    exact own_capb hown
  · show (lims x).length ≤ _
    rw [hm.out]
    omega
  · show ByteArray.size ⟨#[]⟩ ≤ _
    decide
  · exact Nat.zero_le _
  · exact Nat.zero_le _
  · intro h; cases h
  · show MagAt _ X6 A (lims x)
    have hown2 : w1.ownsRow (w.alloc (.cells #[.int .i64 0, .int .i32 0, .bool false, .slice none 0 0, .string ⟨#[]⟩, .slice none 0 0] 27)).heap.size 60 1 (.slice A (lims x).length c) (lims x).length (mags (lims x)) := by
      rw [hm.out]
      exact hown
    have hN := own_magN hown2 (s0 := w.heap.size + 1) (by simp)
    exact ((hN.magAt (G := fun k => w.heap.size + 1 ≤ k) (fun g _ _ hg _ => hg)).keep (hkp.mono (fun k _ hk => by have hk2 : w.heap.size + 1 ≤ k := hk; show k ≠ w.heap.size; omega))).mono (fun k hk => by have hk2 : w.heap.size + 1 ≤ k := hk; show w.heap.size ≤ k; omega)
  · have h1 : Below w.heap.size w w1 := ((Below.refl _ _).alloc (Nat.le_refl _) _).trans (hb.mono (by simp))
    exact h1.trans (hkp.below (by have := h1.size; omega) (fun k hk => by show k ≠ w.heap.size; omega))
theorem int_any (x : Int) (h0 : -9223372036854775808 ≤ x) (h1 : x ≤ 9223372036854775807) (w : World) :
    Calls Tryd.prog 20 #[.int .i64 x] w fun e w' => ∃ A c, e = .returned (.agg #[.int .i64 (numD x A c).k, .int .i32 (numD x A c).c, .bool (numD x A c).neg, .slice (numD x A c).mA (numD x A c).mag.length (numD x A c).mcap, .string (numD x A c).t, .slice (numD x A c).lA F.nil.len (numD x A c).lcap]) ∧ Val (fun k => w.heap.size ≤ k) w' (numD x A c) .nil ∧ Below w.heap.size w w' :=
  int_at x (lims x).length (decide (x < 0)) h0 h1 w (Lib.hid rfl) (Lib.hid rfl) (lims_len x h0 h1)
theorem txt_val (G : Nat → Prop) (w : World) (k : Int) (s : ByteArray) (h0 : -9223372036854775808 ≤ k) (h1 : k ≤ 9223372036854775807) (hs : s.size ≤ 140737488355328) : Val G w (txtD k s) .nil :=
  ⟨⟨h0, h1, by simp [txtD], by simp [txtD], by simp [txtD], by simp [txtD], by simp [txtD], hs, by simp [F.len], by simp [F.len], fun h => by cases h⟩, fun i hi => by simp [txtD] at hi, trivial⟩
set_option maxHeartbeats 1600000 in
theorem str_any (s : ByteArray) (hs : s.size ≤ 140737488355328) (w : World) :
    Calls Tryd.prog 23 #[.string s] w fun e w' => e = .returned (.agg #[.int .i64 (txtD 5 s).k, .int .i32 (txtD 5 s).c, .bool (txtD 5 s).neg, .slice (txtD 5 s).mA (txtD 5 s).mag.length (txtD 5 s).mcap, .string (txtD 5 s).t, .slice (txtD 5 s).lA F.nil.len (txtD 5 s).lcap]) ∧ (∀ G, Val G w' (txtD 5 s) .nil) ∧ Below w.heap.size w w' := by
  have hC := fun V => Lib.hid (clone_any s V hs)
  go_enter Tryd.func23, Tryd.ntmps23
  go_wp2_with (go_at_call 43; refine ((hC _).out).mono ?_; rintro e w1 ⟨rfl, hb⟩; have hr := (hb.block w.heap.size (by simp)).trans (heap_alloc_new w (.cells #[.int .i64 0, .int .i32 0, .bool false, .slice none 0 0, .string ⟨#[]⟩, .slice none 0 0] 27)); have z0 : w1.cell? ⟨w.heap.size, 0, none⟩ = some (.int .i64 0) := (by simp [World.cell?, hr]); have y0 : w1.frozen? ⟨w.heap.size, 0, none⟩ = false := (by simp [World.frozen?, hr]); have z1 : w1.cell? ⟨w.heap.size, 1, none⟩ = some (.int .i32 0) := (by simp [World.cell?, hr]); have y1 : w1.frozen? ⟨w.heap.size, 1, none⟩ = false := (by simp [World.frozen?, hr]); have z2 : w1.cell? ⟨w.heap.size, 2, none⟩ = some (.bool false) := (by simp [World.cell?, hr]); have y2 : w1.frozen? ⟨w.heap.size, 2, none⟩ = false := (by simp [World.frozen?, hr]); have z3 : w1.cell? ⟨w.heap.size, 3, none⟩ = some (.slice none 0 0) := (by simp [World.cell?, hr]); have y3 : w1.frozen? ⟨w.heap.size, 3, none⟩ = false := (by simp [World.frozen?, hr]); have z4 : w1.cell? ⟨w.heap.size, 4, none⟩ = some (.string ⟨#[]⟩) := (by simp [World.cell?, hr]); have y4 : w1.frozen? ⟨w.heap.size, 4, none⟩ = false := (by simp [World.frozen?, hr]); have z5 : w1.cell? ⟨w.heap.size, 5, none⟩ = some (.slice none 0 0) := (by simp [World.cell?, hr]); have y5 : w1.frozen? ⟨w.heap.size, 5, none⟩ = false := (by simp [World.frozen?, hr]))
  have hkp : Keep (fun k => k ≠ w.heap.size) w1 ((((((w1.setCell ⟨w.heap.size, 0, none⟩ (.int .i64 5)).setCell ⟨w.heap.size, 1, none⟩ (.int .i32 0)).setCell ⟨w.heap.size, 2, none⟩ (.bool false)).setCell ⟨w.heap.size, 3, none⟩ (.slice none 0 0)).setCell ⟨w.heap.size, 4, none⟩ (.string s)).setCell ⟨w.heap.size, 5, none⟩ (.slice none 0 0)) := (((((((Keep.refl _ _).setCell (p := ⟨w.heap.size, 0, none⟩) _ (.inl (by simp))).setCell (p := ⟨w.heap.size, 1, none⟩) _ (.inl (by simp))).setCell (p := ⟨w.heap.size, 2, none⟩) _ (.inl (by simp))).setCell (p := ⟨w.heap.size, 3, none⟩) _ (.inl (by simp))).setCell (p := ⟨w.heap.size, 4, none⟩) _ (.inl (by simp))).setCell (p := ⟨w.heap.size, 5, none⟩) _ (.inl (by simp)))
  have hsix := set_six hr (.int .i64 5) (.int .i32 0) (.bool false) (.slice none 0 0) (.string s) (.slice none 0 0)
  generalize ((((((w1.setCell ⟨w.heap.size, 0, none⟩ (.int .i64 5)).setCell ⟨w.heap.size, 1, none⟩ (.int .i32 0)).setCell ⟨w.heap.size, 2, none⟩ (.bool false)).setCell ⟨w.heap.size, 3, none⟩ (.slice none 0 0)).setCell ⟨w.heap.size, 4, none⟩ (.string s)).setCell ⟨w.heap.size, 5, none⟩ (.slice none 0 0)) = X6 at *
  refine bodyPost_ret (results_cell_row rfl _ _ w.heap.size 27 _ (0, 0) _ rfl hsix Tryd.underlying27 (by kernel_rfl) (by kernel_rfl)) rfl ?_
  refine ⟨rfl, fun G => txt_val G X6 5 s (by decide) (by decide) hs, ?_⟩
  have h1 : Below w.heap.size w w1 := ((Below.refl _ _).alloc (Nat.le_refl _) _).trans (hb.mono (by simp))
  exact h1.trans (hkp.below (by have := h1.size; omega) (fun k hk => by show k ≠ w.heap.size; omega))
set_option maxHeartbeats 1600000 in
theorem sym_any (s : ByteArray) (hs : s.size ≤ 140737488355328) (w : World) :
    Calls Tryd.prog 24 #[.string s] w fun e w' => e = .returned (.agg #[.int .i64 (txtD 6 s).k, .int .i32 (txtD 6 s).c, .bool (txtD 6 s).neg, .slice (txtD 6 s).mA (txtD 6 s).mag.length (txtD 6 s).mcap, .string (txtD 6 s).t, .slice (txtD 6 s).lA F.nil.len (txtD 6 s).lcap]) ∧ (∀ G, Val G w' (txtD 6 s) .nil) ∧ Below w.heap.size w w' := by
  have hC := fun V => Lib.hid (clone_any s V hs)
  go_enter Tryd.func24, Tryd.ntmps24
  go_wp2_with (go_at_call 43; refine ((hC _).out).mono ?_; rintro e w1 ⟨rfl, hb⟩; have hr := (hb.block w.heap.size (by simp)).trans (heap_alloc_new w (.cells #[.int .i64 0, .int .i32 0, .bool false, .slice none 0 0, .string ⟨#[]⟩, .slice none 0 0] 27)); have z0 : w1.cell? ⟨w.heap.size, 0, none⟩ = some (.int .i64 0) := (by simp [World.cell?, hr]); have y0 : w1.frozen? ⟨w.heap.size, 0, none⟩ = false := (by simp [World.frozen?, hr]); have z1 : w1.cell? ⟨w.heap.size, 1, none⟩ = some (.int .i32 0) := (by simp [World.cell?, hr]); have y1 : w1.frozen? ⟨w.heap.size, 1, none⟩ = false := (by simp [World.frozen?, hr]); have z2 : w1.cell? ⟨w.heap.size, 2, none⟩ = some (.bool false) := (by simp [World.cell?, hr]); have y2 : w1.frozen? ⟨w.heap.size, 2, none⟩ = false := (by simp [World.frozen?, hr]); have z3 : w1.cell? ⟨w.heap.size, 3, none⟩ = some (.slice none 0 0) := (by simp [World.cell?, hr]); have y3 : w1.frozen? ⟨w.heap.size, 3, none⟩ = false := (by simp [World.frozen?, hr]); have z4 : w1.cell? ⟨w.heap.size, 4, none⟩ = some (.string ⟨#[]⟩) := (by simp [World.cell?, hr]); have y4 : w1.frozen? ⟨w.heap.size, 4, none⟩ = false := (by simp [World.frozen?, hr]); have z5 : w1.cell? ⟨w.heap.size, 5, none⟩ = some (.slice none 0 0) := (by simp [World.cell?, hr]); have y5 : w1.frozen? ⟨w.heap.size, 5, none⟩ = false := (by simp [World.frozen?, hr]))
  have hkp : Keep (fun k => k ≠ w.heap.size) w1 ((((((w1.setCell ⟨w.heap.size, 0, none⟩ (.int .i64 6)).setCell ⟨w.heap.size, 1, none⟩ (.int .i32 0)).setCell ⟨w.heap.size, 2, none⟩ (.bool false)).setCell ⟨w.heap.size, 3, none⟩ (.slice none 0 0)).setCell ⟨w.heap.size, 4, none⟩ (.string s)).setCell ⟨w.heap.size, 5, none⟩ (.slice none 0 0)) := (((((((Keep.refl _ _).setCell (p := ⟨w.heap.size, 0, none⟩) _ (.inl (by simp))).setCell (p := ⟨w.heap.size, 1, none⟩) _ (.inl (by simp))).setCell (p := ⟨w.heap.size, 2, none⟩) _ (.inl (by simp))).setCell (p := ⟨w.heap.size, 3, none⟩) _ (.inl (by simp))).setCell (p := ⟨w.heap.size, 4, none⟩) _ (.inl (by simp))).setCell (p := ⟨w.heap.size, 5, none⟩) _ (.inl (by simp)))
  have hsix := set_six hr (.int .i64 6) (.int .i32 0) (.bool false) (.slice none 0 0) (.string s) (.slice none 0 0)
  generalize ((((((w1.setCell ⟨w.heap.size, 0, none⟩ (.int .i64 6)).setCell ⟨w.heap.size, 1, none⟩ (.int .i32 0)).setCell ⟨w.heap.size, 2, none⟩ (.bool false)).setCell ⟨w.heap.size, 3, none⟩ (.slice none 0 0)).setCell ⟨w.heap.size, 4, none⟩ (.string s)).setCell ⟨w.heap.size, 5, none⟩ (.slice none 0 0)) = X6 at *
  refine bodyPost_ret (results_cell_row rfl _ _ w.heap.size 27 _ (0, 0) _ rfl hsix Tryd.underlying27 (by kernel_rfl) (by kernel_rfl)) rfl ?_
  refine ⟨rfl, fun G => txt_val G X6 6 s (by decide) (by decide) hs, ?_⟩
  have h1 : Below w.heap.size w w1 := ((Below.refl _ _).alloc (Nat.le_refl _) _).trans (hb.mono (by simp))
  exact h1.trans (hkp.below (by have := h1.size; omega) (fun k hk => by show k ≠ w.heap.size; omega))
end Go.Proofs.YtkffojipgphneaaDoor
