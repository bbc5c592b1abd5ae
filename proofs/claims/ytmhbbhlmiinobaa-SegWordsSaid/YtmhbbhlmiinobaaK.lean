/- seg's calls on a memory that lies from a block on; awake. -/
import Derived.Test.YtmhbbhlmiinobaaJ
set_option linter.unusedVariables false
set_option linter.unusedSimpArgs false
namespace Go.Proofs.Ytmhbbhlmiinobaa
open Go Go.RowKit
set_option maxHeartbeats 800000
/-- The memory lies in no block of G; those of G are there. -/
def At (G : Nat → Prop) (w : World) (mb : Nat) (m : M) : Prop := (∀ k, G k → k < w.heap.size) ∧ MemAt w (fun k => ¬ G k) mb m
section
variable {G : Nat → Prop} {mb : Nat} {w w' : World} {m m' : M}
theorem At.ok (h : At G w mb m) : m.Ok := h.2.1
theorem At.below (h : At G w mb m) (hb : Below w.heap.size w w') : At G w' mb m := ⟨fun k hk => Nat.lt_of_lt_of_le (h.1 k hk) hb.size, h.2.kept (Keep.any hb)⟩
/-- One block more that is kept: a new one. -/
theorem At.more (h : At G w mb m) (o : Obj) : At (fun k => G k ∨ k = w.heap.size) (w.alloc o) mb m := by
  have hb : Below w.heap.size w (w.alloc o) := (Below.refl _ _).alloc (Nat.le_refl _) _
  obtain ⟨hg, hk, sb, cp, v, hm⟩ := h
  have hl := hm.lt
  refine ⟨fun k hk => ?_, hk, sb, cp, v, ?_⟩
  · simp only [World.size_alloc]
    rcases hk with hk | rfl
    · have := hg k hk; omega
    · omega
  · have hm' := hm.kept (Keep.any hb)
    refine ⟨hm'.hm, hm'.hs, hm'.ho, hm'.d1, hm'.d2, hm'.d3, ?_, ?_, fun k e => ?_⟩
    · rintro (e | e); exact hm.w1 e; omega
    · rintro (e | e); exact hm.w2 e; omega
    · rintro (e' | e')
      · exact hm.w3 k e e'
      · have := (hm.ho.lt k e).2; omega
theorem At.less {G' : Nat → Prop} (h : At G w mb m) (hg : ∀ k, G' k → G k) : At G' w mb m := ⟨fun k hk => h.1 k (hg k hk), h.2.mono (fun k hn hk => hn (hg k hk))⟩
theorem Keep.of_not {own : Nat → Prop} (h : Keep (fun k => ¬ own k) w w') (hg : ∀ k, G k → ¬ own k) : Keep G w w' := h.mono (fun k _ hk => hg k hk)
theorem Now.at (hB : ∀ k, G k → k < w.heap.size) (h : Now (fun k => ¬ G k) mb m' w w') : At G w' mb m' ∧ Keep G w w' :=
  ⟨⟨fun k hk => Nat.lt_of_lt_of_le (hB k hk) h.2.size, h.1⟩, h.2.of_not (fun k hk e => e hk)⟩
theorem at_take (h : At G w mb m) {g k : Int} (hg : genB g = true) (hk : kindB k = true) (hf : ff m.S < m.S.length) :
    Calls Try.prog 13 #[.pointer (some ⟨mb, 0, none⟩), .int .i64 g, .int .i64 k] w fun e w' => e = .returned (.tuple #[.int .i64 (ff m.S), .int .i64 0]) ∧ At G w' mb (m.taken g k) ∧ Keep G w w' := by
  refine (take_yes h.2 hg hk hf).mono ?_
  rintro e w' ⟨rfl, h1, h2⟩
  have hs := h2.size
  exact ⟨rfl, ⟨fun k hk => Nat.lt_of_lt_of_le (h.1 k hk) hs, h1.mono (fun k e hG => by rcases e with e | e; exact e hG; have := h.1 k hG; omega)⟩, h2.of_not (fun k hk e => e hk)⟩
theorem at_full (h : At G w mb m) {g k : Int} (hg : genB g = true) (hk : kindB k = true) (hf : ff m.S = m.S.length) :
    Calls Try.prog 13 #[.pointer (some ⟨mb, 0, none⟩), .int .i64 g, .int .i64 k] w fun e w' => e = .returned (.tuple #[.int .i64 0, .int .i64 2]) ∧ At G w' mb { m with l := m.S.length } ∧ Keep G w w' := by
  refine (take_full h.2 hg hk hf).mono ?_
  rintro e w' ⟨rfl, h1⟩
  exact ⟨rfl, h1.at h.1⟩
theorem at_bump (h : At G w mb m) {i : Nat} {s : Sg} {n : Nat} (hi : Has m i s) (h1 : 1 ≤ n) (hn : s.n + n ≤ 64) :
    Calls Try.prog 17 #[.pointer (some ⟨mb, 0, none⟩), .int .i64 i, .int .i64 n] w fun e w' => e = .returned (.tuple #[.int .i64 (i * 64 + s.n), .int .i64 0]) ∧ At G w' mb (m.put i (s.bump n)) ∧ Keep G w w' := by
  refine (bump_yes h.2 hi h1 hn).mono ?_
  rintro e w' ⟨rfl, h1⟩
  exact ⟨rfl, h1.at h.1⟩
theorem at_write (h : At G w mb m) {a : Int} {i : Nat} {s : Sg} (hu : Used m a i s) (x : Int) :
    Calls Try.prog 14 #[.pointer (some ⟨mb, 0, none⟩), .int .i64 a, .int .u64 x] w fun e w' => e = .returned (.int .i64 0) ∧ At G w' mb (m.put i (s.write a x)) ∧ Keep G w w' := by
  refine (write_yes h.2 hu x).mono ?_
  rintro e w' ⟨rfl, h1⟩
  exact ⟨rfl, h1.at h.1⟩
theorem at_give (h : At G w mb m) {i : Nat} {s : Sg} (hi : Has m i s) :
    Calls Try.prog 15 #[.pointer (some ⟨mb, 0, none⟩), .int .i64 i] w fun e w' => e = .returned (.int .i64 0) ∧ At G w' mb (m.given i s) ∧ Keep G w w' := by
  refine (give_yes h.2 hi).mono ?_
  rintro e w' ⟨rfl, h1⟩
  exact ⟨rfl, h1.at h.1⟩
theorem at_mark (h : At G w mb m) {i : Nat} {s : Sg} {c : Nat} {x : Int} (hi : Has m i s) (hc : c < 4) (h0 : 0 ≤ x) (h5 : x ≤ 5) :
    Calls Try.prog 20 #[.pointer (some ⟨mb, 0, none⟩), .int .i64 i, .int .i64 c, .int .i64 x] w fun e w' => e = .returned (.int .i64 0) ∧ At G w' mb (m.put i (s.mark c x)) ∧ Keep G w w' := by
  refine (mark_yes h.2 hi hc h0 h5).mono ?_
  rintro e w' ⟨rfl, h1⟩
  exact ⟨rfl, h1.at h.1⟩
theorem at_new (n : Nat) (w : World) (hg : ∀ k, G k → k < w.heap.size) (h8 : 8 ≤ n) (hn : n ≤ 1024) :
    Calls Try.prog 9 #[.int .i64 n] w fun e w' => e = .returned (.tuple #[.pointer (some ⟨w.heap.size + 1, 0, none⟩), .int .i64 0]) ∧ At G w' (w.heap.size + 1) (M.new n) ∧ Keep G w w' := by
  refine (new_good n w h8 hn).mono ?_
  rintro e w' ⟨rfl, h1, h2⟩
  exact ⟨rfl, ⟨fun k hk => Nat.lt_of_lt_of_le (hg k hk) h2.size, h1.mono (fun k e hG => by have := hg k hG; omega)⟩, Keep.any h2⟩
end
/-! The chapter's first examples. -/
def a0 : M := M.new 8
def a1 : M := a0.taken 0 0
def a2 : M := a1.taken 1 2
def a3 : M := a2.put 1 ((Sg.fresh 1 2).bump 63)
def a4 : M := a3.put 1 (((Sg.fresh 1 2).bump 63).write 65 7)
theorem a_has2 : Has a2 1 (Sg.fresh 1 2) := ⟨rfl, rfl⟩
theorem a_has3 : Has a3 1 ((Sg.fresh 1 2).bump 63) := ⟨rfl, rfl⟩
theorem a_use3 : Used a3 65 1 ((Sg.fresh 1 2).bump 63) := ⟨by decide, by decide, a_has3, by decide⟩
theorem a_use4 : Used a4 65 1 (((Sg.fresh 1 2).bump 63).write 65 7) := ⟨by decide, by decide, ⟨rfl, rfl⟩, by decide⟩
theorem a_no4 : ∀ i s, ¬ Used a4 127 i s := by
  rintro i s ⟨_, h1, h2, h3⟩
  have : i = 1 := by omega
  subst this
  have e : some (((Sg.fresh 1 2).bump 63).write 65 7) = some s := h2.1
  injection e with e
  subst e
  revert h3
  decide
theorem awake_any (w : World) : Calls Try.prog 8 #[] w fun e w' => e = .returned (.bool true) ∧ Below w.heap.size w w' := by
  have H0 := Lib.hid (at_new (G := fun k => k < w.heap.size) 8 w (fun k hk => hk) (by decide) (by decide))
  have H1 := Lib.hid (fun (V : World) (h : At (fun k => k < w.heap.size) V (w.heap.size + 1) a0) => at_take (g := 0) (k := 0) h rfl rfl (by decide))
  have H2 := Lib.hid (fun (V : World) (h : At (fun k => k < w.heap.size) V (w.heap.size + 1) a1) => at_take (g := 1) (k := 2) h rfl rfl (by decide))
  have H3 := Lib.hid (fun (V : World) (h : At (fun k => k < w.heap.size) V (w.heap.size + 1) a2) => at_bump (n := 63) h a_has2 (by decide) (by decide))
  have H4 := Lib.hid (fun (V : World) (h : At (fun k => k < w.heap.size) V (w.heap.size + 1) a3) => bump_full (n := 2) h.2 a_has3 (by decide))
  have H5 := Lib.hid (fun (V : World) (h : At (fun k => k < w.heap.size) V (w.heap.size + 1) a3) => at_write h a_use3 7)
  have H6 := Lib.hid (fun (V : World) (h : At (fun k => k < w.heap.size) V (w.heap.size + 1) a4) => read_yes (x := 7) h.2 a_use4 (by decide))
  have H7 := Lib.hid (fun (V : World) (h : At (fun k => k < w.heap.size) V (w.heap.size + 1) a4) => read_no h.2 (by decide) a_no4)
  have H8 := Lib.hid (fun (V : World) (h : At (fun k => k < w.heap.size) V (w.heap.size + 1) a4) => free_at h.2)
  go_enter Try.func8, Try.ntmps8
  go_wp2_with fail
  go_at_call 9
  refine H0.out.mono ?_
  rintro e w1 ⟨rfl, h1, b1⟩
  go_wp2_with fail
  go_at_call 13
  refine (H1.out _ h1).mono ?_
  rintro e w2 ⟨rfl, h2, b2⟩
  rw [show ((ff a0.S : Nat) : Int) = 0 from by decide]
  go_wp2_with fail
  go_at_call 13
  refine (H2.out _ h2).mono ?_
  rintro e w3 ⟨rfl, h3, b3⟩
  rw [show ((ff a1.S : Nat) : Int) = 1 from by decide]
  go_wp2_with fail
  go_at_call 17
  refine (H3.out _ h3).mono ?_
  rintro e w4 ⟨rfl, h4, b4⟩
  rw [show (((1 : Nat) : Int) * 64 + (((Sg.fresh 1 2).n : Nat) : Int)) = 64 from by decide]
  go_wp2_with fail
  go_at_call 17
  refine (H4.out _ h4).mono ?_
  rintro e w' ⟨rfl, rfl⟩
  go_wp2_with fail
  go_at_call 14
  refine (H5.out _ h4).mono ?_
  rintro e w5 ⟨rfl, h5, b5⟩
  go_wp2_with fail
  go_at_call 18
  refine (H6.out _ h5).mono ?_
  rintro e w' ⟨rfl, rfl⟩
  go_wp2_with fail
  go_at_call 18
  refine (H7.out _ h5).mono ?_
  rintro e w' ⟨rfl, rfl⟩
  go_wp2_with fail
  go_at_call 22
  refine (H8.out _ h5).mono ?_
  rintro e w6 ⟨rfl, b6⟩
  rw [show (((a4.S.length : Nat) : Int) - ((a4.o.length : Nat) : Int)) = 6 from by decide]
  go_wp2_with fail
  go_ret
  exact ⟨rfl, (b1.trans (b2.trans (b3.trans (b4.trans (b5.trans (Keep.any b6)))))).below (Nat.le_refl _) (fun k hk => hk)⟩
end Go.Proofs.Ytmhbbhlmiinobaa
