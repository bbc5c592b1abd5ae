/- seg.unused, New, Seg. -/
import Derived.Test.YtmhbbhlmiinobaaD
import Derived.OwnWalk
set_option linter.unusedVariables false
namespace Go.Proofs.Ytmhbbhlmiinobaa
open Go Go.RowKit
set_option maxHeartbeats 400000
theorem unused_any (g k : Int) (w : World) :
    Calls Try.prog 29 #[.int .i64 g, .int .i64 k] w fun e w' => e = .returned (.agg #[.int .i64 g, .int .i64 k, .int .i64 0, .int .i64 5, .int .i64 5, .int .i64 5, .int .i64 5]) ∧ Below w.heap.size w w' := by
  go_enter Try.func29, Try.ntmps29
  go_wp2
  refine wp_loop_rounds 5 ?_
  repeat any_goals (rw [rounds_succ]; go_wp2)
  exact bodyPost_ret (v := .agg #[.int .i64 g, .int .i64 k, .int .i64 0, .int .i64 5, .int .i64 5, .int .i64 5, .int .i64 5]) (by simp [results, Try.results29, go_sem]) rfl ⟨rfl, ((Below.refl _ _).alloc (Nat.le_refl _) _).alloc (by simp) _⟩
def Sg.told (s : Sg) : Value := .agg (#[.int .i64 s.g, .int .i64 s.k, .int .i64 s.n] ++ (s.c.map (Value.int .i64)).toArray)
theorem told4 {g k : Int} {n : Nat} {t : Bool} {ws : List Int} {a b d e : Int} : (Sg.mk g k n [a, b, d, e] t ws).told = .agg #[.int .i64 g, .int .i64 k, .int .i64 n, .int .i64 a, .int .i64 b, .int .i64 d, .int .i64 e] := rfl
theorem seg_yes {w : World} {own : Nat → Prop} {mb : Nat} {m : M} (h : MemAt w own mb m) {i : Nat} {s : Sg} (hi : Has m i s) :
    Calls Try.prog 19 #[.pointer (some ⟨mb, 0, none⟩), .int .i64 i] w fun e w' => e = .returned (.tuple #[s.told, .bool true]) ∧ Below w.heap.size w w' := by
  obtain ⟨hk, sb, cp, v, h⟩ := h
  have ho := hk.all.get hi.1
  have H := Lib.hid (fun (V : World) (hb : Below w.heap.size w V) => find_yes (h.kept (Keep.any hb)) hk hi)
  obtain ⟨g, k, n, c, t, ws⟩ := s
  have h0 := h.seg (j := 0) hk hi.1 (by omega) (Sg.at0 _)
  have h1 := h.seg (j := 1) hk hi.1 (by omega) (Sg.at1 _)
  have h2 := h.seg (j := 2) hk hi.1 (by omega) (Sg.at2 _)
  obtain ⟨c1, c2, c3, _, _, _⟩ := ho
  match c, c1 with
  | [a, b, d, e], _ =>
  rw [told4]
  have h3 := h.seg (j := 3) hk hi.1 (x := .int .i64 a) (by omega) rfl
  have h4 := h.seg (j := 4) hk hi.1 (x := .int .i64 b) (by omega) rfl
  have h5 := h.seg (j := 5) hk hi.1 (x := .int .i64 d) (by omega) rfl
  have h6 := h.seg (j := 6) hk hi.1 (x := .int .i64 e) (by omega) rfl
  have hl := h.lt.2
  rw [Nat.add_zero] at h0
  clear c1 c2 c3
  go_enter Try.func19, Try.ntmps19
  go_wp2_with (go_at_call 31; refine (H.out _ (by exact (Below.refl _ _).alloc (Nat.le_refl _) _)).mono ?_; rintro e w' ⟨rfl, rfl⟩)
  exact bodyPost_ret (v := .tuple #[.agg #[.int .i64 g, .int .i64 k, .int .i64 n, .int .i64 a, .int .i64 b, .int .i64 d, .int .i64 e], .bool true]) (by simp [results, Try.results19, go_sem]) rfl ⟨rfl, ((Below.refl _ _).alloc (Nat.le_refl _) _)⟩
def Sg.zero : Sg := ⟨0, 0, 0, [0, 0, 0, 0], false, List.replicate 64 0⟩
theorem seg_no {w : World} {own : Nat → Prop} {mb : Nat} {m : M} (h : MemAt w own mb m) {i : Int} (hi : ∀ (j : Nat) s, i = (j : Int) → ¬ Has m j s) :
    Calls Try.prog 19 #[.pointer (some ⟨mb, 0, none⟩), .int .i64 i] w fun e w' => e = .returned (.tuple #[Sg.zero.told, .bool false]) ∧ Below w.heap.size w w' := by
  obtain ⟨hk, sb, cp, v, h⟩ := h
  have H := Lib.hid (fun (V : World) (hb : Below w.heap.size w V) => find_no (h.kept (Keep.any hb)) hk hi)
  clear hi
  rw [Sg.zero, told4]
  go_enter Try.func19, Try.ntmps19
  go_wp2_with (go_at_call 31; refine (H.out _ (by exact (Below.refl _ _).alloc (Nat.le_refl _) _)).mono ?_; rintro e w' ⟨rfl, rfl⟩)
  exact bodyPost_ret (v := .tuple #[.agg #[.int .i64 0, .int .i64 0, .int .i64 0, .int .i64 0, .int .i64 0, .int .i64 0, .int .i64 0], .bool false]) (by simp [results, Try.results19, go_sem]) rfl ⟨rfl, ((Below.refl _ _).alloc (Nat.le_refl _) _)⟩
theorem new_bad (n : Int) (w : World) (h : n < 8 ∨ 1024 < n) :
    Calls Try.prog 9 #[.int .i64 n] w fun e w' => e = .returned (.tuple #[.pointer none, .int .i64 1]) ∧ w = w' := by
  by_cases h0 : n < 8
  · clear h
    go_enter Try.func9, Try.ntmps9
    go_wp2
    go_ret2
    exact ⟨rfl, rfl⟩
  · have h1 : 1024 < n := by omega
    clear h h0
    go_enter Try.func9, Try.ntmps9
    go_wp2
    go_ret2
    exact ⟨rfl, rfl⟩
theorem Try.info72 : (Try.prog.info? 72).map (fun i => (i.zero, i.size, i.bytes)) = some (some (.agg Sg.zero.cells.toArray), 72, 576) := by kernel_rfl
def M.new (n : Nat) : M := ⟨List.replicate n Sg.zero, [], 0⟩
theorem wpList_make_at {P : Program} (w : World) {ops : Array Oper} {rest : List Oper} {o : Oper} {a : Act} {Q : Exit → Act → World → Prop}
    (hg : o.guard = none) (l c : Operand) (t : TypeId) (hop : o.op = Op.makeSlice t l c)
    (e : TypeId) (i : TypeInfo) (z : Value) (size : Nat) (h1 : P.underlying t = some (.slice e)) (h2 : P.info? e = some i) (h3 : i.zero = some z) (h4 : i.size = size)
    (kl kc : IntKind) (n : Nat) (hl : a.eval l = .int kl n) (hc : a.eval c = .int kc n) (b2 : i.bytes * n ≤ 281474976710656) (b3 : n ≤ maxLen)
    (hK : wpList P ops Q rest (a.put o.dst (.slice (some ⟨w.heap.size, 0, none⟩) n n)) (w.alloc (.cells (madeCells z.cells (n * size)) e))) :
    wpList P ops Q (o :: rest) a w := by
  refine wpList_plain hg fun K hK' => ?_
  have h63' : (n : Int) ≤ 9223372036854775807 := by
    simp [maxLen] at b3
    omega
  have hb' : (i.bytes : Int) * (n : Int) ≤ 281474976710656 := by
    have h : ((i.bytes * n : Nat) : Int) ≤ 281474976710656 := by omega
    rwa [Int.natCast_mul] at h
  have hr := run_make (P := P) w t e i z h1 h2 h3 kl kc n n (by omega) (Int.le_refl _) hb' h63'
  simp only [Int.toNat_natCast] at hr
  unfold Oper.wp
  simp [execOp, hop, hl, hc, hr, Result.andThen]
  subst h4
  exact hK' _ _ hK
theorem zero_ok : Sg.zero.Ok := ⟨rfl, by simp [Sg.zero], by simp [Sg.zero], by simp [Sg.zero], by simp [Sg.zero], fun j x _ h => by have := List.mem_of_getElem? h; simp [Sg.zero] at this; exact this⟩
theorem allok_new (n : Nat) : AllOk (List.replicate n Sg.zero) := fun s hs => by rw [(List.mem_replicate.1 hs).2]; exact zero_ok
theorem flat_new (n : Nat) : flat (List.replicate n Sg.zero) = (madeCells Sg.zero.cells.toArray (n * 72)).toList := by
  have hz : Sg.zero.cells.toArray.size = 72 := by have := Sg.len zero_ok; simpa using this
  apply List.ext_getElem?
  intro j
  by_cases hj : j < n * 72
  · have hi : (List.replicate n Sg.zero)[j / 72]? = some Sg.zero := by rw [List.getElem?_replicate, if_pos (by omega)]
    have := flat_get (allok_new n) hi (j := j % 72) (by omega)
    rw [show j / 72 * 72 + j % 72 = j from by omega] at this
    rw [this]
    have hlen := Sg.len zero_ok
    have hlt : j % 72 < Sg.zero.cells.length := by omega
    simp [madeCells, hj, hz, hlt]
  · rw [List.getElem?_eq_none, List.getElem?_eq_none]
    · simp [madeCells]; omega
    · rw [flat_len (allok_new n)]; simp; omega
theorem new_ok (n : Nat) (h8 : 8 ≤ n) (hn : n ≤ 1024) : (M.new n).Ok := by
  refine ⟨by simp [M.new, h8], by simp [M.new, hn], allok_new n, by simp [M.new], fun i s h => by simp [M.new] at h, by simp [M.new], fun i => ?_, ?_⟩
  · constructor
    · intro h; simp [M.new] at h
    · rintro ⟨s, hs, ht⟩
      have := (List.mem_replicate.1 (List.mem_of_getElem? hs)).2
      subst this
      cases ht
  · rw [show (M.new n).S = List.replicate n Sg.zero from rfl, cntT_none (fun s hs => by rw [(List.mem_replicate.1 hs).2]; rfl)]; rfl
theorem new_good (n : Nat) (w : World) (h8 : 8 ≤ n) (hn : n ≤ 1024) :
    Calls Try.prog 9 #[.int .i64 n] w fun e w' => e = .returned (.tuple #[.pointer (some ⟨w.heap.size + 1, 0, none⟩), .int .i64 0]) ∧ MemAt w' (fun k => w.heap.size ≤ k) (w.heap.size + 1) (M.new n) ∧ Below w.heap.size w w' := by
  obtain ⟨i0, hi, hz0, hz1, hz2⟩ := info_parts Try.info72
  have hsz : (w.alloc (.cells (madeCells Sg.zero.cells.toArray (n * 72)) 72)).heap.size = w.heap.size + 1 := by simp
  have HS := Lib.hid hsz
  clear hsz
  generalize hW : w.alloc (.cells (madeCells Sg.zero.cells.toArray (n * 72)) 72) = W at HS
  have HW := Lib.hid hW
  have HM : Hid (MemAt (W.alloc (.cells #[.slice (some ⟨w.heap.size, 0, none⟩) n n, .slice none 0 0, .int .i64 0] 45)) (fun k => w.heap.size ≤ k) (w.heap.size + 1) (M.new n)) := by
    refine Lib.hid ⟨new_ok n h8 hn, w.heap.size, n, .slice none 0 0, ⟨?_, ?_, ?_, by omega, by simp [Value.ownBlock], by simp [Value.ownBlock], by omega, Nat.le_refl _, by simp [Value.ownBlock]⟩⟩
    · rw [← HS.out, heap_alloc_new]; simp [M.new]
    · have h0 := World.ownsRow_lit (base := 0) (e := 72) (size := 72) w (madeCells Sg.zero.cells.toArray (n * 72)) n (Nat.zero_le _) (by unfold maxLen; omega) (by rw [size_madeCells])
      rw [hW] at h0
      have h1 := h0.alloc (.cells #[.slice (some ⟨w.heap.size, 0, none⟩) n n, .slice none 0 0, .int .i64 0] 45)
      simpa [M.new, flat_new] using h1
    · exact World.ownsRow_nil _ _ _ _
  have HB : Hid (Below w.heap.size w (W.alloc (.cells #[.slice (some ⟨w.heap.size, 0, none⟩) n n, .slice none 0 0, .int .i64 0] 45))) := by
    subst hW
    exact Lib.hid (((Below.refl _ _).alloc (Nat.le_refl _) _).alloc (by simp) _)
  clear hW
  go_enter Try.func9, Try.ntmps9
  go_wp2_with (at_make; refine wpList_make_at _ rfl _ _ 42 rfl 72 i0 (.agg Sg.zero.cells.toArray) 72 Try.underlying42 hi hz0 hz1 _ _ n rfl rfl (by rw [hz2]; omega) (by unfold maxLen; omega) ?_; rw [show (Value.agg Sg.zero.cells.toArray).cells = Sg.zero.cells.toArray from rfl, HW.out])
  go_ret2
  exact ⟨by rw [HS.out]; rfl, HM.out, HB.out⟩
end Go.Proofs.Ytmhbbhlmiinobaa
