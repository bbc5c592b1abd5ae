/- What is put last is taken. -/
import Derived.Test.YtkffojipgphneaaDoorC2
set_option linter.unusedVariables false
set_option linter.unusedSimpArgs false
namespace Go.Proofs.YtkffojipgphneaaDoor
open Go Go.RowKit
theorem own_last2 {w : World} {base e g n cap : Nat} {xs : List Value} {a b : Value} (h : w.ownsRow base e 2 (.slice (some ⟨g, 0, none⟩) (n + 1) cap) (n + 1) (xs ++ [a, b])) : w.cell? ⟨g, n * 2, none⟩ = some a ∧ w.cell? ⟨g, n * 2 + 1, none⟩ = some b ∧ n + 1 ≤ cap ∧ cap ≤ maxLen := by
  have hx : xs.length = n * 2 := by have := h.1; simp at this; omega
  have h1 := h.cellAt (n * 2) (by omega)
  have h2 := h.cellAt (n * 2 + 1) (by omega)
  rw [List.getElem?_append_right (by omega), hx] at h1 h2
  refine ⟨by simpa using h1, ?_, ?_⟩
  · rw [h2, show n * 2 + 1 - n * 2 = 1 by omega]
    rfl
  · rcases h.2 with ⟨_, h0⟩ | ⟨g', cap0, cur, hv, hb, hh, hcap, hm, _⟩
    · omega
    · injection hv with e1 e2 e3
      subst e3
      exact ⟨hcap, hm⟩
theorem own_last1 {w : World} {base e g n cap : Nat} {xs : List Value} {a : Value} (h : w.ownsRow base e 1 (.slice (some ⟨g, 0, none⟩) (n + 1) cap) (n + 1) (xs ++ [a])) : w.cell? ⟨g, n, none⟩ = some a ∧ n + 1 ≤ cap ∧ cap ≤ maxLen := by
  have hx : xs.length = n := by have := h.1; simp at this; omega
  have h1 := h.cellAt n (by omega)
  rw [List.getElem?_append_right (by omega), hx] at h1
  refine ⟨by simpa using h1, ?_⟩
  rcases h.2 with ⟨_, h0⟩ | ⟨g', cap0, cur, hv, hb, hh, hcap, hm, _⟩
  · omega
  · injection hv with e1 e2 e3
    subst e3
    exact ⟨hcap, hm⟩
theorem own_less {w : World} {base e s g n cap : Nat} {xs ys : List Value} (h : w.ownsRow base e s (.slice (some ⟨g, 0, none⟩) (n + 1) cap) (n + 1) (xs ++ ys)) (hy : ys.length = s) : w.ownsRow base e s (.slice (some ⟨g, 0, none⟩) n cap) n xs := by
  have hx : xs.length = n * s := by have := h.1; rw [List.length_append, hy, Nat.add_mul] at this; omega
  refine ⟨hx, ?_⟩
  rcases h.2 with ⟨_, h0⟩ | ⟨g', cap0, cur, hv, hb, hh, hcap, hm, hc, ht⟩
  · omega
  · injection hv with e1 e2 e3
    injection e1 with e1
    injection e1 with e1
    subst e3 e1
    refine .inr ⟨g, cap, cur, rfl, hb, hh, by omega, hm, hc, ?_⟩
    have : (cur.toList.take ((n + 1) * s)).take (n * s) = xs := by rw [ht, List.take_append_of_le_length (by omega), ← hx, List.take_length]
    rw [List.take_take] at this
    rwa [Nat.min_eq_left (Nat.mul_le_mul_right _ (by omega))] at this
theorem take_fin {w w1 : World} {bx T e size base n cap g : Nat} {xs news : List Value} (hT : T ≠ e) (h1 : Keep (fun _ => True) w w1) (hbox : Boxed w bx T (.slice (some ⟨g, 0, none⟩) (n + 1) cap))
    (hown : w.ownsRow base e size (.slice (some ⟨g, 0, none⟩) (n + 1) cap) (n + 1) (xs ++ news)) (hl : news.length = size) :
    Boxed (w1.setCell ⟨bx, 0, none⟩ (.slice (some ⟨g, 0, none⟩) n cap)) bx T (.slice (some ⟨g, 0, none⟩) n cap) ∧ (w1.setCell ⟨bx, 0, none⟩ (.slice (some ⟨g, 0, none⟩) n cap)).ownsRow base e size (.slice (some ⟨g, 0, none⟩) n cap) n xs ∧ Keep (fun k => k ≠ bx) w (w1.setCell ⟨bx, 0, none⟩ (.slice (some ⟨g, 0, none⟩) n cap)) := by
  have hb1 : Boxed w1 bx T _ := h1.heap trivial hbox
  have hne : some bx ≠ some g := fun e => hbox.not_row hT hown (by rw [e]; rfl)
  refine ⟨hb1.set _, ?_, ?_⟩
  · refine ownsRow_setCell_other ?_ (fun e => hne e.symm) _
    refine (own_less hown hl).kept (w' := w1) (row := none) ⟨h1.os, h1.tape, h1.output, h1.size, fun k hk _ => h1.block k trivial hk⟩ (.inr (by simp [Value.ownBlock]))
  · exact (h1.mono (fun _ _ _ => trivial)).setCell (p := ⟨bx, 0, none⟩) _ (.inl (fun h => h rfl))
set_option maxHeartbeats 1600000 in
theorem take74_any (bx base g : Nat) (n cap : Nat) (xs : List Value) (p : Addr) (lvl : Int) (w : World) (hbox : Boxed w bx 76 (.slice (some ⟨g, 0, none⟩) (n + 1) cap)) (hown : w.ownsRow base 74 2 (.slice (some ⟨g, 0, none⟩) (n + 1) cap) (n + 1) (xs ++ [.pointer (some p), .int .i64 lvl])) (hn : n ≤ 1000000) :
    Calls Tryd.prog 47 #[.pointer (some ⟨bx, 0, none⟩)] w fun e w' => e = .returned (.agg #[.pointer (some p), .int .i64 lvl]) ∧ Boxed w' bx 76 (.slice (some ⟨g, 0, none⟩) n cap) ∧ w'.ownsRow base 74 2 (.slice (some ⟨g, 0, none⟩) n cap) n xs ∧ Keep (fun k => k ≠ bx) w w' := by
  have hlast := own_last2 hown
  have hg : g < w.heap.size := (hown.lt g rfl).2
  have hlt := hbox.lt
  have hc := hbox.cell
  have hf := hbox.frozen
  obtain ⟨h0, h1, hcap, hmx⟩ := hlast
  unfold maxLen at hmx
  have FIN := Lib.hid (take_fin (by decide) (Keep.refl _ w) hbox hown (news := [.pointer (some p), .int .i64 lvl]) rfl)
  clear hbox hown
  go_enter Tryd.func47, Tryd.ntmps47
  go_wp2
  obtain ⟨f1, f2, f3⟩ := FIN.out
  exact bodyPost_ret (v := .agg #[.pointer (some p), .int .i64 lvl]) (by simp [results, Tryd.results47, go_sem]) rfl ⟨rfl, (f1.alloc _).alloc _, (f2.alloc _).alloc _, (f3.alloc _).alloc _⟩
set_option maxHeartbeats 1600000 in
theorem take52_any (bx base g : Nat) (n cap : Nat) (xs : List Value) (p q : Addr) (w : World) (hbox : Boxed w bx 54 (.slice (some ⟨g, 0, none⟩) (n + 1) cap)) (hown : w.ownsRow base 52 2 (.slice (some ⟨g, 0, none⟩) (n + 1) cap) (n + 1) (xs ++ [.pointer (some p), .pointer (some q)])) (hn : n ≤ 1000000) :
    Calls Tryd.prog 36 #[.pointer (some ⟨bx, 0, none⟩)] w fun e w' => e = .returned (.agg #[.pointer (some p), .pointer (some q)]) ∧ Boxed w' bx 54 (.slice (some ⟨g, 0, none⟩) n cap) ∧ w'.ownsRow base 52 2 (.slice (some ⟨g, 0, none⟩) n cap) n xs ∧ Keep (fun k => k ≠ bx) w w' := by
  have hlast := own_last2 hown
  have hg : g < w.heap.size := (hown.lt g rfl).2
  have hlt := hbox.lt
  have hc := hbox.cell
  have hf := hbox.frozen
  obtain ⟨h0, h1, hcap, hmx⟩ := hlast
  unfold maxLen at hmx
  have FIN := Lib.hid (take_fin (by decide) (Keep.refl _ w) hbox hown (news := [.pointer (some p), .pointer (some q)]) rfl)
  clear hbox hown
  go_enter Tryd.func36, Tryd.ntmps36
  go_wp2
  obtain ⟨f1, f2, f3⟩ := FIN.out
  exact bodyPost_ret (v := .agg #[.pointer (some p), .pointer (some q)]) (by simp [results, Tryd.results36, go_sem]) rfl ⟨rfl, (f1.alloc _).alloc _, (f2.alloc _).alloc _, (f3.alloc _).alloc _⟩
set_option maxHeartbeats 1600000 in
theorem take50_any (bx base g : Nat) (n cap : Nat) (xs : List Value) (p : Addr) (w : World) (hbox : Boxed w bx 93 (.slice (some ⟨g, 0, none⟩) (n + 1) cap)) (hown : w.ownsRow base 50 1 (.slice (some ⟨g, 0, none⟩) (n + 1) cap) (n + 1) (xs ++ [.pointer (some p)])) (hn : n ≤ 1000000) :
    Calls Tryd.prog 63 #[.pointer (some ⟨bx, 0, none⟩)] w fun e w' => e = .returned (.pointer (some p)) ∧ Boxed w' bx 93 (.slice (some ⟨g, 0, none⟩) n cap) ∧ w'.ownsRow base 50 1 (.slice (some ⟨g, 0, none⟩) n cap) n xs ∧ Keep (fun k => k ≠ bx) w w' := by
  have hlast := own_last1 hown
  have hg : g < w.heap.size := (hown.lt g rfl).2
  have hlt := hbox.lt
  have hc := hbox.cell
  have hf := hbox.frozen
  obtain ⟨h0, hcap, hmx⟩ := hlast
  unfold maxLen at hmx
  have FIN := Lib.hid (take_fin (by decide) (Keep.refl _ w) hbox hown (news := [.pointer (some p)]) rfl)
  clear hbox hown
  go_enter Tryd.func63, Tryd.ntmps63
  go_wp2
  obtain ⟨f1, f2, f3⟩ := FIN.out
  go_ret
  exact ⟨rfl, f1, f2, f3⟩
end Go.Proofs.YtkffojipgphneaaDoor
