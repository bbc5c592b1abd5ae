/- A NUMBER HANDED IN BY VALUE, OPENED; WHAT IS HANDED IN READS AS IT DID; the law's own 'long'. -/
import Derived.Test.YtocoflojlliapaaDoorL0
import Derived.Lib.SmallJoins
import Derived.Carry
set_option linter.unusedVariables false
namespace Go.Proofs.YtocoflojlliapaaDoor
open Go.ChangeShapes Go.WideShapes Go.ChangeAt Go.RowKit
theorem lt_of_cell' {w : World} {a : Addr} {v : Value} (h : w.cell? a = some v) : a.block < w.heap.size := by
  rcases Nat.lt_or_ge a.block w.heap.size with hb | hb
  · exact hb
  · have h0 : w.heap[a.block]? = none := Array.getElem?_eq_none hb
    unfold World.cell? at h
    simp [h0] at h
theorem laidOut : laidOutB Tryd.prog = true := by kernel_rfl
set_option maxRecDepth 100000
section
variable {H : Type} {enc : TypeId × Value → H}
theorem lim_of {w : World} {a : Addr} {len cap : Nat} {zs : List Int} (hl : len ≤ cap) (hz : zs.length = cap) (hc : ∀ i, i < zs.length → w.cell? (a.add i) = some (.int .u32 (zs.getD i 0))) (hw : ∀ n ∈ zs, (Lit.int .u32 n).wf = true) :
    Mag w (some a) len cap (val 4294967296 ((zs.take len).map Int.toNat)) := by
  have hlen : ((zs.take len).map Int.toNat).length = len := by simp; omega
  refine ⟨(zs.take len).map Int.toNat, fun h0 => ⟨a, rfl, ?_, fun i hi => ?_⟩, ?_, hlen, rfl, hl⟩
  · have h1 : 0 < len := by
      rcases Nat.eq_zero_or_pos len with h | h
      · rw [h] at h0
        simp at h0
      · exact h
    have h2 := hc 0 (by omega)
    have h3 := lt_of_cell' h2
    rwa [add_block] at h3
  · have hi' : i < len := by rw [hlen] at hi; exact hi
    have hi2 : i < zs.length := by omega
    rw [hc i hi2]
    have e1 : zs.getD i 0 = zs[i] := by simp [List.getD, hi2]
    have e2 : ((zs.take len).map Int.toNat)[i] = (zs[i]).toNat := by simp
    have hb := (bounds_u32 (hw zs[i] (List.getElem_mem hi2))).1
    rw [e1, e2, Int.toNat_of_nonneg hb]
  · intro x hx
    obtain ⟨z, hz', rfl⟩ := List.mem_map.1 hx
    have hb := bounds_u32 (hw z (List.mem_of_mem_take hz'))
    omega
theorem open_num {W : World} {b0 : Nat} {v : Value} {d : DataW H} {p : List MemPlace} (hv : Value.okWide Tryd.prog W .any b0 24 v) (h : DataW.Trod enc Tryd.prog W 0 (fun _ => true) true 24 v d p) :
    ∃ neg A n c N, v = .agg #[.bool neg, .slice A n c] ∧ Mag W A n c N := by
  obtain ⟨v0, v1, y0, y1, m, rfl, rfl, rfl, t0, t1⟩ := Go.Joins.open_agg2 Tryd.underlying24 (by kernel_rfl) (by kernel_rfl) hv h
  obtain ⟨b, hb, _⟩ := DataW.trod_bool Tryd.underlying4 t0
  rcases open_ints Tryd.underlying22 Tryd.underlying43 (by kernel_rfl) t1 with ⟨hcs, hx⟩ | ⟨a, len, cap, zs, hcs, _, hl, hm, hz, hx, hc, hw⟩
  · simp at hb hcs
    subst hb hcs
    exact ⟨b, none, 0, 0, 0, rfl, Mag.none_ W⟩
  · simp at hb hcs
    subst hb hcs
    exact ⟨b, some a, len, cap, _, rfl, lim_of hl (by simpa using hz) hc hw⟩
theorem below_all0 {P : Program} (hl : laidOutB P = true) {W W' : World} (hb : Below W.heap.size W W') (ts : List TypeId) : ∀ {vs : List Value} {ds : List (DataW H)} {ps : List MemPlace},
    (∀ t ∈ ts, P.readableRec t = true ∧ t < P.types.size) → DataW.TrodAll enc P W 0 (fun _ => true) true ts vs ds ps → (∀ x ∈ ps, x.block < W.heap.size) →
    DataW.TrodAll enc P W' 0 (fun b => decide (b < W.heap.size)) true ts vs ds ps := by
  induction ts with
  | nil =>
    intro vs ds ps _ h _
    obtain ⟨rfl, rfl, rfl⟩ := trodAll_nil h
    exact trodAll_mk0
  | cons t ts ih =>
    intro vs ds ps hr h hlt
    obtain ⟨v, vs', d, ds', p, q, rfl, rfl, rfl, h0, r0⟩ := trodAll_cons h
    have h1 := hr t (by simp)
    exact trodAll_cons_mk (Below.trod hl h1.1 h1.2 h0 hb fun x hx => hlt x (List.mem_append_left _ hx)) (ih (fun t ht => hr t (by simp [ht])) r0 fun x hx => hlt x (List.mem_append_right _ hx))
theorem below_all {W W' : World} (hb : Below W.heap.size W W') {ts : List TypeId} {vs : List Value} {ds : List (DataW H)} {ps : List MemPlace}
    (hr : (ts.all fun t => Tryd.prog.readableRec t && decide (t < Tryd.prog.types.size)) = true) (h : DataW.TrodAll enc Tryd.prog W 0 (fun _ => true) true ts vs ds ps) (hlt : ∀ x ∈ ps, x.block < W.heap.size) :
    DataW.TrodAll enc Tryd.prog W' 0 (fun b => decide (b < W.heap.size)) true ts vs ds ps :=
  below_all0 laidOut hb ts (fun t ht => by have := List.all_eq_true.1 hr t ht; simp only [Bool.and_eq_true, decide_eq_true_eq] at this; exact this) h hlt
end
theorem long_no (neg : Bool) (A : Option Addr) (n c : Nat) (hn : n ≤ 60) (w : World) :
    Calls Tryd.prog 17 #[.agg #[.bool neg, .slice A n c]] w fun e w' => e = .returned (.bool false) ∧ Below w.heap.size w w' := by
  have hT := Two.made w 24 (.bool neg) (.slice A n c)
  have k1 := hT.snd
  go_enter Tryd.func17, Tryd.ntmps17
  go_wp2
  all_goals go_ret
  all_goals exact ⟨by simp; omega, below_al (Below.refl _ _) _⟩
theorem long_yes (neg : Bool) (A : Option Addr) (n c : Nat) (hn : 60 < n) (w : World) :
    Calls Tryd.prog 17 #[.agg #[.bool neg, .slice A n c]] w fun e w' => e = .returned (.bool true) ∧ Below w.heap.size w w' := by
  have hT := Two.made w 24 (.bool neg) (.slice A n c)
  have k1 := hT.snd
  go_enter Tryd.func17, Tryd.ntmps17
  go_wp2
  all_goals go_ret
  all_goals exact ⟨by simp; omega, below_al (Below.refl _ _) _⟩
end Go.Proofs.YtocoflojlliapaaDoor
