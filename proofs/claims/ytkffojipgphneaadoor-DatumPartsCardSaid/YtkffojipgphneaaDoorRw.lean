/- What every row of this package's laws asks: the tables that it lists, a world that holds them, the walk's end. -/
import Derived.Test.YtkffojipgphneaaDoorO1
import Derived.Test.YtkffojipgphneaaDoorSh
import Derived.Test.YtkffojipgphneaaDoorCards
import Derived.Test.YtkffojipgphneaaDoorTie
import Derived.WalkKit
import Derived.ProofKit
import Derived.OpenShut
import Derived.Deep.DeepHandedRow
import Derived.Lib.LaidTab
import Derived.Lib.LaidIn
import Derived.Lib.LaidU8T
import Derived.MakeChecks
import Derived.Stop.LaidErr
import Derived.Lay
import Derived.Carry
import Derived.SizedLaws
set_option linter.unusedVariables false
namespace Go.Proofs.YtkffojipgphneaaDoor
open Go.ChangeShapes Go.WideShapes Go.ChangeAt Go.RowKit Go.Shelf Go.Lib
theorem own : ownKnob Tryd.prog.godebug = none := by kernel_rfl
theorem laidOut : laidOutB Tryd.prog = true := by kernel_rfl
def laid0 : List (String × DataW Unit) := [("unicode/utf8.acceptRanges", Rows.laid_unicode_utf8_acceptRanges), ("unicode/utf8.first", Rows.laid_unicode_utf8_first)]
theorem laid0_plain (W : World) : laidMetH Tryd.prog laid0 W = laidMet Tryd.prog laid0 W := Go.MakeChecks.laidMetH_plain _ _ _ (by kernel_rfl)
theorem accRow : (Rows.laid_unicode_utf8_acceptRanges : DataW Unit) = acceptData := by kernel_rfl
theorem firstRow : (Rows.laid_unicode_utf8_first : DataW Unit) = firstData := by kernel_rfl
theorem tab_of {W : World} (h : laidMetH Tryd.prog laid0 W) : Lib.Utf8Tabs 0 1 W := by
  rw [laid0_plain] at h
  have h1 : VarReads Tryd.prog W "unicode/utf8.acceptRanges" acceptData := accRow ▸ laidMet.reads h (.head _)
  have h2 : VarReads Tryd.prog W "unicode/utf8.first" firstData := firstRow ▸ laidMet.reads h (.tail _ (.head _))
  exact utf8Tabs_of_readsT (U8Types.of196 Tryd.lays196) ⟨by kernel_rfl, by kernel_rfl, by kernel_rfl, by kernel_rfl, by kernel_rfl, by kernel_rfl, by kernel_rfl⟩ h2 h1
/-- a world for the witness: the settled one, the listed tables laid -/
noncomputable def laidWorld (os : Os) : World := World.laidAll Tryd.prog os laid0
theorem laidWorld_os (os : Os) : (laidWorld os).os = os := World.laidAll_os _ _ _
section
variable {H : Type} {enc : TypeId × Value → H}
theorem below_all0 {P : Program} (hl : laidOutB P = true) {W W' : World} (hb : Below W.heap.size W W') (ts : List TypeId) : ∀ {vs : List Value} {ds : List (DataW H)} {ps : List MemPlace},
    (∀ t ∈ ts, P.readableRec t = true ∧ t < P.types.size) → DataW.TrodAll enc P W 0 (fun _ => true) true ts vs ds ps → (∀ x ∈ ps, x.block < W.heap.size) →
    DataW.TrodAll enc P W' 0 (fun b => decide (b < W.heap.size)) true ts vs ds ps := by
  induction ts with
  | nil =>
    intro vs ds ps _ h _
    obtain ⟨rfl, rfl, rfl⟩ := trodAll_nil h
    exact trodAll_mk0
  | cons t ts ih =>
    intro vs ds ps hr h hlt
    obtain ⟨v, vs', d, ds', p, q, rfl, rfl, rfl, h0, r0⟩ := trodAll_cons h
    have h1 := hr t (by simp)
    exact trodAll_cons_mk (Below.trod hl h1.1 h1.2 h0 hb fun x hx => hlt x (List.mem_append_left _ hx)) (ih (fun t ht => hr t (by simp [ht])) r0 fun x hx => hlt x (List.mem_append_right _ hx))
set_option maxRecDepth 100000 in
theorem below_all {W W' : World} (hb : Below W.heap.size W W') {ts : List TypeId} {vs : List Value} {ds : List (DataW H)} {ps : List MemPlace}
    (hr : (ts.all fun t => Tryd.prog.readableRec t && decide (t < Tryd.prog.types.size)) = true) (h : DataW.TrodAll enc Tryd.prog W 0 (fun _ => true) true ts vs ds ps) (hlt : ∀ x ∈ ps, x.block < W.heap.size) :
    DataW.TrodAll enc Tryd.prog W' 0 (fun b => decide (b < W.heap.size)) true ts vs ds ps :=
  below_all0 laidOut hb ts (fun t ht => by have := List.all_eq_true.1 hr t ht; simp only [Bool.and_eq_true, decide_eq_true_eq] at this; exact this) h hlt
set_option maxRecDepth 100000 in
theorem open_datum {W : World} {b0 : Nat} {v : Value} {d : DataW H} {p : List MemPlace} (hv : Value.okWide Tryd.prog W .any b0 27 v) (h : DataW.Trod enc Tryd.prog W 0 (fun _ => true) true 27 v d p)
    {ts : List TypeId} {ds : List (DataW H)} {j : Nat} (hsz : (DataW.weightsEach Tryd.prog ts ds).all (· ≤ reachBytes) = true) (ht : ts[j]? = some 27) (hd : ds[j]? = some d) :
    ∃ (x : D) (f : F), v = .agg #[.int .i64 x.k, .int .i32 x.c, .bool x.neg, .slice x.mA x.mag.length x.mcap, .string x.t, .slice x.lA f.len x.lcap] ∧ Val (fun k => k < W.heap.size) W x f := by
  obtain ⟨cs, rfl, hcs⟩ := okWide_struct Tryd.underlying27 hv
  obtain ⟨fuel, hf⟩ := h
  obtain ⟨q, hq, hval⟩ := open_cells (enc := enc) (W := W) fuel _ _ hf (List.all_eq_true.2 fun n hn => List.all_eq_true.1 hsz n (DataW.weights_mem_each ht hd n hn))
  refine ⟨q.1, q.2, ?_, hval⟩
  simp only [Value.cells] at hq
  obtain ⟨l⟩ := cs
  simp only at hq
  rw [hq]
set_option maxRecDepth 100000 in
theorem open_data {W : World} {b0 : Nat} {v : Value} {d : DataW H} {p : List MemPlace} (hv : Value.okWide Tryd.prog W .any b0 25 v) (h : DataW.Trod enc Tryd.prog W 0 (fun _ => true) true 25 v d p)
    {ts : List TypeId} {ds : List (DataW H)} {j : Nat} (hsz : (DataW.weightsEach Tryd.prog ts ds).all (· ≤ reachBytes) = true) (ht : ts[j]? = some 25) (hd : ds[j]? = some d) :
    ∃ (A : Option Addr) (f : F) (c b o : Nat), v = .slice A f.len c ∧ (0 < f.len → A = some ⟨b, o, none⟩) ∧ AtF (fun k => k < W.heap.size) W f b o ∧ f.len ≤ c ∧ f.len ≤ 140737488355328 := by
  obtain ⟨a, len, cap, rfl⟩ := okWide_slice Tryd.underlying25 hv
  obtain ⟨fuel, hf⟩ := h
  obtain ⟨A, f, c, hcs, hat, hl, hm⟩ := open_items (enc := enc) (W := W) (n := fuel) (fun m _ => open_cells m) hf (List.all_eq_true.2 fun n hn => List.all_eq_true.1 hsz n (DataW.weights_mem_each ht hd n hn))
  simp only [Value.cells, List.cons.injEq, Value.slice.injEq, and_true] at hcs
  obtain ⟨rfl, rfl, rfl⟩ := hcs
  by_cases h0 : 0 < f.len
  · obtain ⟨b, o, rfl, hF⟩ := hat h0
    exact ⟨_, f, cap, b, o, rfl, fun _ => rfl, hF, hl, hm⟩
  · cases f with
    | nil => exact ⟨_, .nil, cap, 0, 0, rfl, fun h => absurd h h0, trivial, hl, hm⟩
    | cons d k r => simp [F.len] at h0
end
end Go.Proofs.YtkffojipgphneaaDoor
