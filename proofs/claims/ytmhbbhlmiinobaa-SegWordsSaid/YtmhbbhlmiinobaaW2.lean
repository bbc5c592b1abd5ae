/- SegWords: a map of words in memory, and what its operations do. -/
import Derived.Test.YtmhbbhlmiinobaaW1
set_option linter.unusedVariables false
set_option linter.unusedSimpArgs false
namespace Go.Proofs.Ytmhbbhlmiinobaa
open Go Go.RowKit Go.Maps
def MSay (D : DataW Unit) (f : Int → Option Int) : Prop := Tidy D ∧ ∀ a : Int, has D (.int .i64 a) = (f a).isSome ∧ ∀ x, f a = some x → ∀ z, D.atKey (.int .i64 a) z = .lit (.int .u64 x)
theorem lit_ne {a b : Int} (h : a ≠ b) : Lit.int .i64 a ≠ Lit.int .i64 b := fun e => h (by injection e)
theorem isk (a : Int) : WideAt.IsKeyLit (Lit.int .i64 a) := trivial
theorem MSay.put {D : DataW Unit} {f : Int → Option Int} (h : MSay D f) (a x : Int) : MSay (D.put (.int .i64 a) (.lit (.int .u64 x))) (fun b => if b = a then some x else f b) := by
  refine ⟨h.1.put (isk a) _, fun b => ?_⟩
  by_cases e : b = a
  · subst e
    simp only [if_true]
    exact ⟨by rw [has_put_same h.1.isMap (isk b)]; rfl, fun y hy z => by cases hy; exact atKey_put_same h.1.isMap (isk b) _ _⟩
  · simp only [if_neg e]
    exact ⟨by rw [has_put_other (lit_ne e)]; exact (h.2 b).1, fun y hy z => by rw [atKey_put_other (lit_ne e)]; exact (h.2 b).2 y hy z⟩
theorem MSay.del {D : DataW Unit} {f : Int → Option Int} (h : MSay D f) (a : Int) : MSay (D.del (.int .i64 a)) (fun b => if b = a then none else f b) := by
  refine ⟨h.1.del _, fun b => ?_⟩
  by_cases e : b = a
  · subst e
    simp only [if_true]
    exact ⟨by rw [has_del_same]; rfl, fun y hy z => by cases hy⟩
  · simp only [if_neg e]
    exact ⟨by rw [has_del_other (lit_ne e)]; exact (h.2 b).1, fun y hy z => by rw [atKey_del_other (lit_ne e)]; exact (h.2 b).2 y hy z⟩
theorem MSay.congr {D : DataW Unit} {f g : Int → Option Int} (h : MSay D f) (e : ∀ a, f a = g a) : MSay D g := ⟨h.1, fun a => by rw [← e a]; exact h.2 a⟩
theorem zero32 (w : World) : (zeroValue 32).run Try.prog w = .ok (.int .u64 0) w := by kernel_rfl
theorem keyA {a : Int} (h : -9223372036854775808 ≤ a ∧ a ≤ 9223372036854775807) : keyOf Try.prog 3 (.int .i64 a) = some (.int .i64 a) := keyOf_int_mk Try.underlying3 (WalkArith.wf_i64 (by omega))
structure WS (w : World) (G : Nat → Prop) (mb : Nat) (m : M) (B cnt : Nat) (f : Int → Option Int) (sz : Nat) (wr : World) : Prop where
  a : At G wr mb m
  d : ∃ D, wr.ownsMap Try.prog 3 (plainElem (H := Unit) Try.prog 32) B cnt D ∧ MSay D f ∧ size D = sz
  b : Below w.heap.size w wr
  g : G B
  l : w.heap.size ≤ B
  lo : ∀ k, k < w.heap.size → G k
section
variable {w wr wr' : World} {G : Nat → Prop} {mb B cnt sz : Nat} {m m' : M} {f : Int → Option Int}
theorem map_kept {D : DataW Unit} (h : wr.ownsMap Try.prog 3 (plainElem (H := Unit) Try.prog 32) B cnt D) (hk : wr'.heap[B]? = wr.heap[B]?) : wr'.ownsMap Try.prog 3 (plainElem (H := Unit) Try.prog 32) B cnt D := by
  obtain ⟨es, clock, hb, r⟩ := h
  exact ⟨es, clock, hk.trans hb, r⟩
theorem WS.call (h : WS w G mb m B cnt f sz wr) (ha : At G wr' mb m') (hk : Keep G wr wr') : WS w G mb m' B cnt f sz wr' := by
  obtain ⟨D, h1, h2⟩ := h.d
  exact ⟨ha, ⟨D, map_kept h1 (hk.block B h.g h1.lt), h2⟩, h.b.trans (hk.below h.b.size (fun k hk' => h.lo k hk')), h.g, h.l, h.lo⟩
theorem WS.below (h : WS w G mb m B cnt f sz wr) (hb : Below wr.heap.size wr wr') : WS w G mb m B cnt f sz wr' := h.call (h.a.below hb) (Keep.any hb)
theorem WS.congr {f' : Int → Option Int} (h : WS w G mb m B cnt f sz wr) (e : ∀ a, f a = f' a) : WS w G mb m B cnt f' sz wr := by
  obtain ⟨D, h1, h2, h3⟩ := h.d
  exact ⟨h.a, ⟨D, h1, h2.congr e, h3⟩, h.b, h.g, h.l, h.lo⟩
theorem WS.more (h : WS w G mb m B cnt f sz wr) (o : Obj) : WS w (fun k => G k ∨ k = wr.heap.size) mb m B cnt f sz (wr.alloc o) := by
  have hb : Below wr.heap.size wr (wr.alloc o) := (Below.refl _ _).alloc (Nat.le_refl _) _
  have h' := h.below hb
  exact ⟨h.a.more o, h'.d, h'.b, Or.inl h.g, h.l, fun k hk => Or.inl (h.lo k hk)⟩
theorem WS.less {G' : Nat → Prop} (h : WS w G mb m B cnt f sz wr) (hg : ∀ k, G' k → G k) (hB : G' B) (hl : ∀ k, k < w.heap.size → G' k) : WS w G' mb m B cnt f sz wr := ⟨h.a.less hg, h.d, h.b, hB, h.l, hl⟩
theorem WS.mono {cnt' : Nat} (h : WS w G mb m B cnt f sz wr) (hc : cnt ≤ cnt') : WS w G mb m B cnt' f sz wr := by
  obtain ⟨D, h1, h2⟩ := h.d
  exact ⟨h.a, ⟨D, h1.mono hc, h2⟩, h.b, h.g, h.l, h.lo⟩
theorem WS.look (h : WS w G mb m B cnt f sz wr) {a : Int} (ha : -9223372036854775808 ≤ a ∧ a ≤ 9223372036854775807) : ∃ c : Int, (Instr.lookup 58 (.map (some B)) (.int .i64 a) true).run Try.prog wr = .ok (.tuple #[.int .u64 c, .bool (f a).isSome]) wr := by
  obtain ⟨D, h1, h2, _⟩ := h.d
  obtain ⟨v, ps, hrun, hv⟩ := h1.look_ok law3 Try.underlying58 (zero32 wr) (plainElem_int (H := Unit) Try.underlying32 (a := 0) (by decide)) (keyA ha)
  obtain ⟨c, rfl, _, _⟩ := plainElem_int_inv Try.underlying32 hv
  exact ⟨c, by rw [hrun, (h2.2 a).1]⟩
theorem WS.turned (h : WS w G mb m B cnt f sz wr) (hk : wr.grownBy wr' (some B)) : At G wr' mb m ∧ Below w.heap.size w wr' ∧ Keep (fun k => k ≠ B) wr wr' :=
  ⟨h.a.kept (Keep.grown (Keep.refl _ _) hk (fun k e => by cases e; exact Or.inl (fun hn => hn h.g))), h.b.grown hk h.b.size (fun k e => by cases e; exact h.l), Keep.grown (Keep.refl _ _) hk (fun k e => by cases e; exact Or.inl (fun hn => hn rfl))⟩
theorem WS.put (h : WS w G mb m B cnt f sz wr) {a x : Int} (ha : -9223372036854775808 ≤ a ∧ a ≤ 9223372036854775807) (hx : 0 ≤ x ∧ x ≤ 18446744073709551615) (hc : cnt ≤ 100000) :
    ∃ wr', (Instr.mapUpdate 58 (.map (some B)) (.int .i64 a) (.int .u64 x)).run Try.prog wr = .ok () wr' ∧ WS w G mb m B (cnt + 1) (fun b => if b = a then some x else f b) (if (f a).isSome then sz else sz + 1) wr' ∧ Keep (fun k => k ≠ B) wr wr' := by
  obtain ⟨D, h1, h2, h3⟩ := h.d
  have hxw : (Lit.int .u64 x).wf = true := by
    rw [show (Lit.int .u64 x).wf = decide (0 ≤ x ∧ x ≤ 18446744073709551615) from by simp [Lit.wf, IntKind.min, IntKind.max, IntKind.signed, IntKind.bits]]
    simpa using hx
  obtain ⟨wr', r2, h4, hg⟩ := h1.update law3 Try.underlying58 (by unfold maxLen; omega) (keyA ha) (plainElem_int (H := Unit) Try.underlying32 hxw)
  have ht := h.turned hg
  exact ⟨wr', r2, ⟨ht.1, ⟨_, h4, h2.put a x, by rw [size_put h2.1, (h2.2 a).1, h3]⟩, ht.2.1, h.g, h.l, h.lo⟩, ht.2.2⟩
theorem WS.del (h : WS w G mb m B cnt f sz wr) {a : Int} (ha : -9223372036854775808 ≤ a ∧ a ≤ 9223372036854775807) (ty : TypeId) :
    ∃ wr', (Builtin.delete_ #[58, 3] ty #[.map (some B), .int .i64 a]).run Try.prog wr = .ok (.tuple #[]) wr' ∧ WS w G mb m B cnt (fun b => if b = a then none else f b) (sz - (if (f a).isSome then 1 else 0)) wr' ∧ Keep (fun k => k ≠ B) wr wr' := by
  obtain ⟨D, h1, h2, h3⟩ := h.d
  obtain ⟨wr', r2, h4, hm⟩ := h1.drop law3 Try.underlying58 (keyA ha) ty
  have hg := hm.grown
  have ht := h.turned hg
  refine ⟨wr', r2, ⟨ht.1, ⟨_, h4, h2.del a, ?_⟩, ht.2.1, h.g, h.l, h.lo⟩, ht.2.2⟩
  have := size_del (k := .int .i64 a) h2.1
  rw [(h2.2 a).1, h3] at this
  omega
theorem WS.len (h : WS w G mb m B cnt f sz wr) (ty : TypeId) : (Builtin.len_ #[58] ty #[.map (some B)]).run Try.prog wr = .ok (.int .i64 sz) wr := by
  obtain ⟨D, h1, h2, h3⟩ := h.d
  rw [h1.len Try.underlying58 ty, h3]
end
end Go.Proofs.Ytmhbbhlmiinobaa
