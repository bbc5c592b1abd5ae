/- datum.Count, Depth. -/
import Derived.Test.YtkffojipgphneaaDoorP1
set_option linter.unusedVariables false
set_option linter.unusedSimpArgs false
namespace Go.Proofs.YtkffojipgphneaaDoor
open Go Go.RowKit Go.Shelf
attribute [local go_sem] Oper.semAt_some
/-- A datum by its value: what it leads to. -/
structure Val (G : Nat → Prop) (w : World) (d : D) (f : F) : Prop where
  ok : d.Ok f.len
  mag : MagAt G w d.mA d.mag
  kids : AtF G w f d.kb d.ko
def six (d : D) (m : Nat) : Obj := .cells #[.int .i64 d.k, .int .i32 d.c, .bool d.neg, .slice d.mA d.mag.length d.mcap, .string d.t, .slice d.lA m d.lcap] 27
section
variable {G G' : Nat → Prop} {w w' : World} {d : D} {f : F}
theorem Val.keep (h : Val G w d f) (hk : Keep G w w') : Val G w' d f := ⟨h.ok, h.mag.keep hk, AtF.keep hk _ _ _ h.kids⟩
theorem Val.mono (h : Val G w d f) (hg : ∀ k, G k → G' k) : Val G' w d f := ⟨h.ok, h.mag.mono hg, AtF.mono hg _ _ _ h.kids⟩
theorem Val.below (h : Val (fun k => k < w.heap.size) w d f) (hb : Below w.heap.size w w') : Val (fun k => k < w'.heap.size) w' d f := (h.keep (Keep.of_below hb)).mono (fun k hk => Nat.lt_of_lt_of_le hk hb.size)
theorem Node.of_six {b : Nat} {m : Nat} (h : w.heap[b]? = some (six d m)) : Node w b 0 d m := by
  unfold six at h
  exact ⟨by simp [World.cell?, h], by simp [World.cell?, h], by simp [World.cell?, h], by simp [World.cell?, h], by simp [World.cell?, h], by simp [World.cell?, h]⟩
theorem Val.at (h : Val G w d f) {b : Nat} (hb : w.heap[b]? = some (six d f.len)) (lvl : Int) : ElAt (fun k => G k ∨ k = b) w ⟨b, 0, lvl, d, f⟩ :=
  ⟨.inr rfl, Node.of_six hb, h.ok, h.mag.mono (fun _ hk => .inl hk), AtF.mono (fun _ hk => .inl hk) _ _ _ h.kids⟩
theorem ElAt.val {x : El} (h : ElAt G w x) : Val G w x.d x.k := ⟨h.ok, h.mag, h.kids⟩
end
set_option maxHeartbeats 400000 in
theorem parts_any (d : D) (f : F) (w : World) :
    Calls Tryd.prog 32 #[.agg #[.int .i64 d.k, .int .i32 d.c, .bool d.neg, .slice d.mA d.mag.length d.mcap, .string d.t, .slice d.lA f.len d.lcap]] w fun e w' => e = .returned (.func (.func 46) #[] #[.pointer (some ⟨w.heap.size, 0, none⟩)]) ∧ w.alloc (six d f.len) = w' := by
  go_enter Tryd.func32, Tryd.ntmps32
  go_wp2
  go_ret
  exact ⟨rfl, rfl⟩
theorem parts_give (n0 bx : Nat) (d : D) (f : F) (W : World) (hbx : W.heap[bx]? = some (six d f.len)) (hv : Val (fun k => k < n0) W d f) (hn : n0 ≤ bx) (hc : f.cnt ≤ 200000) (S : Nat) (hS : W.heap.size + 2 = S) (r : Loop) :
    Gives Tryd.prog 46 #[.pointer (some ⟨bx, 0, none⟩)] encX (El.flat ⟨bx, 0, 0, d, f⟩) (Keep (fun k => (k < n0 ∨ k = bx) ∨ S ≤ k)) (Keep (fun k => k < S)) ((W.alloc (.deferred (some []))).alloc (.loop r)) := by
  have hlt := (Array.getElem?_eq_some_iff.1 hbx).1
  have hk : Keep (fun _ => True) W ((W.alloc (.deferred (some []))).alloc (.loop r)) := ((Keep.refl _ _).alloc _).alloc _
  have hsz : ((W.alloc (.deferred (some []))).alloc (.loop r)).heap.size = S := by simp [← hS]
  have := parts1_gives bx d f ((W.alloc (.deferred (some []))).alloc (.loop r)) (fun k => k < n0 ∨ k = bx) ((hv.at hbx 0).keep (hk.mono (fun _ _ _ => trivial))) hc (fun k hk => by rw [hsz]; omega)
  rw [hsz] at this
  exact this
set_option maxRecDepth 100000 in
set_option maxHeartbeats 4000000 in
theorem count_any (d : D) (f : F) (w : World) (h : Val (fun k => k < w.heap.size) w d f) (hc : f.cnt ≤ 200000) :
    Calls Tryd.prog 16 #[.agg #[.int .i64 d.k, .int .i32 d.c, .bool d.neg, .slice d.mA d.mag.length d.mcap, .string d.t, .slice d.lA f.len d.lcap]] w fun e w' => e = .returned (.int .i64 (f.cnt + 1 : Nat)) ∧ Below w.heap.size w w' := by
  refine (callsIn_wide (n := 0)).1 ?_
  refine callsIn_of_wp_marks Tryd.func16 rfl trivial ?_ rfl
  simp only [Tryd.ntmps16, List.size_toArray, List.length_cons, List.length_nil, Nat.reduceAdd, Nat.reduceSub, Array.replicate_succ, Array.replicate_zero, List.push_toArray, List.append_toArray, List.nil_append, List.cons_append]
  gi_wp2_with fail
  refine ⟨trivial, rfl, ?_⟩
  refine (callsIn_wide.2 (parts_any d f _)).mono ?_
  rintro e W1 ⟨rfl, hW1⟩
  have hb1 : Below w.heap.size w W1 := by rw [← hW1]; exact (((Below.refl _ _).alloc (Nat.le_refl _) _).alloc (by simp) _).alloc (by simp; omega) _
  have hs1 : W1.heap.size = w.heap.size + 3 := by rw [← hW1]; simp
  have bn1 : Boxed W1 (w.heap.size + 1) 3 (.int .i64 0) := by
    rw [← hW1]
    have := Boxed.new (w.alloc (six d f.len)) 3 (.int .i64 0)
    rw [World.size_alloc] at this
    exact this.alloc _
  have hx1 : W1.heap[w.heap.size + 1 + 1]? = some (six d f.len) := by
    rw [← hW1]
    have := heap_alloc_new ((w.alloc (six d f.len)).alloc (.cells #[.int .i64 0] 3)) (six d f.len)
    rw [World.size_alloc, World.size_alloc] at this
    exact this
  have hv1 : Val (fun k => k < w.heap.size) W1 d f := h.keep (Keep.of_below hb1)
  clear hW1
  have hG := parts_give w.heap.size (w.heap.size + 1 + 1) d f W1 hx1 hv1 (by omega) hc (w.heap.size + 5) (by omega)
  have hLL := El.flat_length ⟨w.heap.size + 1 + 1, 0, 0, d, f⟩
  simp only [] at hLL
  have HLL := Lib.hid hLL
  clear hLL
  generalize El.flat ⟨w.heap.size + 1 + 1, 0, 0, d, f⟩ = L at *
  gi_wp2_with fail
  refine wp_rf (gf := 46) (lb := #[.pointer (some ⟨w.heap.size + 1 + 1, 0, none⟩)]) rfl (enters_of Tryd.func46 (by kernel_rfl) rfl) hG (fun _ => rfl)
    (fun V V' hl h => h.book (by omega) (by omega) hl) (fun _ _ _ => Keep.trans) (fun V o hl => (Keep.refl _ _).putObj _ (.inl (by omega)))
    (fun pre V => Boxed V (w.heap.size + 1) 3 (.int .i64 (pre.length : Nat)) ∧ Keep (fun k => k < w.heap.size) w V) (fun _ _ _ => False)
    (fun pre V V' h hr => ⟨hr.heap (by omega) h.1, h.2.trans (hr.mono (fun k _ hk => by omega))⟩) (fun _ _ _ _ h _ => h)
    (fun pre V o r h hl => ⟨((Keep.refl (fun k => k ≠ W1.heap.size + 1) V).putObj o (.inl (by simp))).heap (by omega) h.1, h.2.putObj _ (.inl (by omega))⟩) (fun _ _ _ _ _ h _ => h)
    (fun r => ⟨(bn1.alloc _).alloc _, ((Keep.of_below hb1).alloc _).alloc _⟩)
    (fun x => { tmps := #[.agg #[.int .i64 d.k, .int .i32 d.c, .bool d.neg, .slice d.mA d.mag.length d.mcap, .string d.t, .slice d.lA f.len d.lcap], .pointer (some ⟨w.heap.size, 0, none⟩), .int .i64 0, .pointer (some ⟨w.heap.size + 1, 0, none⟩), .agg #[.int .i64 d.k, .int .i32 d.c, .bool d.neg, .slice d.mA d.mag.length d.mcap, .string d.t, .slice d.lA f.len d.lcap], .func (.func 46) #[] #[.pointer (some ⟨w.heap.size + 1 + 1, 0, none⟩)], .pointer (some ⟨x.b, x.o, none⟩), .int .i64 x.lvl, undef, undef, undef], defers := [] }) ?assign ?body ?done (fun _ _ _ _ _ _ h _ => h.elim)
  case assign =>
    intro l' x V K hK
    simp only [encX]
    gi_wp2
    first | exact hK | simpa using hK
  case done =>
    rintro V ⟨h1, h2⟩ hD
    have hc1 := h1.cell
    gi_wp2
    refine leaves_marks [W1.heap.size] V (by simp) (by simpa using hD) (fun w' hs hk => ⟨_, results_tmp rfl _ _ _, ?_, ?_⟩)
    · rw [HLL.out]
      rfl
    · exact (h2.trans (hk.mono (fun k hk0 hk1 => by simp; omega))).below (Nat.le_refl _) (fun k hk => hk)
  case body =>
    rintro l' pre x rest V hLd ⟨h1, h2⟩ hBD ⟨r0, hBL⟩
    have hc1 := h1.cell
    have hf1 := h1.frozen
    have hlen : pre.length + 1 ≤ 200001 := by
      have e1 := HLL.out
      rw [hLd] at e1
      simp only [List.length_append, List.length_cons] at e1
      omega
    have hB1 := (Array.getElem?_eq_some_iff.1 hBL).1
    obtain ⟨m, hm⟩ : ∃ m, m = pre.length := ⟨_, rfl⟩
    rw [← hm] at h1 hc1 hlen
    have HM := Lib.hid hm
    clear hm hLd
    gi_wp2
    refine ⟨((Keep.refl (fun k => k ≠ w.heap.size + 1) V).setCell (p := ⟨w.heap.size + 1, 0, none⟩) _ (.inl (by simp))).book (by omega) (by omega) hB1, (Keep.refl _ _).setCell (p := ⟨w.heap.size + 1, 0, none⟩) _ (.inl (by simp <;> omega)), ?_, h2.setCell (p := ⟨w.heap.size + 1, 0, none⟩) _ (.inl (by simp))⟩
    have := h1.set (.int .i64 ((m : Int) + 1))
    rw [List.length_append, List.length_singleton, ← HM.out]
    exact this
end Go.Proofs.YtkffojipgphneaaDoor
