/- datum.parts: the iterator. -/
import Derived.Test.YtkffojipgphneaaDoorC3
set_option linter.unusedVariables false
set_option linter.unusedSimpArgs false
namespace Go.Proofs.YtkffojipgphneaaDoor
open Go Go.RowKit Go.Shelf
attribute [local go_sem] Oper.semAt_some
def encX (x : El) : Array Value := #[.pointer (some ⟨x.b, x.o, none⟩), .int .i64 x.lvl]
/-- what waits, the next one last -/
def encP : List El → List Value
  | [] => []
  | x :: l => encP l ++ [.pointer (some ⟨x.b, x.o, none⟩), .int .i64 x.lvl]
theorem down_at {m : Nat} {pre : List Nat} {i : Nat} {rest : List Nat} (h : down m = pre ++ i :: rest) : i + pre.length + 1 = m ∧ rest = down i := by
  induction m generalizing pre with
  | zero => simp [down_zero] at h
  | succ m ih =>
    rw [down_succ] at h
    cases pre with
    | nil =>
      simp only [List.nil_append, List.cons.injEq] at h
      obtain ⟨rfl, rfl⟩ := h
      exact ⟨by simp, rfl⟩
    | cons p pre =>
      simp only [List.cons_append, List.cons.injEq] at h
      obtain ⟨rfl, h⟩ := h
      obtain ⟨h1, h2⟩ := ih h
      exact ⟨by simp only [List.length_cons]; omega, h2⟩
theorem down_length (m : Nat) : (down m).length = m := by simp [down]
structure Marks (s0 : Nat) (Ds : List Nat) (W : World) : Prop where
  nd : Ds.Nodup
  ge : ∀ D ∈ Ds, s0 ≤ D
  at' : ∀ D ∈ Ds, W.heap[D]? = some (.deferred (some []))
theorem Marks.lt {s0 : Nat} {Ds : List Nat} {W : World} (h : Marks s0 Ds W) : ∀ D ∈ Ds, D < W.heap.size := fun D hD => (Array.getElem?_eq_some_iff.1 (h.at' D hD)).1
theorem Marks.keep {s0 : Nat} {Ds : List Nat} {W W' : World} {G : Nat → Prop} (h : Marks s0 Ds W) (hk : Keep G W W') (hg : ∀ D ∈ Ds, G D) : Marks s0 Ds W' := ⟨h.nd, h.ge, fun D hD => hk.heap (hg D hD) (h.at' D hD)⟩
theorem Marks.nil (s0 : Nat) (W : World) : Marks s0 [] W := ⟨List.nodup_nil, by simp, by simp⟩
theorem Marks.cons {s0 D : Nat} {Ds : List Nat} {W : World} (h : Marks s0 Ds W) (h0 : s0 ≤ D) (hD : W.heap[D]? = some (.deferred (some []))) (hn : D ∉ Ds) : Marks s0 (D :: Ds) W :=
  ⟨List.nodup_cons.2 ⟨hn, h.nd⟩, fun E hE => by rcases List.mem_cons.1 hE with rfl | hE; exact h0; exact h.ge E hE, fun E hE => by rcases List.mem_cons.1 hE with rfl | hE; exact hD; exact h.at' E hE⟩
theorem own_keep1 {w w' : World} {base e s n : Nat} {v : Value} {xs : List Value} (h : w.ownsRow base e s v n xs) (hk : ∀ g, v.ownBlock = some g → ∀ o, w.heap[g]? = some o → w'.heap[g]? = some o) : w'.ownsRow base e s v n xs := by
  refine ⟨h.1, ?_⟩
  rcases h.2 with h2 | ⟨g', cap, cur, hv, hb, hh, r⟩
  · exact .inl h2
  · exact .inr ⟨g', cap, cur, hv, hb, hk g' (by rw [hv]; rfl) _ hh, r⟩
theorem own_keep {w w' : World} {base e s n : Nat} {v : Value} {xs : List Value} (h : w.ownsRow base e s v n xs) (hk : Keep (fun k => base ≤ k) w w') : w'.ownsRow base e s v n xs := by
  refine ⟨h.1, ?_⟩
  rcases h.2 with h2 | ⟨g', cap, cur, hv, hb, hh, r⟩
  · exact .inl h2
  · exact .inr ⟨g', cap, cur, hv, hb, hk.heap hb hh, r⟩
/-- Between two rounds of the iterator's own loop. -/
structure PInv (w : World) (G : Nat → Prop) (L : List El) (J : List El → World → Prop) (Ds : List Nat) (pre pend : List El) (g cap : Nat) (W : World) : Prop where
  cut : L = pre ++ flats pend
  j : J pre W
  keep : Keep G w W
  size : w.heap.size + 2 ≤ W.heap.size
  box : Boxed W (w.heap.size + 1) 76 (.slice (some ⟨g, 0, none⟩) pend.length cap)
  own : W.ownsRow w.heap.size 74 2 (.slice (some ⟨g, 0, none⟩) pend.length cap) pend.length (encP pend)
  marks : Marks w.heap.size Ds W
/-- While an element's items are put. -/
structure RInv (w : World) (G : Nat → Prop) (J' : World → Prop) (Ds : List Nat) (y : El) (rest : List El) (pb j g cap n : Nat) (V : World) : Prop where
  jj : J' V
  keep : Keep G w V
  sz : w.heap.size + 1 < pb ∧ pb < V.heap.size
  pbx : V.heap[pb]? = some (.cells #[.pointer (some ⟨y.b, y.o, none⟩), .int .i64 y.lvl] 74 (0, 0))
  ne : g ≠ pb
  len : n = (y.items.drop j ++ rest).length
  box : Boxed V (w.heap.size + 1) 76 (.slice (some ⟨g, 0, none⟩) n cap)
  own : V.ownsRow w.heap.size 74 2 (.slice (some ⟨g, 0, none⟩) n cap) n (encP (y.items.drop j ++ rest))
  marks : Marks w.heap.size Ds V
theorem RInv.stay {w V V' : World} {G G' : Nat → Prop} {J' : World → Prop} {Ds : List Nat} {y : El} {rest : List El} {pb j g cap n : Nat} (h : RInv w G J' Ds y rest pb j g cap n V) (hJ : J' V → J' V') (hk : Keep G' V V')
    (h1 : ∀ k, G k → G' k) (h2 : G' pb) (h3 : G' (w.heap.size + 1)) (h4 : G' g) (h5 : ∀ D ∈ Ds, G' D) : RInv w G J' Ds y rest pb j g cap n V' :=
  ⟨hJ h.jj, h.keep.trans (hk.mono fun k _ hk => h1 k hk), ⟨h.sz.1, Nat.lt_of_lt_of_le h.sz.2 hk.size⟩, hk.heap h2 h.pbx, h.ne, h.len, hk.heap h3 h.box, own_keep1 h.own (by intro g' e o ho; cases e; exact hk.heap h4 ho), h.marks.keep hk h5⟩
set_option maxRecDepth 100000 in
set_option maxHeartbeats 4000000 in
theorem parts1_gives (bx : Nat) (d : D) (f : F) (w : World) (G : Nat → Prop) (hat : ElAt G w ⟨bx, 0, 0, d, f⟩) (hcnt : f.cnt ≤ 200000) (hG : ∀ k, G k → k < w.heap.size) :
    Gives Tryd.prog 46 #[.pointer (some ⟨bx, 0, none⟩)] encX (El.flat ⟨bx, 0, 0, d, f⟩) (Keep (fun k => G k ∨ w.heap.size ≤ k)) (Keep (fun k => k < w.heap.size)) w := by
  intro l J Jx hJ hJx hY h0
  have HAT := hat.flat
  have HLV := El.flat_lvl (x := ⟨bx, 0, 0, d, f⟩)
  have HLN : (El.flat ⟨bx, 0, 0, d, f⟩).length ≤ 200001 := by rw [El.flat_length]; simp only []; omega
  have HEQ : El.flat ⟨bx, 0, 0, d, f⟩ = [] ++ flats [⟨bx, 0, 0, d, f⟩] := by simp [flats]
  generalize El.flat ⟨bx, 0, 0, d, f⟩ = L at *
  refine callsIn_of_wp_marks Tryd.func46 rfl trivial ?_ rfl
  simp only [Tryd.ntmps46, List.size_toArray, List.length_cons, List.length_nil, Nat.reduceAdd, Nat.reduceSub, Array.replicate_succ, Array.replicate_zero, List.push_toArray, List.append_toArray, List.nil_append, List.cons_append]
  gi_wp2
  refine wp_loopk (fun k a W => ∃ Ds pre pend g cap, k = (flats pend).length ∧ PInv w G L J Ds pre pend g cap W ∧ ∃ u2 u4 u5 u6 u7 u8 u9 u10 u11 u12 u13 u14 u15 u16 u17 u18 u19 u20 u21 u22 u23 u24 u25 u26 u27 u28 u29 u30 u31 u32 u33 u34 u35 u36 u37 u38 u39 u40 u41 : Value, a = { tmps := #[.func (.yield l) #[] #[], .pointer (some ⟨bx, 0, none⟩), u2, .pointer (some ⟨w.heap.size + 1, 0, none⟩), u4, u5, u6, u7, u8, u9, u10, u11, u12, u13, u14, u15, u16, u17, u18, u19, u20, u21, u22, u23, u24, u25, u26, u27, u28, u29, u30, u31, u32, u33, u34, u35, u36, u37, u38, u39, u40, u41], defers := Ds.map mk }) ?round (flats [(⟨bx, 0, 0, d, f⟩ : El)]).length _ _ ?start
  case start =>
    refine ⟨[], [], [⟨bx, 0, 0, d, f⟩], w.heap.size, 1, rfl, ⟨HEQ, ?_, ?_, ?_, ?_, ?_, Marks.nil _ _⟩, _, _, _, _, _, _, _, _, _, _, _, _, _, _, _, _, _, _, _, _, _, _, _, _, _, _, _, _, _, _, _, _, _, _, _, _, _, _, _, rfl⟩
    · exact hJ _ _ _ h0 (((Keep.refl _ _).alloc _).alloc _)
    · exact ((Keep.refl _ _).alloc _).alloc _
    · simp
    · have := Boxed.new (w.alloc (.cells #[.pointer (some ⟨bx, 0, none⟩), .int .i64 0] 74)) 76 (.slice (some ⟨w.heap.size, 0, none⟩) 1 1)
      simpa using this
    · refine World.ownsRow.alloc ?_ _
      have := World.ownsRow_lit (base := w.heap.size) (e := 74) (size := 2) w #[.pointer (some ⟨bx, 0, none⟩), .int .i64 0] 1 (Nat.le_refl _) (by unfold maxLen; omega) rfl
      simpa [encP] using this
  case round =>
    rintro k a W ⟨Ds, pre, pend, g, cap, rfl, ⟨hcut, hj, hkp, hsz, hbox, hown, hmk⟩, u2, u4, u5, u6, u7, u8, u9, u10, u11, u12, u13, u14, u15, u16, u17, u18, u19, u20, u21, u22, u23, u24, u25, u26, u27, u28, u29, u30, u31, u32, u33, u34, u35, u36, u37, u38, u39, u40, u41, rfl⟩
    have HCUT := Lib.hid hcut
    have HMK := Lib.hid hmk
    have HJ := Lib.hid hj
    clear hcut hmk hj
    have hcb := hbox.cell
    rcases pend with _ | ⟨y, rest⟩
    · simp only [List.length_nil] at hbox hown hcb ⊢
      gi_wp2
      refine leaves_marks Ds W HMK.out.nd HMK.out.at' (fun w' hs hk => ⟨_, results_none rfl _ _ _, ⟨_, rfl⟩, .inl ?_⟩)
      have hL : L = pre := by have := HCUT.out; simpa [flats] using this
      rw [hL]
      exact hJ _ _ _ HJ.out (hk.mono (fun k hk1 hk2 hk3 => by have := HMK.out.ge k hk3; omega))
    · obtain ⟨n, hn⟩ : ∃ n, n = rest.length := ⟨_, rfl⟩
      simp only [List.length_cons, ← hn] at hbox hown hcb ⊢
      have hyL : y ∈ L := by rw [HCUT.out, flats_cons]; simp [El.flat]
      have hy1 := HAT y hyL
      have hy2 := HLV y hyL
      have hnb : n ≤ 200001 := by
        have h1 := flats_length rest
        have h2 : (flats rest).length ≤ L.length := by rw [HCUT.out, flats_cons]; simp; omega
        omega
      have hbase : w.heap.size ≤ W.heap.size := by omega
      have HN := Lib.hid hn
      clear hn
      gi_wp2_with fail
      refine ⟨trivial, rfl, ?_⟩
      refine (callsIn_wide.2 (take74_any (w.heap.size + 1) w.heap.size g n cap (encP rest) ⟨y.b, y.o, none⟩ y.lvl W hbox hown (by omega))).mono ?_
      rintro e W1 ⟨rfl, hbox1, hown1, hk1⟩
      have hs1 := hk1.size
      have hkp1 : Keep G w W1 := hkp.trans (hk1.mono (fun k _ hk => by have := hG k hk; omega))
      have hj1 : J pre W1 := hJ _ _ _ HJ.out (hk1.mono (fun k _ hk => by omega))
      have hm1 : Marks w.heap.size Ds W1 := HMK.out.keep hk1 (fun D hD => by
        rintro rfl
        have h1 := HMK.out.at' _ hD
        rw [show W.heap[w.heap.size + 1]? = _ from hbox] at h1
        cases h1)
      clear hbox hown hcb
      obtain ⟨W2, hW2⟩ : ∃ W2, W2 = W1.alloc (.cells #[.pointer (some ⟨y.b, y.o, none⟩), .int .i64 y.lvl] 74) := ⟨_, rfl⟩
      have kW2 : Keep (fun _ => True) W1 W2 := by rw [hW2]; exact (Keep.refl _ _).alloc _
      have hs2 : W2.heap.size = W1.heap.size + 1 := by rw [hW2]; simp
      have pb2 : W2.heap[W1.heap.size]? = some (.cells #[.pointer (some ⟨y.b, y.o, none⟩), .int .i64 y.lvl] 74 (0, 0)) := by rw [hW2]; exact heap_alloc_new _ _
      have bx2 : Boxed W2 (w.heap.size + 1) 76 (.slice (some ⟨g, 0, none⟩) n cap) := kW2.heap trivial hbox1
      have ow2 : W2.ownsRow w.heap.size 74 2 (.slice (some ⟨g, 0, none⟩) n cap) n (encP rest) := by rw [hW2]; exact hown1.alloc _
      have kp2 : Keep G w W2 := hkp1.trans (kW2.mono (fun _ _ _ => trivial))
      have j2 : J pre W2 := hJ _ _ _ hj1 (kW2.mono (fun _ _ _ => trivial))
      have m2 : Marks w.heap.size Ds W2 := hm1.keep kW2 (fun _ _ => trivial)
      have hgp : g < W1.heap.size := (hown1.lt g rfl).2
      have hHW2 := Lib.hid hW2
      have hcut' : L = pre ++ y :: (flats y.items ++ flats rest) := by rw [HCUT.out, flats_cons, El.flat_eq]; rfl
      obtain ⟨fn, tmps, assign, body, hy, hR⟩ := hY pre y (flats y.items ++ flats rest) W2 hcut' j2
      have HCUT' := Lib.hid hcut'
      clear hcut' HCUT HJ HMK hj1 hm1 hbox1 hown1 hkp1 hkp
      simp only [encX] at hy
      rw [hW2] at hy hR
      clear hW2
      gi_wp2_with fail
      refine ⟨rfl, hR.mono ?_⟩
      rw [← hHW2.out]
      rintro e W3 (⟨rfl, j3, hk3⟩ | ⟨rfl, jx3, hk3⟩)
      rotate_left
      · gi_wp2
        refine leaves_marks Ds W3 m2.nd (m2.keep hk3 (fun D hD => .inr (m2.ge D hD))).at' (fun w' hs hk => ⟨_, results_none rfl _ _ _, ⟨_, rfl⟩, .inr ⟨pre, y, _, HCUT'.out, ?_⟩⟩)
        exact hJx _ _ _ jx3 (hk.mono (fun k hk1 hk2 hk3 => by have := m2.ge k hk3; omega))
      have hs3 := hk3.size
      have bx3 : Boxed W3 (w.heap.size + 1) 76 (.slice (some ⟨g, 0, none⟩) n cap) := hk3.heap (.inr (by omega)) bx2
      have ow3 : W3.ownsRow w.heap.size 74 2 (.slice (some ⟨g, 0, none⟩) n cap) n (encP rest) := own_keep ow2 (hk3.mono (fun k _ hk => .inr hk))
      have pb3 : W3.heap[W1.heap.size]? = some (.cells #[.pointer (some ⟨y.b, y.o, none⟩), .int .i64 y.lvl] 74 (0, 0)) := hk3.heap (.inr (by omega)) pb2
      have kp3 : Keep G w W3 := kp2.trans (hk3.mono (fun k _ hk => .inl hk))
      have m3 : Marks w.heap.size Ds W3 := m2.keep hk3 (fun D hD => .inr (m2.ge D hD))
      have hy3 := hy1.keep kp3
      have pc0 : W3.cell? ⟨W1.heap.size, 0, none⟩ = some (.pointer (some ⟨y.b, y.o, none⟩)) := by simp [World.cell?, pb3]
      have pc1 : W3.cell? ⟨W1.heap.size, 1, none⟩ = some (.int .i64 y.lvl) := by simp [World.cell?, pb3]
      have yl := hy3.node.l
      clear bx2 ow2 pb2 kp2 m2 hR hy j2
      gi_wp2_with fail
      refine ⟨trivial, rfl, ?_⟩
      refine (callsIn_wide.2 (turned_any _ _ _ _)).mono ?_
      rintro e W4' ⟨rfl, hW4⟩
      obtain ⟨W4, hW4'⟩ : ∃ W4, W4 = W4' := ⟨_, rfl⟩
      rw [← hW4'] at hW4 ⊢
      have kW4 : Keep (fun _ => True) W3 W4 := by rw [← hW4]; exact (Keep.refl _ _).alloc _
      have hs4 : W4.heap.size = W3.heap.size + 1 := by rw [← hW4]; simp
      have tb4 : Boxed W4 W3.heap.size 25 (.slice y.d.lA y.k.len y.d.lcap) := by rw [← hW4]; exact Boxed.new _ _ _
      have bx4 : Boxed W4 (w.heap.size + 1) 76 (.slice (some ⟨g, 0, none⟩) n cap) := kW4.heap trivial bx3
      have ow4 : W4.ownsRow w.heap.size 74 2 (.slice (some ⟨g, 0, none⟩) n cap) n (encP rest) := own_keep ow3 (kW4.mono (fun _ _ _ => trivial))
      have pb4 : W4.heap[W1.heap.size]? = some (.cells #[.pointer (some ⟨y.b, y.o, none⟩), .int .i64 y.lvl] 74 (0, 0)) := kW4.heap trivial pb3
      have kp4 : Keep G w W4 := kp3.trans (kW4.mono (fun _ _ _ => trivial))
      have m4 : Marks w.heap.size Ds W4 := m3.keep kW4 (fun _ _ => trivial)
      have j4 : J (pre ++ [y]) W4 := hJ _ _ _ j3 (kW4.mono (fun _ _ _ => trivial))
      clear hW4 hW4' bx3 ow3 pb3 kp3 m3 j3 pc0 pc1 yl kW4
      gi_wp2_with fail
      have hy4 := hy1.keep kp4
      have HOK := Lib.hid hy4.ok.kids
      have hm0 := hy4.ok.kidc
      have hDs : ∀ D ∈ Ds, D < W4.heap.size := m4.lt
      have hnp : w.heap.size + 1 < W1.heap.size := by omega
      refine wp_rf (gf := 59) (lb := #[.pointer (some ⟨W3.heap.size, 0, none⟩)]) rfl (enters_of Tryd.func59 (by kernel_rfl) rfl) (encs := fun i : Nat => #[.int .i64 i]) (L := down y.k.len) (Kp := fun _ _ => True) (Rel := fun V V' => V' = V)
        (fun r => turned1_gives _ _ _ _ _ ((Boxed.alloc (Boxed.alloc tb4 _) _).cell) hm0) (fun _ => rfl) (fun V V' _ h => by subst h; exact Book.refl _ _) (fun _ _ _ _ _ => trivial) (fun _ _ _ => trivial)
        (fun pre' V => ∃ j g' cap' n', j + pre'.length = y.k.len ∧ RInv w G (J (pre ++ [y])) Ds y rest W1.heap.size j g' cap' n' V) (fun _ _ _ => False)
        (fun pre' V V' h e => by subst e; exact h) (fun _ _ _ _ h _ => h)
        (fun pre' V o r ⟨j, g', cap', n', h1, h2⟩ hl => ⟨j, g', cap', n', h1, h2.stay (fun hj => hJ _ _ _ hj ((Keep.refl _ _).putObj _ (.inl (by omega)))) ((Keep.refl (fun k => k ≠ W4.heap.size + 1) V).putObj _ (.inl (by simp))) (fun k hk => by have := hG k hk; omega) (by omega) (by omega)
          (by
            rintro rfl
            rcases h2.own.2 with ⟨hv, _⟩ | ⟨g2, _, _, hv, _, hh, _⟩
            · cases hv
            · cases hv
              rw [hl] at hh
              cases hh) (fun D hD => by have := hDs D hD; omega)⟩)
        (fun _ _ _ _ _ h _ => h)
        (fun r => ⟨y.k.len, g, cap, n, by simp, (⟨j4, kp4, ⟨hnp, by omega⟩, pb4, by omega, by rw [List.drop_eq_nil_of_le (by rw [El.items, items_length]; exact Nat.le_refl _), List.nil_append]; exact HN.out, bx4, by rw [List.drop_eq_nil_of_le (by rw [El.items, items_length]; exact Nat.le_refl _), List.nil_append]; exact ow4, m4⟩ : RInv w G (J (pre ++ [y])) Ds y rest W1.heap.size y.k.len g cap n W4).stay (G' := fun _ => True)
          (fun hj => hJ _ _ _ hj (((Keep.refl _ _).alloc _).alloc _)) (((Keep.refl _ _).alloc _).alloc _) (fun _ _ => trivial) trivial trivial trivial (fun _ _ => trivial)⟩)
        (fun i => { tmps := #[.func (.yield l) #[] #[], .pointer (some ⟨bx, 0, none⟩), u2, .pointer (some ⟨w.heap.size + 1, 0, none⟩), .pointer (some ⟨W1.heap.size, 0, none⟩), .int .i64 (i : Nat), u6, u7, .slice (some ⟨g, 0, none⟩) (n + 1) cap, .int .i64 ((n : Nat) + 1), .bool true, .agg #[.pointer (some ⟨y.b, y.o, none⟩), .int .i64 y.lvl], .func (.yield l) #[] #[], .pointer (some ⟨W1.heap.size, 0, none⟩), .pointer (some ⟨y.b, y.o, none⟩), .pointer (some ⟨W1.heap.size, 1, none⟩), .int .i64 y.lvl, .bool true, .bool false, .pointer (some ⟨W1.heap.size, 0, none⟩), .pointer (some ⟨y.b, y.o, none⟩), .pointer (some ⟨y.b, y.o, none⟩), .pointer (some ⟨y.b, y.o + 5, none⟩), .slice y.d.lA y.k.len y.d.lcap, .func (.func 59) #[] #[.pointer (some ⟨W3.heap.size, 0, none⟩)], .int .i64 (i : Nat), u26, u27, u28, u29, u30, u31, u32, u33, u34, u35, u36, u37, u38, u39, u40, u41], defers := [] }) ?assign ?body ?done (fun _ _ _ _ _ _ h _ => h.elim)
      case assign =>
        intro l' x V K hK
        gi_wp2
        exact hK
      case done =>
        rintro V ⟨j, g', cap', n', h1, h2⟩ hD
        rw [down_length] at h1
        obtain rfl : j = 0 := by omega
        have hlt2 : (flats y.items ++ flats rest).length < (flats (y :: rest)).length := by rw [flats_cons, El.flat_eq]; simp
        gi_wp2
        refine ⟨(flats (y.items ++ rest)).length, by rw [flats_append]; exact hlt2, W4.heap.size :: Ds, pre ++ [y], y.items ++ rest, g', cap', rfl, ⟨?_, h2.jj, h2.keep, ?_, ?_, ?_, ?_⟩, _, _, _, _, _, _, _, _, _, _, _, _, _, _, _, _, _, _, _, _, _, _, _, _, _, _, _, _, _, _, _, _, _, _, _, _, _, _, _, rfl⟩
        · rw [HCUT'.out, flats_append]; simp
        · have := h2.sz; omega
        · have h3 := h2.len
          have h4 := h2.box
          rw [List.drop_zero] at h3
          rw [← h3]
          exact h4
        · have h3 := h2.len
          have h4 := h2.own
          rw [List.drop_zero] at h3 h4
          rw [← h3]
          exact h4
        · exact h2.marks.cons (by omega) hD (fun hD' => by have := hDs _ hD'; omega)
      case body =>
        rintro l' pre' i rest' V hLd ⟨j, g', cap', n', h1, h2⟩ hBD ⟨r0, hBL⟩
        obtain ⟨hi1, hi2⟩ := down_at hLd
        obtain rfl : j = i + 1 := by omega
        have him : i < y.k.len := by omega
        have hyV := hy1.keep h2.keep
        have hA := HOK.out (by omega)
        have hit := (AtF.nth hyV.kids 0 i him).node.k
        have hnd := hyV.node
        have c0 : V.cell? ⟨W1.heap.size, 0, none⟩ = some (.pointer (some ⟨y.b, y.o, none⟩)) := by simp [World.cell?, h2.pbx]
        have c1 : V.cell? ⟨W1.heap.size, 1, none⟩ = some (.int .i64 y.lvl) := by simp [World.cell?, h2.pbx]
        have cl : V.cell? ⟨y.b, y.o + 5, none⟩ = some (.slice (some ⟨y.d.kb, y.d.ko, none⟩) y.k.len y.d.lcap) := by rw [← hA]; exact hnd.l
        have HST := Lib.hid (step_any y.b y.o y.d.kb y.d.ko y.k.len y.d.lcap i y.d.k (y.k.nthD i).k V.drew hnd.k cl him hm0 hit)
        have hs := stp_cases y.d.k (i + 1 == y.k.len) (y.k.nthD i).k
        have hidr := items_drop y.d.k y.lvl y.k y.d.kb y.d.ko i him
        have HIDR : Hid (y.items.drop i = ⟨y.d.kb, y.d.ko + i * 6, y.lvl + stp y.d.k (i + 1 == y.k.len) (y.k.nthD i).k, y.k.nthD i, y.k.nthK i⟩ :: y.items.drop (i + 1)) := Lib.hid hidr
        clear hidr
        generalize hst : stp y.d.k (i + 1 == y.k.len) (y.k.nthD i).k = st at *
        have hlv0 : 0 ≤ y.lvl + st := by omega
        have hlv1 : y.lvl + st ≤ 1000000 := by omega
        have hw : IntKind.i64.wrap (y.lvl + st) = y.lvl + st := IntWalk.i64_in _ (by omega)
        have hn' : n' ≤ 1000000 := by
          have e1 := h2.len
          have e2 := flats_length y.items
          have e3 : (flats y.items).length ≤ L.length := by rw [HCUT'.out]; simp; omega
          have e4 := HN.out
          simp only [List.length_append, List.length_drop] at e1
          omega
        have hVs : w.heap.size ≤ V.heap.size := h2.sz.1 |> fun h => by have := h2.sz.2; omega
        have HPT := Lib.hid (put74_any (w.heap.size + 1) w.heap.size (some ⟨g', 0, none⟩) n' cap' _ ⟨y.d.kb, y.d.ko + i * 6, none⟩ (y.lvl + st) V.drew h2.box h2.own hn' hVs)
        have HST' := Lib.hid hst
        clear hst hA
        have hg1 := own_not h2.own hBD rfl
        have hg2 := own_not h2.own hBL rfl
        have hg0 : w.heap.size ≤ g' := (h2.own.lt g' rfl).1
        have hyb := hG _ hy1.g
        have H2 := Lib.hid h2
        clear h2
        refine wpIn_block ?_
        refine region_round (S := fun X => X.cell? ⟨W1.heap.size, 0, none⟩ = some (.pointer (some ⟨y.b, y.o, none⟩)) ∧ X.cell? ⟨W1.heap.size, 1, none⟩ = some (.int .i64 y.lvl) ∧ X.cell? ⟨y.b, y.o + 5, none⟩ = some (.slice (some ⟨y.d.kb, y.d.ko, none⟩) y.k.len y.d.lcap)) (by kernel_rfl) (by kernel_rfl) (fun ⟨_, _, h⟩ => h) ⟨c0, c1, cl⟩ (fun hHeld => ?_)
        refine wpAnyH_take (i := 0) (v := ?_) rfl (by kernel_rfl) (by kernel_rfl) (by kernel_rfl) (fun _ _ _ h => h) (Or.inl ⟨by rfl, ?_⟩) (by assumption) ?_
        rotate_left
        · intro w hSw
          (try dsimp only at hSw)
          go_simp
          all_goals with_reducible rfl
        try simp only [Act.put, List.setIfInBounds_toArray, List.set_cons_zero, List.set_cons_succ]
        refine wpAnyH_take (i := 1) (v := ?_) rfl (by kernel_rfl) (by kernel_rfl) (by kernel_rfl) (fun _ _ _ h => h) (Or.inl ⟨by rfl, ?_⟩) (by assumption) ?_
        rotate_left
        · intro w hSw
          (try dsimp only at hSw)
          go_simp
          all_goals with_reducible rfl
        try simp only [Act.put, List.setIfInBounds_toArray, List.set_cons_zero, List.set_cons_succ]
        refine wpAnyH_take (i := 2) (v := ?_) rfl (by kernel_rfl) (by kernel_rfl) (by kernel_rfl) (fun _ _ _ h => h) (Or.inl ⟨by rfl, ?_⟩) (by assumption) ?_
        rotate_left
        · intro w hSw
          (try dsimp only at hSw)
          go_simp
          all_goals with_reducible rfl
        try simp only [Act.put, List.setIfInBounds_toArray, List.set_cons_zero, List.set_cons_succ]
        refine wpAnyH_take (i := 3) (v := ?_) rfl (by kernel_rfl) (by kernel_rfl) (by kernel_rfl) (fun _ _ _ h => h) (Or.inl ⟨by rfl, ?_⟩) (by assumption) ?_
        rotate_left
        · intro w hSw
          (try dsimp only at hSw)
          go_simp
          all_goals with_reducible rfl
        try simp only [Act.put, List.setIfInBounds_toArray, List.set_cons_zero, List.set_cons_succ]
        refine wpAnyH_take (i := 4) (v := ?_) rfl (by kernel_rfl) (by kernel_rfl) (by kernel_rfl) (fun _ _ _ h => h) (Or.inl ⟨by rfl, ?_⟩) (by assumption) ?_
        rotate_left
        · intro w hSw
          (try dsimp only at hSw)
          go_simp
          all_goals with_reducible rfl
        try simp only [Act.put, List.setIfInBounds_toArray, List.set_cons_zero, List.set_cons_succ]
        refine wpAnyH_take (i := 5) (v := ?_) rfl (by kernel_rfl) (by kernel_rfl) (by kernel_rfl) (fun _ _ _ h => h) (Or.inl ⟨by rfl, ?_⟩) (by assumption) ?_
        rotate_left
        · intro w hSw
          (try dsimp only at hSw)
          go_simp
          all_goals with_reducible rfl
        try simp only [Act.put, List.setIfInBounds_toArray, List.set_cons_zero, List.set_cons_succ]
        refine wpAnyH_take (i := 6) (v := ?_) rfl (by kernel_rfl) (by kernel_rfl) (by kernel_rfl) (fun _ _ _ h => h) (Or.inl ⟨by rfl, ?_⟩) (by assumption) ?_
        rotate_left
        · intro w hSw
          (try dsimp only at hSw)
          go_simp
          all_goals with_reducible rfl
        try simp only [Act.put, List.setIfInBounds_toArray, List.set_cons_zero, List.set_cons_succ]
        refine wpAnyH_take (i := 7) (v := ?_) rfl (by kernel_rfl) (by kernel_rfl) (by kernel_rfl) (fun _ _ _ h => h) (Or.inl ⟨by rfl, ?_⟩) (by assumption) ?_
        rotate_left
        · intro w hSw
          (try dsimp only at hSw)
          go_simp
          all_goals with_reducible rfl
        try simp only [Act.put, List.setIfInBounds_toArray, List.set_cons_zero, List.set_cons_succ]
        refine wpAnyH_take (i := 8) (v := ?_) rfl (by kernel_rfl) (by kernel_rfl) (by kernel_rfl) (fun _ _ _ h => h) (Or.inl ⟨by rfl, ?_⟩) (by assumption) ?_
        rotate_left
        · intro w hSw
          (try dsimp only at hSw)
          go_simp
          all_goals with_reducible rfl
        try simp only [Act.put, List.setIfInBounds_toArray, List.set_cons_zero, List.set_cons_succ]
        refine wpAnyH_take (i := 9) (v := ?_) rfl (by kernel_rfl) (by kernel_rfl) (by kernel_rfl) (fun _ _ _ h => h) (Or.inl ⟨by rfl, ?_⟩) (by assumption) ?_
        rotate_left
        · intro w hSw
          (try dsimp only at hSw)
          go_simp
          all_goals with_reducible rfl
        try simp only [Act.put, List.setIfInBounds_toArray, List.set_cons_zero, List.set_cons_succ]
        refine wpAnyH_take (i := 10) (v := ?_) rfl (by kernel_rfl) (by kernel_rfl) (by kernel_rfl) (fun _ _ _ h => h) (Or.inl ⟨by rfl, ?_⟩) (by assumption) ?_
        rotate_left
        · intro w hSw
          (try dsimp only at hSw)
          go_simp
          all_goals with_reducible rfl
        try simp only [Act.put, List.setIfInBounds_toArray, List.set_cons_zero, List.set_cons_succ]
        refine wpAnyH_take (i := 11) (v := ?_) rfl (by kernel_rfl) (by kernel_rfl) (by kernel_rfl) (fun _ _ _ h => h) (Or.inl ⟨by rfl, ?_⟩) (by assumption) ?_
        rotate_left
        · intro w hSw
          (try dsimp only at hSw)
          go_simp
          all_goals with_reducible rfl
        try simp only [Act.put, List.setIfInBounds_toArray, List.set_cons_zero, List.set_cons_succ]
        refine wpAnyH_ready (rs := [12]) (by kernel_rfl) (by simp) ?_
        refine AllReadyH.cons rfl (fun K hK => ?_) AllReadyH.nil
        go_simp
        go_at_call 49
        with_reducible refine (HST.out).mono ?_
        rintro e w' ⟨rfl, rfl⟩
        go_wp2_with fail
        refine hK.out _ _ hHeld (fun hH2 => ?_)
        clear hK K hH2
        try simp only [Act.put, List.setIfInBounds_toArray, List.set_cons_zero, List.set_cons_succ]
        refine wpAnyH_take (i := 13) (v := ?_) rfl (by kernel_rfl) (by kernel_rfl) (by kernel_rfl) (fun _ _ _ h => h) (Or.inl ⟨by rfl, ?_⟩) (by assumption) ?_
        rotate_left
        · intro w hSw
          (try dsimp only at hSw)
          go_simp
          all_goals with_reducible rfl
        try simp only [Act.put, List.setIfInBounds_toArray, List.set_cons_zero, List.set_cons_succ]
        refine wpAnyH_take (i := 14) (v := ?_) rfl (by kernel_rfl) (by kernel_rfl) (by kernel_rfl) (fun _ _ _ h => h) (Or.inl ⟨by rfl, ?_⟩) (by assumption) ?_
        rotate_left
        · intro w hSw
          (try dsimp only at hSw)
          go_simp
          all_goals with_reducible rfl
        try simp only [Act.put, List.setIfInBounds_toArray, List.set_cons_zero, List.set_cons_succ]
        refine wpAnyH_ready (rs := [15]) (by kernel_rfl) (by simp) ?_
        refine AllReadyH.cons rfl (fun K hK => ?_) AllReadyH.nil
        go_simp
        go_at_call 48
        with_reducible refine (HPT.out).mono ?_
        rintro e V5 ⟨⟨v5, rfl⟩, A5, cap5, hp⟩
        go_wp2_with fail
        have hkp5 : Keep (fun k => k ≠ w.heap.size + 1 ∧ some k ≠ some g') V V5 := ((Keep.refl _ _).drew).trans hp.keep
        refine hK.out _ _ ⟨hkp5.cell (p := ⟨W1.heap.size, 0, none⟩) ⟨by show W1.heap.size ≠ _; omega, by have := H2.out.ne; simp; omega⟩ hHeld.1, hkp5.cell (p := ⟨W1.heap.size, 1, none⟩) ⟨by show W1.heap.size ≠ _; omega, by have := H2.out.ne; simp; omega⟩ hHeld.2.1, hkp5.cell (p := ⟨y.b, y.o + 5, none⟩) ⟨by show y.b ≠ _; omega, by simp; omega⟩ hHeld.2.2⟩ (fun hH2 => ?_)
        clear hK K hH2
        refine wpAnyH_done (by kernel_rfl) ?_ _
        obtain ⟨g5, rfl, hg5⟩ : ∃ g5, A5 = some ⟨g5, 0, none⟩ ∧ (g5 = g' ∨ V.heap.size ≤ g5) := by
          rcases hp.lies with e5 | ⟨g5, e5, h5⟩
          · exact ⟨g', e5, .inl rfl⟩
          · exact ⟨g5, e5, .inr h5⟩
        have hB1 := (Array.getElem?_eq_some_iff.1 hBL).1
        refine ⟨hkp5.book ⟨by omega, by simp; omega⟩ ⟨by omega, by simp; omega⟩ hB1, trivial, i, g5, cap5, n' + 1, by simp; omega, ?_⟩
        have h2 := H2.out
        refine ⟨hJ _ _ _ h2.jj (hkp5.mono (fun k _ hk => ⟨by omega, by simp; omega⟩)), h2.keep.trans (hkp5.mono (fun k _ hk => by have := hG k hk; exact ⟨by omega, by simp; omega⟩)), ⟨h2.sz.1, Nat.lt_of_lt_of_le h2.sz.2 hkp5.size⟩, hkp5.heap ⟨by omega, by have := h2.ne; simp; omega⟩ h2.pbx, by have := h2.ne; have := h2.sz; omega, ?_, hp.box, ?_, h2.marks.keep hkp5 (fun D hD => ⟨?_, ?_⟩)⟩
        · rw [HIDR.out, List.cons_append, List.length_cons, ← h2.len]
        · rw [HIDR.out, List.cons_append]
          exact hp.own
        · rintro rfl
          have e1 := h2.marks.at' _ hD
          rw [show V.heap[w.heap.size + 1]? = _ from h2.box] at e1
          cases e1
        · intro e1
          injection e1 with e1
          exact own_not h2.own (h2.marks.at' _ hD) rfl e1.symm
end Go.Proofs.YtkffojipgphneaaDoor
