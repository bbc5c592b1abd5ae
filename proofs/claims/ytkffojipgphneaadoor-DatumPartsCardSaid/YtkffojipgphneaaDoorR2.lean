/- datum.fresh. -/
import Derived.Test.YtkffojipgphneaaDoorR1c
import Derived.StillTailTactics
import Derived.Deep.RegionLaw
set_option linter.unusedVariables false
set_option linter.unusedSimpArgs false
namespace Go.Proofs.YtkffojipgphneaaDoor
open Go Go.RowKit Go.Shelf
attribute [local go_sem] Oper.semAt_some
/-- What waits: a place in new memory that leads to old memory yet. -/
structure Wait (w W : World) (p : El) : Prop where
  ge : w.heap.size ≤ p.b
  ne : p.b ≠ w.heap.size + 1
  ty : ∃ cur, W.heap[p.b]? = some (.cells cur 27 (0, 0))
  node : Node W p.b p.o p.d p.k.len
  val : Val (fun k => k < w.heap.size) w p.d p.k
  lvl : p.lvl = 0
  six : p.o % 6 = 0
/-- Between two rounds. -/
structure FInv (w : World) (d : D) (f : F) (Ds : List Nat) (U : List (Nat × Nat)) (pend : List El) (q cap : Nat) (W : World) : Prop where
  copy : CopyF w.heap.size U pend W (.cons d f .nil) w.heap.size 0
  wait : ∀ p ∈ pend, Wait w W p
  nodup : (U ++ pend.map adr).Nodup
  used : ∀ u ∈ U, w.heap.size ≤ u.1 ∧ u.1 ≠ w.heap.size + 1 ∧ u.1 < W.heap.size ∧ u.2 % 6 = 0 ∧ ∃ cur, W.heap[u.1]? = some (.cells cur 27 (0, 0))
  keep : Keep (fun k => k < w.heap.size) w W
  size : w.heap.size + 4 ≤ W.heap.size
  root : ∃ cur, W.heap[w.heap.size]? = some (.cells cur 27 (0, 0))
  res : W.heap[w.heap.size + 1]? = some (.cells #[.int .i64 0, .int .i32 0, .bool false, .slice none 0 0, .string ⟨#[]⟩, .slice none 0 0] 27 (0, 0))
  box : Boxed W (w.heap.size + 1 + 1 + 1) 93 (.slice (some ⟨q, 0, none⟩) pend.length cap)
  own : W.ownsRow (w.heap.size + 2) 50 1 (.slice (some ⟨q, 0, none⟩) pend.length cap) pend.length (encE pend)
  marks : Marks (w.heap.size + 2) Ds W
/-- While a part's items are put. -/
structure GInv (w W5 : World) (p : El) (rest : List El) (g4 q0 j q cap n : Nat) (V : World) : Prop where
  keep : Keep (fun k => ¬ (k = w.heap.size + 1 + 1 + 1 ∨ k = q0)) W5 V
  lies : q = q0 ∨ W5.heap.size ≤ q
  len : n = ((kidsE g4 p.k).drop j ++ rest).length
  box : Boxed V (w.heap.size + 1 + 1 + 1) 93 (.slice (some ⟨q, 0, none⟩) n cap)
  own : V.ownsRow (w.heap.size + 2) 50 1 (.slice (some ⟨q, 0, none⟩) n cap) n (encE ((kidsE g4 p.k).drop j ++ rest))
theorem GInv.stay {w W5 V V' : World} {G' : Nat → Prop} {p : El} {rest : List El} {g4 q0 j q cap n : Nat} (h : GInv w W5 p rest g4 q0 j q cap n V) (hk : Keep G' V V')
    (h1 : ∀ k, k < W5.heap.size → G' k) (h3 : G' (w.heap.size + 1 + 1 + 1)) (h4 : G' q) : GInv w W5 p rest g4 q0 j q cap n V' :=
  ⟨⟨hk.os.trans h.keep.os, hk.tape.trans h.keep.tape, hk.output.trans h.keep.output, Nat.le_trans h.keep.size hk.size, fun k hg hl => (hk.block k (h1 k hl) (Nat.lt_of_lt_of_le hl h.keep.size)).trans (h.keep.block k hg hl)⟩, h.lies, h.len, hk.heap h3 h.box, own_keep1 h.own (by intro g' e o ho; cases e; exact hk.heap h4 ho)⟩
set_option maxRecDepth 100000 in
set_option maxHeartbeats 4000000 in
theorem fresh_any (d : D) (f : F) (w : World) (h : Val (fun k => k < w.heap.size) w d f) (hc : f.cnt ≤ 190000) :
    Calls Tryd.prog 45 #[.agg #[.int .i64 d.k, .int .i32 d.c, .bool d.neg, .slice d.mA d.mag.length d.mcap, .string d.t, .slice d.lA f.len d.lcap]] w fun x w' => ∃ (d' : D) (f' : F), x = .returned (.agg #[.int .i64 d'.k, .int .i32 d'.c, .bool d'.neg, .slice d'.mA d'.mag.length d'.mcap, .string d'.t, .slice d'.lA f'.len d'.lcap]) ∧ f'.len = f.len ∧ Val (fun k => w.heap.size ≤ k) w' d' f' ∧ sameD d f d' f' = true ∧ Below w.heap.size w w' := by
  refine (callsIn_wide (n := 0)).1 ?_
  refine callsIn_of_wp_marks Tryd.func45 rfl trivial ?_ rfl
  simp only [Tryd.ntmps45, List.size_toArray, List.length_cons, List.length_nil, Nat.reduceAdd, Nat.reduceSub, Array.replicate_succ, Array.replicate_zero, List.push_toArray, List.append_toArray, List.nil_append, List.cons_append]
  obtain ⟨W0, hW0⟩ : ∃ W0, W0 = (((w.alloc (.cells #[.int .i64 d.k, .int .i32 d.c, .bool d.neg, .slice d.mA d.mag.length d.mcap, .string d.t, .slice d.lA f.len d.lcap] 27)).alloc (.cells #[.int .i64 0, .int .i32 0, .bool false, .slice none 0 0, .string ⟨#[]⟩, .slice none 0 0] 27)).alloc (.cells #[.pointer (some ⟨w.heap.size, 0, none⟩)] 50)).alloc (.cells #[.slice (some ⟨w.heap.size + 1 + 1, 0, none⟩) 1 1] 93) := ⟨_, rfl⟩
  have hb0 : Below w.heap.size w W0 := by rw [hW0]; exact ((((Below.refl _ _).alloc (Nat.le_refl _) _).alloc (by simp) _).alloc (by simp <;> omega) _).alloc (by simp <;> omega) _
  have hs0 : W0.heap.size = w.heap.size + 4 := by rw [hW0]; simp
  have hx0 : W0.heap[w.heap.size]? = some (six d f.len) := by
    rw [hW0]
    refine (Below.heap_alloc _ _ _ (by simp <;> omega)).trans ((Below.heap_alloc _ _ _ (by simp <;> omega)).trans ((Below.heap_alloc _ _ _ (by simp)).trans (heap_alloc_new _ _)))
  have hr0 : W0.heap[w.heap.size + 1]? = some (.cells #[.int .i64 0, .int .i32 0, .bool false, .slice none 0 0, .string ⟨#[]⟩, .slice none 0 0] 27 (0, 0)) := by
    rw [hW0]
    have := heap_alloc_new (w.alloc (.cells #[.int .i64 d.k, .int .i32 d.c, .bool d.neg, .slice d.mA d.mag.length d.mcap, .string d.t, .slice d.lA f.len d.lcap] 27)) (.cells #[.int .i64 0, .int .i32 0, .bool false, .slice none 0 0, .string ⟨#[]⟩, .slice none 0 0] 27)
    rw [World.size_alloc] at this
    refine (Below.heap_alloc _ _ _ (by simp <;> omega)).trans ((Below.heap_alloc _ _ _ (by simp)).trans this)
  have hl0 : Boxed W0 (w.heap.size + 1 + 1 + 1) 93 (.slice (some ⟨w.heap.size + 1 + 1, 0, none⟩) 1 1) := by
    rw [hW0]
    have := Boxed.new (((w.alloc (.cells #[.int .i64 d.k, .int .i32 d.c, .bool d.neg, .slice d.mA d.mag.length d.mcap, .string d.t, .slice d.lA f.len d.lcap] 27)).alloc (.cells #[.int .i64 0, .int .i32 0, .bool false, .slice none 0 0, .string ⟨#[]⟩, .slice none 0 0] 27)).alloc (.cells #[.pointer (some ⟨w.heap.size, 0, none⟩)] 50)) 93 (.slice (some ⟨w.heap.size + 1 + 1, 0, none⟩) 1 1)
    simpa using this
  have ho0 : W0.ownsRow (w.heap.size + 2) 50 1 (.slice (some ⟨w.heap.size + 1 + 1, 0, none⟩) 1 1) 1 (encE [⟨w.heap.size, 0, 0, d, f⟩]) := by
    rw [hW0]
    refine World.ownsRow.alloc ?_ _
    have := World.ownsRow_lit (base := w.heap.size + 2) (e := 50) (size := 1) ((w.alloc (.cells #[.int .i64 d.k, .int .i32 d.c, .bool d.neg, .slice d.mA d.mag.length d.mcap, .string d.t, .slice d.lA f.len d.lcap] 27)).alloc (.cells #[.int .i64 0, .int .i32 0, .bool false, .slice none 0 0, .string ⟨#[]⟩, .slice none 0 0] 27)) #[.pointer (some ⟨w.heap.size, 0, none⟩)] 1 (by simp) (by unfold maxLen; omega) rfl
    simpa [encE] using this
  have hin : FInv w d f [] [] [⟨w.heap.size, 0, 0, d, f⟩] (w.heap.size + 1 + 1) 1 W0 := by
    refine ⟨⟨.inl (by simp), trivial⟩, ?_, by simp, by simp, Keep.of_below hb0, by omega, ⟨_, hx0⟩, hr0, hl0, ho0, Marks.nil _ _⟩
    intro p hp
    simp only [List.mem_singleton] at hp
    subst hp
    exact ⟨Nat.le_refl _, by simp, ⟨_, hx0⟩, Node.of_six hx0, h, rfl, rfl⟩
  clear hx0 hr0 hl0 ho0 hs0 hb0 h
  have HW0 := Lib.hid hW0
  clear hW0
  gi_wp2
  rw [← show W0 = _ from HW0.out]
  refine wp_loopk (fun k a W => ∃ Ds U pend q cap, k = cntE pend ∧ cntE pend ≤ 200000 ∧ FInv w d f Ds U pend q cap W ∧ ∃ u4 u5 u6 u7 u8 u9 u10 u11 u12 u13 u14 u15 u16 u17 u18 u19 u20 u21 u22 u23 u24 u25 u26 u27 u28 u29 u30 u31 u32 u33 u34 u35 u36 u37 u38 u39 u40 u41 u42 u43 u44 u45 u46 u47 u48 u49 u50 : Value, a = { tmps := #[.agg #[.int .i64 d.k, .int .i32 d.c, .bool d.neg, .slice d.mA d.mag.length d.mcap, .string d.t, .slice d.lA f.len d.lcap], .pointer (some ⟨w.heap.size, 0, none⟩), .pointer (some ⟨w.heap.size + 1, 0, none⟩), .pointer (some ⟨w.heap.size + 1 + 1 + 1, 0, none⟩), u4, u5, u6, u7, u8, u9, u10, u11, u12, u13, u14, u15, u16, u17, u18, u19, u20, u21, u22, u23, u24, u25, u26, u27, u28, u29, u30, u31, u32, u33, u34, u35, u36, u37, u38, u39, u40, u41, u42, u43, u44, u45, u46, u47, u48, u49, u50], defers := Ds.map mk }) ?round (cntE [(⟨w.heap.size, 0, 0, d, f⟩ : El)]) _ _ ⟨[], [], _, _, _, rfl, by simp [cntE]; omega, hin, _, _, _, _, _, _, _, _, _, _, _, _, _, _, _, _, _, _, _, _, _, _, _, _, _, _, _, _, _, _, _, _, _, _, _, _, _, _, _, _, _, _, _, _, _, _, _, rfl⟩
  clear hin HW0
  rintro k a W ⟨Ds, U, pend, q, cap, rfl, hcn, hF, u4, u5, u6, u7, u8, u9, u10, u11, u12, u13, u14, u15, u16, u17, u18, u19, u20, u21, u22, u23, u24, u25, u26, u27, u28, u29, u30, u31, u32, u33, u34, u35, u36, u37, u38, u39, u40, u41, u42, u43, u44, u45, u46, u47, u48, u49, u50, rfl⟩
  have HF := Lib.hid hF
  have hbox := hF.box
  have hown := hF.own
  have hsz := hF.size
  clear hF
  have hcb := hbox.cell
  rcases pend with _ | ⟨p, rest⟩
  · simp only [List.length_nil] at hbox hown hcb ⊢
    have hF := HF.out
    have hG60 : ∀ g cur fz, w.heap.size ≤ g → W.heap[g]? = some (.cells cur 60 fz) → (w.heap.size ≤ g ∧ g ≠ w.heap.size + 1 ∧ g ∉ Ds) := by
      intro g cur fz h1 h2
      refine ⟨h1, ?_, ?_⟩
      · rintro rfl
        rw [hF.res] at h2
        cases h2
      · intro hD
        rw [hF.marks.at' _ hD] at h2
        cases h2
    obtain ⟨f1, e1, e2, e3⟩ := CopyF.done (G := fun k => w.heap.size ≤ k ∧ k ≠ w.heap.size + 1 ∧ k ∉ Ds) (fun u hu => ⟨(hF.used u hu).1, (hF.used u hu).2.1, fun hD => by
      obtain ⟨cur, hcur⟩ := (hF.used u hu).2.2.2.2
      rw [hF.marks.at' _ hD] at hcur
      cases hcur⟩) hG60 _ _ _ hF.copy
    rcases f1 with _ | ⟨d', f', r'⟩
    · simp [F.len] at e1
    obtain ⟨⟨_, hnd, hok, hmg, hkd⟩, _⟩ := e2
    have HS : Hid (f'.len = f.len ∧ sameD d f d' f' = true) := Lib.hid (by
      rcases r' with _ | ⟨d2, f2, r2⟩
      · have h1 : sameD d f d' f' = true := by simpa [sameF, sameD] using e3
        refine ⟨?_, h1⟩
        simp only [sameD, Bool.and_eq_true] at h1
        exact (alB_len h1.1).symm
      · simp [F.len] at e1)
    have HV : Hid (Val (fun k => w.heap.size ≤ k ∧ k ≠ w.heap.size + 1 ∧ k ∉ Ds) W d' f') := Lib.hid ⟨hok, hmg, hkd⟩
    have hres := hF.res
    have HK := Lib.hid (hF.keep)
    have HM := Lib.hid hF.marks
    clear hF hG60 e1 e3 hok hmg hkd HF
    have ⟨n1, n2, n3, n4, n5, n6⟩ := hnd
    have z1 : W.cell? ⟨w.heap.size + 1, 0, none⟩ = some (.int .i64 0) := by simp [World.cell?, hres]
    have z2 : W.cell? ⟨w.heap.size + 1, 1, none⟩ = some (.int .i32 0) := by simp [World.cell?, hres]
    have z3 : W.cell? ⟨w.heap.size + 1, 2, none⟩ = some (.bool false) := by simp [World.cell?, hres]
    have z4 : W.cell? ⟨w.heap.size + 1, 3, none⟩ = some (.slice none 0 0) := by simp [World.cell?, hres]
    have z5 : W.cell? ⟨w.heap.size + 1, 4, none⟩ = some (.string ⟨#[]⟩) := by simp [World.cell?, hres]
    have z6 : W.cell? ⟨w.heap.size + 1, 5, none⟩ = some (.slice none 0 0) := by simp [World.cell?, hres]
    have y1 : W.frozen? ⟨w.heap.size + 1, 0, none⟩ = false := by simp [World.frozen?, hres]
    have y2 : W.frozen? ⟨w.heap.size + 1, 1, none⟩ = false := by simp [World.frozen?, hres]
    have y3 : W.frozen? ⟨w.heap.size + 1, 2, none⟩ = false := by simp [World.frozen?, hres]
    have y4 : W.frozen? ⟨w.heap.size + 1, 3, none⟩ = false := by simp [World.frozen?, hres]
    have y5 : W.frozen? ⟨w.heap.size + 1, 4, none⟩ = false := by simp [World.frozen?, hres]
    have y6 : W.frozen? ⟨w.heap.size + 1, 5, none⟩ = false := by simp [World.frozen?, hres]
    simp only [Nat.zero_add] at n1 n2 n3 n4 n5 n6
    have HR := Lib.hid hres
    clear hres hnd
    gi_wp2_with fail
    have hsix := set_six HR.out (.int .i64 d'.k) (.int .i32 d'.c) (.bool d'.neg) (.slice d'.mA d'.mag.length d'.mcap) (.string d'.t) (.slice d'.lA f'.len d'.lcap)
    have hkp : Keep (fun k => k ≠ w.heap.size + 1) W ((((((W.setCell ⟨w.heap.size + 1, 0, none⟩ (.int .i64 d'.k)).setCell ⟨w.heap.size + 1, 1, none⟩ (.int .i32 d'.c)).setCell ⟨w.heap.size + 1, 2, none⟩ (.bool d'.neg)).setCell ⟨w.heap.size + 1, 3, none⟩ (.slice d'.mA d'.mag.length d'.mcap)).setCell ⟨w.heap.size + 1, 4, none⟩ (.string d'.t)).setCell ⟨w.heap.size + 1, 5, none⟩ (.slice d'.lA f'.len d'.lcap)) :=
      ((((((Keep.refl _ _).setCell (p := ⟨w.heap.size + 1, 0, none⟩) _ (.inl (by simp))).setCell (p := ⟨w.heap.size + 1, 1, none⟩) _ (.inl (by simp))).setCell (p := ⟨w.heap.size + 1, 2, none⟩) _ (.inl (by simp))).setCell (p := ⟨w.heap.size + 1, 3, none⟩) _ (.inl (by simp))).setCell (p := ⟨w.heap.size + 1, 4, none⟩) _ (.inl (by simp))).setCell (p := ⟨w.heap.size + 1, 5, none⟩) _ (.inl (by simp))
    clear n1 n2 n3 n4 n5 n6 z1 z2 z3 z4 z5 z6 y1 y2 y3 y4 y5 y6
    generalize ((((((W.setCell ⟨w.heap.size + 1, 0, none⟩ (.int .i64 d'.k)).setCell ⟨w.heap.size + 1, 1, none⟩ (.int .i32 d'.c)).setCell ⟨w.heap.size + 1, 2, none⟩ (.bool d'.neg)).setCell ⟨w.heap.size + 1, 3, none⟩ (.slice d'.mA d'.mag.length d'.mcap)).setCell ⟨w.heap.size + 1, 4, none⟩ (.string d'.t)).setCell ⟨w.heap.size + 1, 5, none⟩ (.slice d'.lA f'.len d'.lcap)) = W6 at *
    have hmk := HM.out.keep hkp (fun D hD => by have := HM.out.ge D hD; omega)
    refine leaves_marks Ds W6 hmk.nd hmk.at' (fun w' hs hk => ⟨_, results_cell_row rfl _ _ (w.heap.size + 1) 27 _ (0, 0) _ rfl (hk.heap (fun hD => by have := hmk.ge _ hD; omega) hsix) Tryd.underlying27 (by kernel_rfl) (by kernel_rfl), ?_⟩)
    refine ⟨d', f', rfl, HS.out.1, ?_, HS.out.2, ?_⟩
    · exact ((HV.out.keep (hkp.mono (fun k _ hk => hk.2.1))).keep (hk.mono (fun k _ hk => hk.2.2))).mono (fun k hk => hk.1)
    · exact ((HK.out.trans (hkp.mono (fun k _ hk => by omega))).trans (hk.mono (fun k _ hk1 hk2 => by have := hmk.ge k hk2; omega))).below (Nat.le_refl _) (fun k hk => hk)
  · obtain ⟨n, hn⟩ : ∃ n, n = rest.length := ⟨_, rfl⟩
    simp only [List.length_cons, ← hn] at hbox hown hcb ⊢
    have HN := Lib.hid hn
    have hnb : n ≤ 200000 := by
      have h1 := cntE_length rest
      rw [cntE_cons] at hcn
      omega
    clear hn
    have hbase : w.heap.size ≤ W.heap.size := by omega
    gi_wp2_with fail
    refine ⟨trivial, rfl, ?_⟩
    refine (callsIn_wide.2 (take50_any (w.heap.size + 1 + 1 + 1) (w.heap.size + 2) q n cap (encE rest) ⟨p.b, p.o, none⟩ W hbox hown (by omega))).mono ?_
    rintro z W1 ⟨rfl, hbox1, hown1, hk1⟩
    have hs1 := hk1.size
    have hwt := HF.out.wait p (by simp)
    have hne3 : p.b ≠ w.heap.size + 1 + 1 + 1 := by
      intro e
      obtain ⟨cur, hc⟩ := hwt.ty
      rw [e, show W.heap[w.heap.size + 1 + 1 + 1]? = _ from hbox] at hc
      cases hc
    have ps1 : PSt W1 p.b p.o p.d p.k.len := (⟨hwt.node, hwt.ty⟩ : PSt W p.b p.o p.d p.k.len).keep hk1 hne3
    have hgp : q < W1.heap.size := (hown1.lt q rfl).2
    have hq0 : w.heap.size + 2 ≤ q := (hown1.lt q rfl).1
    obtain ⟨W2, hW2⟩ : ∃ W2, W2 = W1.alloc (.cells #[.pointer (some ⟨p.b, p.o, none⟩)] 50) := ⟨_, rfl⟩
    have kW2 : Keep (fun _ => True) W1 W2 := by rw [hW2]; exact (Keep.refl _ _).alloc _
    have hs2 : W2.heap.size = W1.heap.size + 1 := by rw [hW2]; simp
    have pb2 : Boxed W2 W1.heap.size 50 (.pointer (some ⟨p.b, p.o, none⟩)) := by rw [hW2]; exact Boxed.new _ _ _
    have ps2 := ps1.keep kW2 trivial
    have hpl := ps1.lt
    have k02 : Keep (fun k => k ≠ w.heap.size + 1 + 1 + 1) W W2 := hk1.trans (kW2.mono (fun _ _ _ => trivial))
    have bx2 : Boxed W2 (w.heap.size + 1 + 1 + 1) 93 (.slice (some ⟨q, 0, none⟩) n cap) := kW2.heap trivial hbox1
    have ow2 : W2.ownsRow (w.heap.size + 2) 50 1 (.slice (some ⟨q, 0, none⟩) n cap) n (encE rest) := own_keep1 hown1 (by intro g' ee o ho; cases ee; exact kW2.heap trivial ho)
    clear hbox hown hcb hbox1 hown1 ps1
    have hts : p.d.t.size ≤ 140737488355328 := hwt.val.ok.text
    have HWT := Lib.hid hwt
    clear hwt
    -- part.T = strings.Clone(part.T)
    have pcell := pb2.cell
    have tc := ps2.node.t
    have HCL := Lib.hid (clone_any p.d.t W2.drew hts)
    gi_wp2_with fail
    rw [← hW2]
    have HW2 := Lib.hid hW2
    clear hW2
    have HP2 := Lib.hid ps2
    refine wpIn_mono (Q := fun ex a' W' => ex = .normal ∧ Chg W2 W' p.b (p.o + 4) (.string p.d.t) ∧ ∃ u5 u6 u7 u8 u9 u10 u11 u12 u13 u14 u15 u16 u17 u18 u19 u20 u21 u22 u23 u24 u25 u26 u27 u28 u29 u30 u31 u32 u33 u34 u35 u36 u37 u38 u39 u40 u41 u42 u43 u44 u45 u46 u47 u48 u49 u50 : Value, a' = { tmps := #[.agg #[.int .i64 d.k, .int .i32 d.c, .bool d.neg, .slice d.mA d.mag.length d.mcap, .string d.t, .slice d.lA f.len d.lcap], .pointer (some ⟨w.heap.size, 0, none⟩), .pointer (some ⟨w.heap.size + 1, 0, none⟩), .pointer (some ⟨w.heap.size + 1 + 1 + 1, 0, none⟩), .pointer (some ⟨W1.heap.size, 0, none⟩), u5, u6, u7, u8, u9, u10, u11, u12, u13, u14, u15, u16, u17, u18, u19, u20, u21, u22, u23, u24, u25, u26, u27, u28, u29, u30, u31, u32, u33, u34, u35, u36, u37, u38, u39, u40, u41, u42, u43, u44, u45, u46, u47, u48, u49, u50], defers := Ds.map mk }) (wpIn_wide.2 ?_) ?_
    · skip
      refine wp_region_held_drew (S := fun X => X.cell? ⟨W1.heap.size, 0, none⟩ = some (.pointer (some ⟨p.b, p.o, none⟩))) (by kernel_rfl) pcell (fun hHeld => ?_)
      refine wpAnyH_take (i := 0) (v := ?_) rfl (by kernel_rfl) (by kernel_rfl) (by kernel_rfl) (fun _ _ _ h => nomatch h.1) (Or.inl ⟨by rfl, ?_⟩) (by assumption) ?_
      rotate_left
      · intro w hSw
        (try dsimp only at hSw)
        go_simp
        all_goals with_reducible rfl
      try simp only [Act.put, List.setIfInBounds_toArray, List.set_cons_zero, List.set_cons_succ]
      refine wpAnyH_take (i := 1) (v := ?_) rfl (by kernel_rfl) (by kernel_rfl) (by kernel_rfl) (fun _ _ _ h => nomatch h.1) (Or.inl ⟨by rfl, ?_⟩) (by assumption) ?_
      rotate_left
      · intro w hSw
        (try dsimp only at hSw)
        go_simp
        all_goals with_reducible rfl
      try simp only [Act.put, List.setIfInBounds_toArray, List.set_cons_zero, List.set_cons_succ]
      refine wpAnyH_take (i := 2) (v := ?_) rfl (by kernel_rfl) (by kernel_rfl) (by kernel_rfl) (fun _ _ _ h => nomatch h.1) (Or.inl ⟨by rfl, ?_⟩) (by assumption) ?_
      rotate_left
      · intro w hSw
        (try dsimp only at hSw)
        go_simp
        all_goals with_reducible rfl
      try simp only [Act.put, List.setIfInBounds_toArray, List.set_cons_zero, List.set_cons_succ]
      refine wpAnyH_take (i := 3) (v := ?_) rfl (by kernel_rfl) (by kernel_rfl) (by kernel_rfl) (fun _ _ _ h => nomatch h.1) (Or.inl ⟨by rfl, ?_⟩) (by assumption) ?_
      rotate_left
      · intro w hSw
        (try dsimp only at hSw)
        go_simp
        all_goals with_reducible rfl
      try simp only [Act.put, List.setIfInBounds_toArray, List.set_cons_zero, List.set_cons_succ]
      refine wpAnyH_ready (rs := [4]) (by kernel_rfl) (by simp) ?_
      refine AllReadyH.cons rfl (fun K hK => ?_) AllReadyH.nil
      go_simp
      refine hK.out _ _ (hHeld) (fun hH2 => ?_)
      clear hK K hHeld
      have hHeld := hH2
      clear hH2
      try simp only [Act.put, List.setIfInBounds_toArray, List.set_cons_zero, List.set_cons_succ]
      refine wpAnyH_ready (rs := [5]) (by kernel_rfl) (by simp) ?_
      refine AllReadyH.cons rfl (fun K hK => ?_) AllReadyH.nil
      go_simp
      go_at_call 43
      with_reducible refine (HCL.out).mono ?_
      rintro z Wc ⟨rfl, hbc⟩
      have tc2 : Wc.cell? ⟨p.b, p.o + 4, none⟩ = some (.string p.d.t) := (hbc.cell (p := ⟨p.b, p.o + 4, none⟩) HP2.out.lt).trans HP2.out.node.t
      have fz2 : Wc.frozen? ⟨p.b, p.o + 4, none⟩ = false := (hbc.frozen (p := ⟨p.b, p.o + 4, none⟩) HP2.out.lt).trans (HP2.out.frozen _)
      have pcc : Wc.cell? ⟨W1.heap.size, 0, none⟩ = some (.pointer (some ⟨p.b, p.o, none⟩)) := (hbc.cell (p := ⟨W1.heap.size, 0, none⟩) pb2.lt).trans pcell
      go_wp2_with fail
      refine hK.out _ _ (pcc) (fun hH2 => ?_)
      clear hK K hHeld
      have hHeld := hH2
      clear hH2
      try simp only [Act.put, List.setIfInBounds_toArray, List.set_cons_zero, List.set_cons_succ]
      refine wpAnyH_ready (rs := [6]) (by kernel_rfl) (by simp) ?_
      refine AllReadyH.cons rfl (fun K hK => ?_) AllReadyH.nil
      go_simp
      refine hK.out _ _ (hHeld) (fun hH2 => ?_)
      clear hK K hHeld
      have hHeld := hH2
      clear hH2
      try simp only [Act.put, List.setIfInBounds_toArray, List.set_cons_zero, List.set_cons_succ]
      refine wpAnyH_ready (rs := [7]) (by kernel_rfl) (by simp) ?_
      refine AllReadyH.cons rfl (fun K hK => ?_) AllReadyH.nil
      go_simp
      refine hK.out _ _ (hHeld) (fun hH2 => ?_)
      clear hK K hHeld
      have hHeld := hH2
      clear hH2
      try simp only [Act.put, List.setIfInBounds_toArray, List.set_cons_zero, List.set_cons_succ]
      refine wpAnyH_ready (rs := [8]) (by kernel_rfl) (by simp) ?_
      refine AllReadyH.cons rfl (fun K hK => ?_) AllReadyH.nil
      go_simp
      refine hK.out _ _ ((World.cell?_setCell_far Wc ⟨p.b, p.o + 4, none⟩ ⟨W1.heap.size, 0, none⟩ _ (by show p.b ≠ W1.heap.size; omega)).trans pcc) (fun hH2 => ?_)
      clear hK K hHeld
      have hHeld := hH2
      clear hH2
      try simp only [Act.put, List.setIfInBounds_toArray, List.set_cons_zero, List.set_cons_succ]
      refine wpAnyH_done (by kernel_rfl) ?_ _
      exact ⟨rfl, Chg.of _ (((Keep.refl _ W2).drew).trans (Keep.any hbc)) tc, _, _, _, _, _, _, _, _, _, _, _, _, _, _, _, _, _, _, _, _, _, _, _, _, _, _, _, _, _, _, _, _, _, _, _, _, _, _, _, _, _, _, _, _, _, _, rfl⟩
    rintro ex a4 W3 ⟨rfl, hch3, u5, u6, u7, u8, u9, u10, u11, u12, u13, u14, u15, u16, u17, u18, u19, u20, u21, u22, u23, u24, u25, u26, u27, u28, u29, u30, u31, u32, u33, u34, u35, u36, u37, u38, u39, u40, u41, u42, u43, u44, u45, u46, u47, u48, u49, u50, rfl⟩
    have ps3 := ps2.t hch3
    have hpb : p.b ≠ W1.heap.size := by omega
    have hqp : q ≠ p.b := by
      rintro rfl
      obtain ⟨cur, h1⟩ := ps2.ty
      obtain ⟨cur2, h2⟩ := own_ty ow2
      rw [h1] at h2
      cases h2
    have kold2 : Keep (fun k => k < w.heap.size) w W2 := HF.out.keep.trans (k02.mono (fun k _ hk => by omega))
    have hge := HWT.out.ge
    have kold3 : Keep (fun k => k < w.heap.size) w W3 := kold2.trans (hch3.keep.mono (fun k _ hk => by omega))
    have pb3 : Boxed W3 W1.heap.size 50 _ := hch3.keep.heap (Ne.symm hpb) pb2
    have pcell3 := pb3.cell
    have hmc := HWT.out.val.ok.magc
    have HMG : Hid (∀ j u, (mags p.d.mag)[j]? = some u → ∃ ad, p.d.mA = some ad ∧ W3.drew.cell? (ad.add j) = some u) := Lib.hid (fun j u hj => by
      simp only [mags, List.getElem?_map] at hj
      obtain ⟨x, hx, rfl⟩ := Option.map_eq_some_iff.1 hj
      obtain ⟨hlt, rfl⟩ := List.getElem?_eq_some_iff.1 hx
      obtain ⟨ad, e1, _, e2⟩ := (HWT.out.val.mag.keep kold3) j hlt
      exact ⟨ad, e1, e2⟩)
    have mcell := ps3.node.mag
    clear tc pcell HCL
    gi_wp2_with fail
    refine wpIn_mono (Q := fun ex a' W' => ex = .normal ∧ ∃ A3 c3, Chg W3 W' p.b (p.o + 3) (.slice A3 p.d.mag.length c3) ∧ W'.ownsRow W3.heap.size 60 1 (.slice A3 p.d.mag.length c3) p.d.mag.length (mags p.d.mag) ∧ ∃ u5 u6 u7 u8 u9 u10 u11 u12 u13 u14 u15 u16 u17 u18 u19 u20 u21 u22 u23 u24 u25 u26 u27 u28 u29 u30 u31 u32 u33 u34 u35 u36 u37 u38 u39 u40 u41 u42 u43 u44 u45 u46 u47 u48 u49 u50 : Value, a' = { tmps := #[.agg #[.int .i64 d.k, .int .i32 d.c, .bool d.neg, .slice d.mA d.mag.length d.mcap, .string d.t, .slice d.lA f.len d.lcap], .pointer (some ⟨w.heap.size, 0, none⟩), .pointer (some ⟨w.heap.size + 1, 0, none⟩), .pointer (some ⟨w.heap.size + 1 + 1 + 1, 0, none⟩), .pointer (some ⟨W1.heap.size, 0, none⟩), u5, u6, u7, u8, u9, u10, u11, u12, u13, u14, u15, u16, u17, u18, u19, u20, u21, u22, u23, u24, u25, u26, u27, u28, u29, u30, u31, u32, u33, u34, u35, u36, u37, u38, u39, u40, u41, u42, u43, u44, u45, u46, u47, u48, u49, u50], defers := Ds.map mk }) (wpIn_wide.2 ?_) ?_
    · skip
      refine wp_region_held_drew (S := fun X => X.cell? ⟨W1.heap.size, 0, none⟩ = some (.pointer (some ⟨p.b, p.o, none⟩))) (by kernel_rfl) pcell3 (fun hHeld => ?_)
      refine wpAnyH_take (i := 0) (v := ?_) rfl (by kernel_rfl) (by kernel_rfl) (by kernel_rfl) (fun _ _ _ h => nomatch h.1) (Or.inl ⟨by rfl, ?_⟩) (by assumption) ?_
      rotate_left
      · intro w hSw
        (try dsimp only at hSw)
        go_simp
        all_goals with_reducible rfl
      try simp only [Act.put, List.setIfInBounds_toArray, List.set_cons_zero, List.set_cons_succ]
      refine wpAnyH_take (i := 1) (v := ?_) rfl (by kernel_rfl) (by kernel_rfl) (by kernel_rfl) (fun _ _ _ h => nomatch h.1) (Or.inl ⟨by rfl, ?_⟩) (by assumption) ?_
      rotate_left
      · intro w hSw
        (try dsimp only at hSw)
        go_simp
        all_goals with_reducible rfl
      try simp only [Act.put, List.setIfInBounds_toArray, List.set_cons_zero, List.set_cons_succ]
      refine wpAnyH_take (i := 2) (v := ?_) rfl (by kernel_rfl) (by kernel_rfl) (by kernel_rfl) (fun _ _ _ h => nomatch h.1) (Or.inl ⟨by rfl, ?_⟩) (by assumption) ?_
      rotate_left
      · intro w hSw
        (try dsimp only at hSw)
        go_simp
        all_goals with_reducible rfl
      try simp only [Act.put, List.setIfInBounds_toArray, List.set_cons_zero, List.set_cons_succ]
      refine wpAnyH_take (i := 3) (v := ?_) rfl (by kernel_rfl) (by kernel_rfl) (by kernel_rfl) (fun _ _ _ h => nomatch h.1) (Or.inl ⟨by rfl, ?_⟩) (by assumption) ?_
      rotate_left
      · intro w hSw
        (try dsimp only at hSw)
        go_simp
        all_goals with_reducible rfl
      try simp only [Act.put, List.setIfInBounds_toArray, List.set_cons_zero, List.set_cons_succ]
      refine wpAnyH_take (i := 4) (v := ?_) rfl (by kernel_rfl) (by kernel_rfl) (by kernel_rfl) (fun _ _ _ h => nomatch h.1) (Or.inl ⟨by rfl, ?_⟩) (by assumption) ?_
      rotate_left
      · intro w hSw
        (try dsimp only at hSw)
        go_simp
        all_goals with_reducible rfl
      try simp only [Act.put, List.setIfInBounds_toArray, List.set_cons_zero, List.set_cons_succ]
      refine wpAnyH_ready (rs := [5]) (by kernel_rfl) (by simp) ?_
      refine AllReadyH.cons rfl (fun K hK => ?_) AllReadyH.nil
      go_simp
      refine hK.out _ _ (hHeld) (fun hH2 => ?_)
      clear hK K hHeld
      have hHeld := hH2
      clear hH2
      try simp only [Act.put, List.setIfInBounds_toArray, List.set_cons_zero, List.set_cons_succ]
      refine wpAnyH_ready (rs := [6]) (by kernel_rfl) (by simp) ?_
      refine AllReadyH.cons rfl (fun K hK => ?_) AllReadyH.nil
      refine step_copy 22 60 _ 1 4 Tryd.underlying22 info60 (by decide) (by decide) _ rfl _ _ rfl rfl (by rfl) p.d.mA p.d.mag.length p.d.mcap (mags p.d.mag) (by rfl) (by simp [mags]) HMG.out (by simp [mags, Value.oneCell']) (by omega) (by omega) ?_
      intro A3 c3 Wc ho hg
      have kc : Keep (fun _ => True) W3 Wc := ((Keep.refl _ W3).drew).grown hg (by simp)
      have mc2 := kc.cell (p := ⟨p.b, p.o + 3, none⟩) trivial ps3.node.mag
      have fz2 : Wc.frozen? ⟨p.b, p.o + 3, none⟩ = false := (ps3.keep kc trivial).frozen _
      have pcc : Wc.cell? ⟨W1.heap.size, 0, none⟩ = some (.pointer (some ⟨p.b, p.o, none⟩)) := kc.cell (p := ⟨W1.heap.size, 0, none⟩) trivial pcell3
      go_wp2_with fail
      refine hK.out _ _ (pcc) (fun hH2 => ?_)
      clear hK K hHeld
      have hHeld := hH2
      clear hH2
      try simp only [Act.put, List.setIfInBounds_toArray, List.set_cons_zero, List.set_cons_succ]
      refine wpAnyH_ready (rs := [7]) (by kernel_rfl) (by simp) ?_
      refine AllReadyH.cons rfl (fun K hK => ?_) AllReadyH.nil
      go_simp
      refine hK.out _ _ (hHeld) (fun hH2 => ?_)
      clear hK K hHeld
      have hHeld := hH2
      clear hH2
      try simp only [Act.put, List.setIfInBounds_toArray, List.set_cons_zero, List.set_cons_succ]
      refine wpAnyH_ready (rs := [8]) (by kernel_rfl) (by simp) ?_
      refine AllReadyH.cons rfl (fun K hK => ?_) AllReadyH.nil
      go_simp
      refine hK.out _ _ (hHeld) (fun hH2 => ?_)
      clear hK K hHeld
      have hHeld := hH2
      clear hH2
      try simp only [Act.put, List.setIfInBounds_toArray, List.set_cons_zero, List.set_cons_succ]
      refine wpAnyH_ready (rs := [9]) (by kernel_rfl) (by simp) ?_
      refine AllReadyH.cons rfl (fun K hK => ?_) AllReadyH.nil
      go_simp
      refine hK.out _ _ (hHeld) (fun hH2 => ?_)
      clear hK K hHeld
      have hHeld := hH2
      clear hH2
      try simp only [Act.put, List.setIfInBounds_toArray, List.set_cons_zero, List.set_cons_succ]
      refine wpAnyH_ready (rs := [10]) (by kernel_rfl) (by simp) ?_
      refine AllReadyH.cons rfl (fun K hK => ?_) AllReadyH.nil
      go_simp
      refine hK.out _ _ ((World.cell?_setCell_far Wc ⟨p.b, p.o + 3, none⟩ ⟨W1.heap.size, 0, none⟩ _ (by show p.b ≠ W1.heap.size; omega)).trans pcc) (fun hH2 => ?_)
      clear hK K hHeld
      have hHeld := hH2
      clear hH2
      try simp only [Act.put, List.setIfInBounds_toArray, List.set_cons_zero, List.set_cons_succ]
      refine wpAnyH_done (by kernel_rfl) ?_ _
      exact ⟨rfl, A3, c3, Chg.of _ kc ps3.node.mag, ownsRow_setCell_other ho (fun e => by
        have h1 := (ho.lt p.b e).1
        have h2 := ps3.lt
        have h3 : W3.drew.heap.size = W3.heap.size := rfl
        omega) _, _, _, _, _, _, _, _, _, _, _, _, _, _, _, _, _, _, _, _, _, _, _, _, _, _, _, _, _, _, _, _, _, _, _, _, _, _, _, _, _, _, _, _, _, _, _, rfl⟩
    rintro ex a5 W4 ⟨rfl, A3, c3, hch4, hmo, u5, u6, u7, u8, u9, u10, u11, u12, u13, u14, u15, u16, u17, u18, u19, u20, u21, u22, u23, u24, u25, u26, u27, u28, u29, u30, u31, u32, u33, u34, u35, u36, u37, u38, u39, u40, u41, u42, u43, u44, u45, u46, u47, u48, u49, u50, rfl⟩
    have ps4 := ps3.m hch4
    have kold4 : Keep (fun k => k < w.heap.size) w W4 := kold3.trans (hch4.keep.mono (fun k _ hk => by omega))
    have pb4 : Boxed W4 W1.heap.size 50 _ := hch4.keep.heap (Ne.symm hpb) pb3
    have pcell4 := pb4.cell
    have HKD : Hid (∀ j u, p.k.cells[j]? = some u → ∃ ad, p.d.lA = some ad ∧ W4.drew.cell? (ad.add j) = some u) := Lib.hid (fun j u hj => by
      have hlt := (List.getElem?_eq_some_iff.1 hj).1
      rw [F.cells_length] at hlt
      refine ⟨_, HWT.out.val.ok.kids (by omega), ?_⟩
      rw [add_none]
      exact AtF.cellAt p.k _ _ (AtF.keep kold4 _ _ _ HWT.out.val.kids) j u hj)
    have hkb : p.k.len ≤ 1000000000 := by
      have := F.len_le_cnt p.k
      rw [cntE_cons] at hcn
      omega
    have lcell := ps4.node.l
    clear mcell pcell3 HMG
    gi_wp2_with fail
    refine wpIn_mono (Q := fun ex a' W' => ex = .normal ∧ ∃ A4 c4, Chg W4 W' p.b (p.o + 5) (.slice A4 p.k.len c4) ∧ W'.ownsRow W4.heap.size 27 6 (.slice A4 p.k.len c4) p.k.len p.k.cells ∧ ∃ u5 u6 u7 u8 u9 u10 u11 u12 u13 u14 u15 u16 u17 u18 u19 u20 u21 u22 u23 u24 u25 u26 u27 u28 u29 u30 u31 u32 u33 u34 u35 u36 u37 u38 u39 u40 u41 u42 u43 u44 u45 u46 u47 u48 u49 u50 : Value, a' = { tmps := #[.agg #[.int .i64 d.k, .int .i32 d.c, .bool d.neg, .slice d.mA d.mag.length d.mcap, .string d.t, .slice d.lA f.len d.lcap], .pointer (some ⟨w.heap.size, 0, none⟩), .pointer (some ⟨w.heap.size + 1, 0, none⟩), .pointer (some ⟨w.heap.size + 1 + 1 + 1, 0, none⟩), .pointer (some ⟨W1.heap.size, 0, none⟩), u5, u6, u7, u8, u9, u10, u11, u12, u13, u14, u15, u16, u17, u18, u19, u20, u21, u22, u23, u24, u25, u26, u27, u28, u29, u30, u31, u32, u33, u34, u35, u36, u37, u38, u39, u40, u41, u42, u43, u44, u45, u46, u47, u48, u49, u50], defers := Ds.map mk }) (wpIn_wide.2 ?_) ?_
    · skip
      refine wp_region_held_drew (S := fun X => X.cell? ⟨W1.heap.size, 0, none⟩ = some (.pointer (some ⟨p.b, p.o, none⟩))) (by kernel_rfl) pcell4 (fun hHeld => ?_)
      refine wpAnyH_take (i := 0) (v := ?_) rfl (by kernel_rfl) (by kernel_rfl) (by kernel_rfl) (fun _ _ _ h => nomatch h.1) (Or.inl ⟨by rfl, ?_⟩) (by assumption) ?_
      rotate_left
      · intro w hSw
        (try dsimp only at hSw)
        go_simp
        all_goals with_reducible rfl
      try simp only [Act.put, List.setIfInBounds_toArray, List.set_cons_zero, List.set_cons_succ]
      refine wpAnyH_take (i := 1) (v := ?_) rfl (by kernel_rfl) (by kernel_rfl) (by kernel_rfl) (fun _ _ _ h => nomatch h.1) (Or.inl ⟨by rfl, ?_⟩) (by assumption) ?_
      rotate_left
      · intro w hSw
        (try dsimp only at hSw)
        go_simp
        all_goals with_reducible rfl
      try simp only [Act.put, List.setIfInBounds_toArray, List.set_cons_zero, List.set_cons_succ]
      refine wpAnyH_take (i := 2) (v := ?_) rfl (by kernel_rfl) (by kernel_rfl) (by kernel_rfl) (fun _ _ _ h => nomatch h.1) (Or.inl ⟨by rfl, ?_⟩) (by assumption) ?_
      rotate_left
      · intro w hSw
        (try dsimp only at hSw)
        go_simp
        all_goals with_reducible rfl
      try simp only [Act.put, List.setIfInBounds_toArray, List.set_cons_zero, List.set_cons_succ]
      refine wpAnyH_take (i := 3) (v := ?_) rfl (by kernel_rfl) (by kernel_rfl) (by kernel_rfl) (fun _ _ _ h => nomatch h.1) (Or.inl ⟨by rfl, ?_⟩) (by assumption) ?_
      rotate_left
      · intro w hSw
        (try dsimp only at hSw)
        go_simp
        all_goals with_reducible rfl
      try simp only [Act.put, List.setIfInBounds_toArray, List.set_cons_zero, List.set_cons_succ]
      refine wpAnyH_ready (rs := [4]) (by kernel_rfl) (by simp) ?_
      refine AllReadyH.cons rfl (fun K hK => ?_) AllReadyH.nil
      go_simp
      refine hK.out _ _ (hHeld) (fun hH2 => ?_)
      clear hK K hHeld
      have hHeld := hH2
      clear hH2
      try simp only [Act.put, List.setIfInBounds_toArray, List.set_cons_zero, List.set_cons_succ]
      refine wpAnyH_ready (rs := [5]) (by kernel_rfl) (by simp) ?_
      refine AllReadyH.cons rfl (fun K hK => ?_) AllReadyH.nil
      refine step_copy 25 27 _ 6 88 Tryd.underlying25 info27 (by decide) (by decide) _ rfl _ _ rfl rfl (by rfl) p.d.lA p.k.len p.d.lcap p.k.cells (by rfl) p.k.cells_length HKD.out p.k.cells_one (by omega) (by omega) ?_
      intro A4 c4 Wc ho hg
      have kc : Keep (fun _ => True) W4 Wc := ((Keep.refl _ W4).drew).grown hg (by simp)
      have mc2 := kc.cell (p := ⟨p.b, p.o + 5, none⟩) trivial ps4.node.l
      have fz2 : Wc.frozen? ⟨p.b, p.o + 5, none⟩ = false := (ps4.keep kc trivial).frozen _
      have pcc : Wc.cell? ⟨W1.heap.size, 0, none⟩ = some (.pointer (some ⟨p.b, p.o, none⟩)) := kc.cell (p := ⟨W1.heap.size, 0, none⟩) trivial pcell4
      go_wp2_with fail
      refine hK.out _ _ (pcc) (fun hH2 => ?_)
      clear hK K hHeld
      have hHeld := hH2
      clear hH2
      try simp only [Act.put, List.setIfInBounds_toArray, List.set_cons_zero, List.set_cons_succ]
      refine wpAnyH_ready (rs := [6]) (by kernel_rfl) (by simp) ?_
      refine AllReadyH.cons rfl (fun K hK => ?_) AllReadyH.nil
      go_simp
      refine hK.out _ _ (hHeld) (fun hH2 => ?_)
      clear hK K hHeld
      have hHeld := hH2
      clear hH2
      try simp only [Act.put, List.setIfInBounds_toArray, List.set_cons_zero, List.set_cons_succ]
      refine wpAnyH_ready (rs := [7]) (by kernel_rfl) (by simp) ?_
      refine AllReadyH.cons rfl (fun K hK => ?_) AllReadyH.nil
      go_simp
      refine hK.out _ _ (hHeld) (fun hH2 => ?_)
      clear hK K hHeld
      have hHeld := hH2
      clear hH2
      try simp only [Act.put, List.setIfInBounds_toArray, List.set_cons_zero, List.set_cons_succ]
      refine wpAnyH_ready (rs := [8]) (by kernel_rfl) (by simp) ?_
      refine AllReadyH.cons rfl (fun K hK => ?_) AllReadyH.nil
      go_simp
      refine hK.out _ _ ((World.cell?_setCell_far Wc ⟨p.b, p.o + 5, none⟩ ⟨W1.heap.size, 0, none⟩ _ (by show p.b ≠ W1.heap.size; omega)).trans pcc) (fun hH2 => ?_)
      clear hK K hHeld
      have hHeld := hH2
      clear hH2
      try simp only [Act.put, List.setIfInBounds_toArray, List.set_cons_zero, List.set_cons_succ]
      refine wpAnyH_done (by kernel_rfl) ?_ _
      exact ⟨rfl, A4, c4, Chg.of _ kc ps4.node.l, ownsRow_setCell_other ho (fun e => by
        have h1 := (ho.lt p.b e).1
        have h2 := ps4.lt
        have h3 : W4.drew.heap.size = W4.heap.size := rfl
        omega) _, _, _, _, _, _, _, _, _, _, _, _, _, _, _, _, _, _, _, _, _, _, _, _, _, _, _, _, _, _, _, _, _, _, _, _, _, _, _, _, _, _, _, _, _, _, _, rfl⟩
    rintro ex a6 W5 ⟨rfl, A4, c4, hch5, hko, u5, u6, u7, u8, u9, u10, u11, u12, u13, u14, u15, u16, u17, u18, u19, u20, u21, u22, u23, u24, u25, u26, u27, u28, u29, u30, u31, u32, u33, u34, u35, u36, u37, u38, u39, u40, u41, u42, u43, u44, u45, u46, u47, u48, u49, u50, rfl⟩
    have ps5 := ps4.l hch5
    have hbad : ¬ (p.b = w.heap.size + 1 + 1 + 1 ∨ p.b = q) := by rintro (e | e); exact hne3 e; exact hqp e.symm
    have kW1b : Keep (fun k => ¬ (k = w.heap.size + 1 + 1 + 1 ∨ k = q)) W W2 := k02.mono (fun k _ hk e => hk (.inl e))
    have hmut : Mut (fun k => k = w.heap.size + 1 + 1 + 1 ∨ k = q) W W5 p.b p.o := (((Mut.of kW1b hbad).chg hch3 (by omega) (by omega)).chg hch4 (by omega) (by omega)).chg hch5 (by omega) (by omega)
    have k25 : Keep (fun k => k ≠ p.b) W2 W5 := (hch3.keep.trans hch4.keep).trans hch5.keep
    have hs25 := k25.size
    have pb5 : Boxed W5 W1.heap.size 50 _ := hch5.keep.heap (Ne.symm hpb) pb4
    have pcell5 := pb5.cell
    have bx5 : Boxed W5 (w.heap.size + 1 + 1 + 1) 93 (.slice (some ⟨q, 0, none⟩) n cap) := k25.heap (Ne.symm hne3) bx2
    have ow5 : W5.ownsRow (w.heap.size + 2) 50 1 (.slice (some ⟨q, 0, none⟩) n cap) n (encE rest) := own_keep1 ow2 (by intro g' ee o ho; cases ee; exact k25.heap hqp ho)
    have hm5 : W5.ownsRow W3.heap.size 60 1 (.slice A3 p.d.mag.length c3) p.d.mag.length (mags p.d.mag) := own_keep1 hmo (by
      intro g' ee o ho
      have h1 := (hmo.lt g' ee).1
      have h2 := ps3.lt
      exact hch5.keep.heap (by omega) ho)
    have h34 := hch4.keep.size
    have h45 := hch5.keep.size
    have h23 := hch3.keep.size
    obtain ⟨g4, hg4, hg4'⟩ : ∃ g4 : Nat, (0 < p.k.len → A4 = some ⟨g4, 0, none⟩) ∧ W4.heap.size ≤ g4 := by
      rcases hko.2 with ⟨hv, h0⟩ | ⟨g, _, _, hv, hg, _⟩
      · exact ⟨W4.heap.size, fun h => absurd h0 (by omega), Nat.le_refl _⟩
      · injection hv with e1 _ _
        exact ⟨g, fun _ => e1, hg⟩
    have HG4 := Lib.hid hg4
    have lcell5 : W5.cell? ⟨p.b, p.o + 5, none⟩ = some (.slice A4 p.k.len c4) := hch5.cell
    clear lcell pcell4 HKD hg4
    gi_wp2_with fail
    refine ⟨trivial, rfl, ?_⟩
    refine (callsIn_wide.2 (turned_any _ _ _ _)).mono ?_
    rintro z W6' ⟨rfl, hW6⟩
    obtain ⟨W6, hW6'⟩ : ∃ W6, W6 = W6' := ⟨_, rfl⟩
    rw [← hW6'] at hW6 ⊢
    have kW6 : Keep (fun _ => True) W5 W6 := by rw [← hW6]; exact (Keep.refl _ _).alloc _
    have hs6 : W6.heap.size = W5.heap.size + 1 := by rw [← hW6]; simp
    have tb6 : Boxed W6 W5.heap.size 25 (.slice A4 p.k.len c4) := by rw [← hW6]; exact Boxed.new _ _ _
    clear hW6 hW6'
    gi_wp2_with fail
    have hm0 := HWT.out.val.ok.kidc
    have hge := HWT.out.ge
    have hpl5 := ps5.lt
    have hGI : GInv w W5 p rest g4 q p.k.len q cap n W5 := by
      have hd : (kidsE g4 p.k).drop p.k.len = [] := List.drop_eq_nil_of_le (by rw [kidsE_length]; exact Nat.le_refl _)
      exact ⟨Keep.refl _ _, .inl rfl, by rw [hd, List.nil_append]; exact HN.out, bx5, by rw [hd, List.nil_append]; exact ow5⟩
    refine wp_rf (gf := 59) (lb := #[.pointer (some ⟨W5.heap.size, 0, none⟩)]) rfl (enters_of Tryd.func59 (by kernel_rfl) rfl) (encs := fun i : Nat => #[.int .i64 i]) (L := down p.k.len) (Kp := fun _ _ => True) (Rel := fun V V' => V' = V)
      (fun r => turned1_gives _ _ _ _ _ ((Boxed.alloc (Boxed.alloc tb6 _) _).cell) hm0) (fun _ => rfl) (fun V V' _ h => by subst h; exact Book.refl _ _) (fun _ _ _ _ _ => trivial) (fun _ _ _ => trivial)
      (fun pre' V => ∃ j g' cap' n', j + pre'.length = p.k.len ∧ GInv w W5 p rest g4 q j g' cap' n' V) (fun _ _ _ => False)
      (fun pre' V V' h e => by subst e; exact h) (fun _ _ _ _ h _ => h)
      (fun pre' V o r ⟨j, g', cap', n', h1, h2⟩ hl => ⟨j, g', cap', n', h1, h2.stay ((Keep.refl (fun k => k ≠ W6.heap.size + 1) V).putObj _ (.inl (by simp))) (fun k hk => by omega) (by omega) (own_not h2.own hl rfl)⟩)
      (fun _ _ _ _ _ h _ => h)
      (fun r => ⟨p.k.len, q, cap, n, by simp, hGI.stay (G' := fun _ => True) ((kW6.alloc _).alloc _) (fun _ _ => trivial) trivial trivial⟩)
      (fun i => { tmps := #[.agg #[.int .i64 d.k, .int .i32 d.c, .bool d.neg, .slice d.mA d.mag.length d.mcap, .string d.t, .slice d.lA f.len d.lcap], .pointer (some ⟨w.heap.size, 0, none⟩), .pointer (some ⟨w.heap.size + 1, 0, none⟩), .pointer (some ⟨w.heap.size + 1 + 1 + 1, 0, none⟩), .pointer (some ⟨W1.heap.size, 0, none⟩), .int .i64 (i : Nat), u6, u7, u8, u9, u10, u11, u12, u13, u14, u15, u16, u17, u18, u19, u20, u21, u22, u23, u24, u25, u26, u27, u28, u29, u30, u31, u32, u33, u34, u35, u36, .pointer (some ⟨p.b, p.o, none⟩), .pointer (some ⟨p.b, p.o, none⟩), .pointer (some ⟨p.b, p.o + 5, none⟩), .slice A4 p.k.len c4, .func (.func 59) #[] #[.pointer (some ⟨W5.heap.size, 0, none⟩)], .int .i64 (i : Nat), u43, u44, u45, u46, u47, u48, u49, u50], defers := [] }) ?assign ?body ?done (fun _ _ _ _ _ _ h _ => h.elim)
    case assign =>
      intro l' i V K hK
      gi_wp2
      exact hK
    case body =>
      rintro l' pre' i rest' V hLd ⟨j, g', cap', n', h1, h2⟩ hBD ⟨r0, hBL⟩
      obtain ⟨hi1, hi2⟩ := down_at hLd
      obtain rfl : j = i + 1 := by omega
      have him : i < p.k.len := by omega
      have hA := HG4.out (by omega)
      have pqq : W1.heap.size ≠ q := by omega
      have hplt5 := pb5.lt
      have c0 : V.cell? ⟨W1.heap.size, 0, none⟩ = some (.pointer (some ⟨p.b, p.o, none⟩)) := h2.keep.cell (p := ⟨W1.heap.size, 0, none⟩) (by show ¬ (W1.heap.size = _ ∨ W1.heap.size = q); omega) pcell5
      have cl : V.cell? ⟨p.b, p.o + 5, none⟩ = some (.slice (some ⟨g4, 0, none⟩) p.k.len c4) := by rw [← hA]; exact h2.keep.cell (p := ⟨p.b, p.o + 5, none⟩) hbad lcell5
      have HIDR := Lib.hid (kidsE_drop g4 p.k i him)
      have hn' : n' ≤ 1000000 := by
        have e1 := h2.len
        have e2 := kidsE_length g4 p.k
        have e3 := cntE_length rest
        have e4 := F.len_le_cnt p.k
        rw [cntE_cons] at hcn
        simp only [List.length_append, List.length_drop] at e1
        omega
      have hVs : w.heap.size + 2 ≤ V.heap.size := by have := h2.keep.size; omega
      have HPT := Lib.hid (put50_any (w.heap.size + 1 + 1 + 1) (w.heap.size + 2) (some ⟨g', 0, none⟩) n' cap' _ ⟨g4, i * 6, none⟩ V h2.box h2.own hn' hVs)
      have hg1 := own_not h2.own hBD rfl
      have hg2 := own_not h2.own hBL rfl
      have H2 := Lib.hid h2
      clear h2 hA
      gi_wp2_with fail
      refine ⟨trivial, rfl, ?_⟩
      refine (CallsIn.inRound l' (callsIn_wide.2 (HPT.out))).mono ?_
      rintro z V5 ⟨⟨v5, rfl⟩, A5, cap5, hp⟩
      gi_wp2
      have hkp5 : Keep (fun k => k ≠ w.heap.size + 1 + 1 + 1 ∧ some k ≠ some g') V V5 := hp.keep
      obtain ⟨g5, rfl, hg5⟩ : ∃ g5, A5 = some ⟨g5, 0, none⟩ ∧ (g5 = g' ∨ V.heap.size ≤ g5) := by
        rcases hp.lies with e5 | ⟨g5, e5, h5⟩
        · exact ⟨g', e5, .inl rfl⟩
        · exact ⟨g5, e5, .inr h5⟩
      have hB1 := (Array.getElem?_eq_some_iff.1 hBL).1
      refine ⟨hkp5.book ⟨by omega, by simp; omega⟩ ⟨by omega, by simp; omega⟩ hB1, trivial, i, g5, cap5, n' + 1, by simp; omega, ?_⟩
      have h2 := H2.out
      have hls := h2.lies
      have hVs5 := h2.keep.size
      refine ⟨⟨hkp5.os.trans h2.keep.os, hkp5.tape.trans h2.keep.tape, hkp5.output.trans h2.keep.output, Nat.le_trans h2.keep.size hkp5.size, fun k hk hl => (hkp5.block k ⟨by omega, by simp; omega⟩ (by omega)).trans (h2.keep.block k hk hl)⟩, by omega, ?_, hp.box, ?_⟩
      · rw [HIDR.out, List.cons_append, List.length_cons, ← h2.len]
      · rw [HIDR.out, List.cons_append]
        exact hp.own
    case done =>
      rintro V ⟨j, g', cap', n', h1, h2⟩ hD
      rw [down_length] at h1
      obtain rfl : j = 0 := by omega
      gi_wp2
      have hF := HF.out
      have hwt := HWT.out
      have hlt2 : cntE (kidsE g4 p.k ++ rest) < cntE (p :: rest) := by rw [cntE_append, cntE_cons, cntE_kids]; omega
      have hmV : Mut (fun k => k = w.heap.size + 1 + 1 + 1 ∨ k = q) W V p.b p.o := hmut.keepOn h2.keep hbad
      obtain ⟨curq, hqt⟩ := own_ty hF.own
      have hbt : W.heap[w.heap.size + 1 + 1 + 1]? = _ := hF.box
      have nbad : ∀ k cur e fz, W.heap[k]? = some (.cells cur e fz) → e ≠ 93 → e ≠ 50 → ¬ (k = w.heap.size + 1 + 1 + 1 ∨ k = q) := by
        intro k cur e fz hk h93 h50 hb
        rcases hb with hb | hb
        · exact not_bad hk hbt h93 hb
        · exact not_bad hk hqt h50 hb
      obtain ⟨hU1, hU2, hU3⟩ := List.nodup_append.1 hF.nodup
      rw [List.map_cons, List.nodup_cons] at hU2
      have hnU : ∀ u ∈ U, u ≠ adr p := fun u hu => hU3 u hu (adr p) (by simp)
      have hnR : ∀ x ∈ rest, adr x ≠ adr p := fun x hx e => hU2.1 (by rw [← e]; exact List.mem_map_of_mem hx)
      have hVs := hmV.keep.size
      have hWp : p.b < W.heap.size := cell_lt hwt.node.k
      have hko' : V.ownsRow W4.heap.size 27 6 (.slice A4 p.k.len c4) p.k.len p.k.cells := own_keep1 hko (by
        intro g6 ee o ho
        have := (hko.lt g6 ee).1
        exact h2.keep.heap (by omega) ho)
      have hm5' : V.ownsRow W3.heap.size 60 1 (.slice A3 p.d.mag.length c3) p.d.mag.length (mags p.d.mag) := own_keep1 hm5 (by
        intro g6 ee o ho
        have := (hm5.lt g6 ee).1
        exact h2.keep.heap (by omega) ho)
      have psV : PSt V p.b p.o { { p.d with mA := A3, mcap := c3 } with lA := A4, lcap := c4 } p.k.len := ps5.keep h2.keep hbad
      have hkid : ∀ i, i < p.k.len → (⟨g4, i * 6, 0, p.k.nthD i, p.k.nthK i⟩ : El) ∈ kidsE g4 p.k ++ rest := by
        intro i hi
        refine List.mem_append_left _ ?_
        simp only [kidsE, List.mem_map, List.mem_range]
        exact ⟨i, hi, rfl⟩
      refine ⟨cntE (kidsE g4 p.k ++ rest), hlt2, W6.heap.size :: Ds, adr p :: U, kidsE g4 p.k ++ rest, g', cap', rfl, by omega, ⟨?_, ?_, ?_, ?_, ?_, ?_, ?_, ?_, ?_, ?_, ?_⟩, _, _, _, _, _, _, _, _, _, _, _, _, _, _, _, _, _, _, _, _, _, _, _, _, _, _, _, _, _, _, _, _, _, _, _, _, _, _, _, _, _, _, _, _, _, _, _, rfl⟩
      · refine CopyF.step (fun u hu => List.mem_cons_of_mem _ hu) ?_ ?_ ?_ _ _ _ hF.copy
        · intro b o hu j v hj hc
          obtain ⟨_, _, _, h6, cur, hcur⟩ := hF.used _ hu
          exact hmV.cell (hnU _ hu) h6 hwt.six hj (nbad _ _ _ _ hcur (by decide) (by decide)) hc
        · intro g6 cur fz _ hg6
          obtain ⟨curp, hcp⟩ := hwt.ty
          exact hmV.keep.heap ⟨nbad _ _ _ _ hg6 (by decide) (by decide), not_bad hg6 hcp (by decide)⟩ hg6
        · intro x hx
          rcases List.mem_cons.1 hx with rfl | hx
          · refine .inr ⟨by simp [adr], ({ { x.d with mA := A3, mcap := c3 } with lA := A4, lcap := c4 } : D), ⟨rfl, rfl, rfl, rfl, rfl⟩, psV.node, ?_, own_magN hm5' (by omega), ?_⟩
            · have hok := hwt.val.ok
              refine ⟨hok.k0, hok.k1, hok.c0, hok.c1, hok.mag, own_capb hm5', hok.magc, hok.text, own_capb hko', hok.kidc, fun h => ?_⟩
              have := HG4.out h
              simp [D.kb, D.ko, this]
            · refine CopyF.all _ _ _ (fun i hi => ?_)
              have hA := HG4.out (by omega)
              have := hkid i hi
              simpa [D.kb, D.ko, hA] using this
          · exact .inl (List.mem_append_right _ hx)
      · intro x hx
        rcases List.mem_append.1 hx with hx | hx
        · simp only [kidsE, List.mem_map, List.mem_range] at hx
          obtain ⟨i, hi, rfl⟩ := hx
          have hA := HG4.out (by omega)
          have hko2 := hko'
          rw [hA] at hko2
          exact ⟨by simp only []; omega, by simp only []; omega, own_ty hko2, own_node hko2 hi, (AtF.nth hwt.val.kids 0 i hi).val, rfl, by simp⟩
        · have hxw := hF.wait x (by simp [hx])
          obtain ⟨cur, hcur⟩ := hxw.ty
          have hnb := nbad _ _ _ _ hcur (by decide) (by decide)
          exact ⟨hxw.ge, hxw.ne, hmV.ty' hnb hcur, hmV.node (hnR x hx) hxw.six hwt.six hnb hxw.node, hxw.val, hxw.lvl, hxw.six⟩
      · refine nodup_step hF.nodup (fun u hu => ?_) (by omega) (fun x hx => ?_)
        · have := (hF.used u hu).2.2.1
          omega
        · have := cell_lt (hF.wait x (by simp [hx])).node.k
          simp only [] at this
          omega
      · intro u hu
        rcases List.mem_cons.1 hu with rfl | hu
        · obtain ⟨cur, hcur⟩ := hwt.ty
          exact ⟨hwt.ge, hwt.ne, by simp only [adr]; omega, hwt.six, hmV.ty' (nbad _ _ _ _ hcur (by decide) (by decide)) hcur⟩
        · obtain ⟨a1, a2, a3, a4, cur, hcur⟩ := hF.used u hu
          exact ⟨a1, a2, by omega, a4, hmV.ty' (nbad _ _ _ _ hcur (by decide) (by decide)) hcur⟩
      · exact hF.keep.trans (hmV.keep.mono (fun k _ hk => ⟨by omega, by omega⟩))
      · have := hF.size
        omega
      · obtain ⟨cur, hcur⟩ := hF.root
        exact hmV.ty' (nbad _ _ _ _ hcur (by decide) (by decide)) hcur
      · exact hmV.keep.heap ⟨nbad _ _ _ _ hF.res (by decide) (by decide), fun e => hwt.ne e.symm⟩ hF.res
      · have h3 := h2.len
        have h4 := h2.box
        rw [List.drop_zero] at h3
        rw [← h3]
        exact h4
      · have h3 := h2.len
        have h4 := h2.own
        rw [List.drop_zero] at h3 h4
        rw [← h3]
        exact h4
      · refine (hF.marks.keep hmV.keep (fun D hDD => ⟨?_, ?_⟩)).cons (by omega) hD (fun hD' => by have := hF.marks.lt _ hD'; omega)
        · have hdd := hF.marks.at' D hDD
          rintro (e | e)
          · rw [e, hbt] at hdd
            cases hdd
          · rw [e, hqt] at hdd
            cases hdd
        · intro e
          obtain ⟨cur, hcur⟩ := hwt.ty
          have hdd := hF.marks.at' D hDD
          rw [e, hcur] at hdd
          cases hdd
end Go.Proofs.YtkffojipgphneaaDoor
