/- datum.Same. -/
import Derived.Test.YtkffojipgphneaaDoorS0
import Derived.StillTailTactics
set_option linter.unusedVariables false
set_option linter.unusedSimpArgs false
namespace Go.Proofs.YtkffojipgphneaaDoor
open Go Go.RowKit Go.Shelf
attribute [local go_sem] Oper.semAt_some
/-- Between two rounds. -/
structure SInv (w W0 : World) (B : Bool) (Ds : List Nat) (pend : List Pr) (q cap : Nat) (W : World) : Prop where
  ans : B = pend.all sameP
  at' : ∀ p ∈ pend, ElAt (fun k => k < w.heap.size + 2) W0 p.1 ∧ ElAt (fun k => k < w.heap.size + 2) W0 p.2
  keep : Keep (fun k => k < w.heap.size + 2) W0 W
  size : w.heap.size + 4 ≤ W.heap.size
  box : Boxed W (w.heap.size + 1 + 1 + 1) 54 (.slice (some ⟨q, 0, none⟩) pend.length cap)
  own : W.ownsRow (w.heap.size + 2) 52 2 (.slice (some ⟨q, 0, none⟩) pend.length cap) pend.length (encPr pend)
  marks : Marks (w.heap.size + 2) Ds W
/-- While a pair's items are put. -/
structure TInv (w W0 : World) (Ds : List Nat) (x y : El) (rest : List Pr) (bX bY j q cap n : Nat) (V : World) : Prop where
  keep : Keep (fun k => k < w.heap.size + 2) W0 V
  szX : w.heap.size + 4 ≤ bX
  szY : w.heap.size + 4 ≤ bY
  bx : Boxed V bX 50 (.pointer (some ⟨x.b, x.o, none⟩))
  by' : Boxed V bY 50 (.pointer (some ⟨y.b, y.o, none⟩))
  len : n = ((kidsP (x, y)).drop j ++ rest).length
  box : Boxed V (w.heap.size + 1 + 1 + 1) 54 (.slice (some ⟨q, 0, none⟩) n cap)
  own : V.ownsRow (w.heap.size + 2) 52 2 (.slice (some ⟨q, 0, none⟩) n cap) n (encPr ((kidsP (x, y)).drop j ++ rest))
  marks : Marks (w.heap.size + 2) Ds V
theorem TInv.stay {w W0 V V' : World} {G' : Nat → Prop} {Ds : List Nat} {x y : El} {rest : List Pr} {bX bY j q cap n : Nat} (h : TInv w W0 Ds x y rest bX bY j q cap n V) (hk : Keep G' V V')
    (h1 : ∀ k, k < w.heap.size + 2 → G' k) (h2 : G' bX) (h2' : G' bY) (h3 : G' (w.heap.size + 1 + 1 + 1)) (h4 : G' q) (h5 : ∀ D ∈ Ds, G' D) : TInv w W0 Ds x y rest bX bY j q cap n V' :=
  ⟨h.keep.trans (hk.mono fun k _ hk => h1 k hk), h.szX, h.szY, hk.heap h2 h.bx, hk.heap h2' h.by', h.len, hk.heap h3 h.box, own_keep1 h.own (by intro g' e o ho; cases e; exact hk.heap h4 ho), h.marks.keep hk h5⟩
set_option maxRecDepth 100000 in
set_option maxHeartbeats 4000000 in
theorem same_any (d : D) (f : F) (e : D) (g : F) (w : World) (h1 : Val (fun k => k < w.heap.size) w d f) (h2 : Val (fun k => k < w.heap.size) w e g) (hc : f.cnt ≤ 190000) (B : Bool) (hB : Hid (sameD d f e g = B)) :
    Calls Tryd.prog 19 #[.agg #[.int .i64 d.k, .int .i32 d.c, .bool d.neg, .slice d.mA d.mag.length d.mcap, .string d.t, .slice d.lA f.len d.lcap], .agg #[.int .i64 e.k, .int .i32 e.c, .bool e.neg, .slice e.mA e.mag.length e.mcap, .string e.t, .slice e.lA g.len e.lcap]] w fun x w' => x = .returned (.bool B) ∧ Below w.heap.size w w' := by
  refine (callsIn_wide (n := 0)).1 ?_
  refine callsIn_of_wp_marks Tryd.func19 rfl trivial ?_ rfl
  simp only [Tryd.ntmps19, List.size_toArray, List.length_cons, List.length_nil, Nat.reduceAdd, Nat.reduceSub, Array.replicate_succ, Array.replicate_zero, List.push_toArray, List.append_toArray, List.nil_append, List.cons_append]
  obtain ⟨W0, hW0⟩ : ∃ W0, W0 = (((w.alloc (.cells #[.int .i64 d.k, .int .i32 d.c, .bool d.neg, .slice d.mA d.mag.length d.mcap, .string d.t, .slice d.lA f.len d.lcap] 27)).alloc (.cells #[.int .i64 e.k, .int .i32 e.c, .bool e.neg, .slice e.mA e.mag.length e.mcap, .string e.t, .slice e.lA g.len e.lcap] 27)).alloc (.cells #[.pointer (some ⟨w.heap.size, 0, none⟩), .pointer (some ⟨w.heap.size + 1, 0, none⟩)] 52)).alloc (.cells #[.slice (some ⟨w.heap.size + 1 + 1, 0, none⟩) 1 1] 54) := ⟨_, rfl⟩
  have hb0 : Below w.heap.size w W0 := by rw [hW0]; exact ((((Below.refl _ _).alloc (Nat.le_refl _) _).alloc (by simp) _).alloc (by simp; omega) _).alloc (by simp; omega) _
  have hs0 : W0.heap.size = w.heap.size + 4 := by rw [hW0]; simp
  have hx0 : W0.heap[w.heap.size]? = some (six d f.len) := by
    rw [hW0]
    refine (Below.heap_alloc _ _ _ (by simp <;> omega)).trans ((Below.heap_alloc _ _ _ (by simp <;> omega)).trans ((Below.heap_alloc _ _ _ (by simp)).trans (heap_alloc_new _ _)))
  have hy0 : W0.heap[w.heap.size + 1]? = some (six e g.len) := by
    rw [hW0]
    have := heap_alloc_new (w.alloc (six d f.len)) (six e g.len)
    rw [World.size_alloc] at this
    refine (Below.heap_alloc _ _ _ (by simp <;> omega)).trans ((Below.heap_alloc _ _ _ (by simp)).trans this)
  have hl0 : Boxed W0 (w.heap.size + 1 + 1 + 1) 54 (.slice (some ⟨w.heap.size + 1 + 1, 0, none⟩) 1 1) := by
    rw [hW0]
    have := Boxed.new (((w.alloc (six d f.len)).alloc (six e g.len)).alloc (.cells #[.pointer (some ⟨w.heap.size, 0, none⟩), .pointer (some ⟨w.heap.size + 1, 0, none⟩)] 52)) 54 (.slice (some ⟨w.heap.size + 1 + 1, 0, none⟩) 1 1)
    simpa [six] using this
  have ho0 : W0.ownsRow (w.heap.size + 2) 52 2 (.slice (some ⟨w.heap.size + 1 + 1, 0, none⟩) 1 1) 1 (encPr [(⟨w.heap.size, 0, 0, d, f⟩, ⟨w.heap.size + 1, 0, 0, e, g⟩)]) := by
    rw [hW0]
    refine World.ownsRow.alloc ?_ _
    have := World.ownsRow_lit (base := w.heap.size + 2) (e := 52) (size := 2) ((w.alloc (six d f.len)).alloc (six e g.len)) #[.pointer (some ⟨w.heap.size, 0, none⟩), .pointer (some ⟨w.heap.size + 1, 0, none⟩)] 1 (by simp) (by unfold maxLen; omega) rfl
    simpa [encPr, six] using this
  have hv1 := (h1.keep (Keep.of_below hb0)).at hx0 0
  have hv2 := (h2.keep (Keep.of_below hb0)).at hy0 0
  have hin : SInv w W0 B [] [(⟨w.heap.size, 0, 0, d, f⟩, ⟨w.heap.size + 1, 0, 0, e, g⟩)] (w.heap.size + 1 + 1) 1 W0 := by
    refine ⟨by rw [← hB.out]; simp [sameP], ?_, Keep.refl _ _, by omega, hl0, ho0, Marks.nil _ _⟩
    intro p hp
    simp only [List.mem_singleton] at hp
    subst hp
    exact ⟨hv1.mono (fun k hk => by omega), hv2.mono (fun k hk => by omega)⟩
  have HB0 := Lib.hid hb0
  have HS0 := Lib.hid hs0
  clear hx0 hy0 hl0 ho0 hv1 hv2 h1 h2 hB hs0
  have HW0 := Lib.hid hW0
  clear hW0 hb0
  gi_wp2
  rw [← show W0 = _ from HW0.out]
  refine wp_loopk (fun k a W => ∃ Ds pend q cap, k = cntP pend ∧ cntP pend ≤ 200000 ∧ SInv w W0 B Ds pend q cap W ∧ ∃ u6 u7 u8 u9 u10 u11 u12 u13 u14 u15 u16 u17 u18 u19 u20 u21 u22 u23 u24 u25 u26 u27 u28 u29 u30 u31 u32 u33 u34 u35 u36 u37 u38 u39 u40 u41 u42 u43 u44 u45 u46 u47 : Value, a = { tmps := #[.agg #[.int .i64 d.k, .int .i32 d.c, .bool d.neg, .slice d.mA d.mag.length d.mcap, .string d.t, .slice d.lA f.len d.lcap], .agg #[.int .i64 e.k, .int .i32 e.c, .bool e.neg, .slice e.mA e.mag.length e.mcap, .string e.t, .slice e.lA g.len e.lcap], .pointer (some ⟨w.heap.size, 0, none⟩), .pointer (some ⟨w.heap.size + 1, 0, none⟩), .bool false, .pointer (some ⟨w.heap.size + 1 + 1 + 1, 0, none⟩), u6, u7, u8, u9, u10, u11, u12, u13, u14, u15, u16, u17, u18, u19, u20, u21, u22, u23, u24, u25, u26, u27, u28, u29, u30, u31, u32, u33, u34, u35, u36, u37, u38, u39, u40, u41, u42, u43, u44, u45, u46, u47], defers := Ds.map mk }) ?round (cntP [((⟨w.heap.size, 0, 0, d, f⟩ : El), (⟨w.heap.size + 1, 0, 0, e, g⟩ : El))]) _ _ ⟨[], _, _, _, rfl, by simp [cntP]; omega, hin, _, _, _, _, _, _, _, _, _, _, _, _, _, _, _, _, _, _, _, _, _, _, _, _, _, _, _, _, _, _, _, _, _, _, _, _, _, _, _, _, _, _, rfl⟩
  clear hin
  rintro k a W ⟨Ds, pend, q, cap, rfl, hcn, ⟨hans, hat, hkp, hsz, hbox, hown, hmk⟩, u6, u7, u8, u9, u10, u11, u12, u13, u14, u15, u16, u17, u18, u19, u20, u21, u22, u23, u24, u25, u26, u27, u28, u29, u30, u31, u32, u33, u34, u35, u36, u37, u38, u39, u40, u41, u42, u43, u44, u45, u46, u47, rfl⟩
  have HANS := Lib.hid hans
  have HMK := Lib.hid hmk
  have HAT := Lib.hid hat
  clear hans hmk hat
  have hcb := hbox.cell
  rcases pend with _ | ⟨⟨x, y⟩, rest⟩
  · simp only [List.length_nil] at hbox hown hcb ⊢
    gi_wp2
    refine leaves_marks Ds W HMK.out.nd HMK.out.at' (fun w' hs hk => ⟨_, results_tmp rfl _ _ _, ?_, ?_⟩)
    · rw [HANS.out]
      rfl
    · exact HB0.out.trans ((hkp.trans (hk.mono (fun k _ hk1 hk2 => by have := HMK.out.ge k hk2; omega))).below HB0.out.size (fun k hk => by omega))
  · obtain ⟨n, hn⟩ : ∃ n, n = rest.length := ⟨_, rfl⟩
    simp only [List.length_cons, ← hn] at hbox hown hcb ⊢
    have HN := Lib.hid hn
    have hnb : n ≤ 200000 := by
      have h1 := cntP_length rest
      rw [cntP_cons] at hcn
      omega
    clear hn
    have hxy := HAT.out (x, y) (by simp)
    have hx1 := hxy.1
    have hy1 := hxy.2
    simp only [] at hx1 hy1
    clear hxy
    have hbase : w.heap.size ≤ W.heap.size := by omega
    gi_wp2_with fail
    refine ⟨trivial, rfl, ?_⟩
    refine (callsIn_wide.2 (take52_any (w.heap.size + 1 + 1 + 1) (w.heap.size + 2) q n cap (encPr rest) ⟨x.b, x.o, none⟩ ⟨y.b, y.o, none⟩ W hbox hown (by omega))).mono ?_
    rintro z W1 ⟨rfl, hbox1, hown1, hk1⟩
    have hs1 := hk1.size
    have hkp1 : Keep (fun k => k < w.heap.size + 2) W0 W1 := hkp.trans (hk1.mono (fun k _ hk => by omega))
    have hm1 : Marks (w.heap.size + 2) Ds W1 := HMK.out.keep hk1 (fun D hD => by
      rintro rfl
      have h1 := HMK.out.at' _ hD
      rw [show W.heap[w.heap.size + 1 + 1 + 1]? = _ from hbox] at h1
      cases h1)
    clear hbox hown hcb
    have hgp : q < W1.heap.size := (hown1.lt q rfl).2
    have hq0 : w.heap.size + 2 ≤ q := (hown1.lt q rfl).1
    obtain ⟨W2, hW2⟩ : ∃ W2, W2 = W1.alloc (.cells #[.pointer (some ⟨x.b, x.o, none⟩), .pointer (some ⟨y.b, y.o, none⟩)] 52) := ⟨_, rfl⟩
    have kW2 : Keep (fun _ => True) W1 W2 := by rw [hW2]; exact (Keep.refl _ _).alloc _
    have hs2 : W1.heap.size < W2.heap.size := by rw [hW2]; simp
    have pb2 : W2.heap[W1.heap.size]? = some (.cells #[.pointer (some ⟨x.b, x.o, none⟩), .pointer (some ⟨y.b, y.o, none⟩)] 52 (0, 0)) := by rw [hW2]; exact heap_alloc_new _ _
    have pc0 : W2.cell? ⟨W1.heap.size, 0, none⟩ = some (.pointer (some ⟨x.b, x.o, none⟩)) := by simp [World.cell?, pb2]
    have pc1 : W2.cell? ⟨W1.heap.size, 1, none⟩ = some (.pointer (some ⟨y.b, y.o, none⟩)) := by simp [World.cell?, pb2]
    gi_wp2_with fail
    rw [← hW2]
    have HW2 := Lib.hid hW2
    clear hW2
    refine wpIn_mono (Q := fun ex a' W' => ex = .normal ∧ ∃ bX bY, Boxed W' bX 50 (.pointer (some ⟨x.b, x.o, none⟩)) ∧ Boxed W' bY 50 (.pointer (some ⟨y.b, y.o, none⟩)) ∧ W2.heap.size ≤ bX ∧ W2.heap.size ≤ bY ∧ Keep (fun k => k < W2.heap.size) W2 W' ∧ ∃ u9 u10 u11 u12 u13 u14 u15 u16 u17 u18 u19 u20 u21 u22 u23 u24 u25 u26 u27 u28 u29 u30 u31 u32 u33 u34 u35 u36 u37 u38 u39 u40 u41 u42 u43 u44 u45 u46 u47 : Value, a' = { tmps := #[.agg #[.int .i64 d.k, .int .i32 d.c, .bool d.neg, .slice d.mA d.mag.length d.mcap, .string d.t, .slice d.lA f.len d.lcap], .agg #[.int .i64 e.k, .int .i32 e.c, .bool e.neg, .slice e.mA e.mag.length e.mcap, .string e.t, .slice e.lA g.len e.lcap], .pointer (some ⟨w.heap.size, 0, none⟩), .pointer (some ⟨w.heap.size + 1, 0, none⟩), .bool false, .pointer (some ⟨w.heap.size + 1 + 1 + 1, 0, none⟩), .pointer (some ⟨W1.heap.size, 0, none⟩), .pointer (some ⟨bX, 0, none⟩), .pointer (some ⟨bY, 0, none⟩), u9, u10, u11, u12, u13, u14, u15, u16, u17, u18, u19, u20, u21, u22, u23, u24, u25, u26, u27, u28, u29, u30, u31, u32, u33, u34, u35, u36, u37, u38, u39, u40, u41, u42, u43, u44, u45, u46, u47], defers := Ds.map mk }) (wpIn_wide.2 ?_) ?_
    · have nw0 := World.new_ne W2 ⟨W1.heap.size, 0, none⟩ pc0
      have nw1 := World.new_ne W2 ⟨W1.heap.size, 1, none⟩ pc1
      go_region_held3 (fun V => V.cell? ⟨W1.heap.size, 0, none⟩ = some (.pointer (some ⟨x.b, x.o, none⟩)) ∧ V.cell? ⟨W1.heap.size, 1, none⟩ = some (.pointer (some ⟨y.b, y.o, none⟩))) (first | go_keep | exact ⟨pc0, pc1⟩) (fail)
      · exact ⟨rfl, W2.heap.size, W2.heap.size + 1, (Boxed.new W2 50 _).alloc _, by have h := Boxed.new (W2.alloc (.cells #[.pointer (some ⟨x.b, x.o, none⟩)] 50)) 50 (.pointer (some ⟨y.b, y.o, none⟩)); rw [World.size_alloc] at h; exact h, Nat.le_refl _, Nat.le_succ _, (((Keep.refl _ _).alloc _).alloc _).drew, _, _, _, _, _, _, _, _, _, _, _, _, _, _, _, _, _, _, _, _, _, _, _, _, _, _, _, _, _, _, _, _, _, _, _, _, _, _, _, rfl⟩
      · exact ⟨rfl, W2.heap.size + 1, W2.heap.size, by have h := Boxed.new (W2.alloc (.cells #[.pointer (some ⟨y.b, y.o, none⟩)] 50)) 50 (.pointer (some ⟨x.b, x.o, none⟩)); rw [World.size_alloc] at h; exact h, (Boxed.new W2 50 _).alloc _, Nat.le_succ _, Nat.le_refl _, (((Keep.refl _ _).alloc _).alloc _).drew, _, _, _, _, _, _, _, _, _, _, _, _, _, _, _, _, _, _, _, _, _, _, _, _, _, _, _, _, _, _, _, _, _, _, _, _, _, _, _, rfl⟩
    rintro ex a3 W3 ⟨rfl, bX, bY, hbX, hbY, hlX, hlY, hk3, u9, u10, u11, u12, u13, u14, u15, u16, u17, u18, u19, u20, u21, u22, u23, u24, u25, u26, u27, u28, u29, u30, u31, u32, u33, u34, u35, u36, u37, u38, u39, u40, u41, u42, u43, u44, u45, u46, u47, rfl⟩
    have hs3 := hk3.size
    have kk3 : Keep (fun k => k < W1.heap.size) W1 W3 := (kW2.mono (fun _ _ _ => trivial)).trans (hk3.mono (fun k _ hk => by omega))
    have hkp3 : Keep (fun k => k < w.heap.size + 2) W0 W3 := hkp1.trans (kk3.mono (fun k _ hk => by omega))
    have bx3 : Boxed W3 (w.heap.size + 1 + 1 + 1) 54 (.slice (some ⟨q, 0, none⟩) n cap) := kk3.heap (by omega) hbox1
    have ow3 : W3.ownsRow (w.heap.size + 2) 52 2 (.slice (some ⟨q, 0, none⟩) n cap) n (encPr rest) := own_keep1 hown1 (by intro g' ee o ho; cases ee; exact kk3.heap hgp ho)
    have m3 : Marks (w.heap.size + 2) Ds W3 := hm1.keep kk3 (fun D hD => hm1.lt D hD)
    have x3 := hx1.keep hkp3
    have y3 := hy1.keep hkp3
    have cX := hbX.cell
    have cY := hbY.cell
    have HAL := Lib.hid (alike_any x.d y.d x.k.len y.k.len _ _ W3.drew x3.ok y3.ok (x3.mag.keep (Keep.refl _ W3).drew) (y3.mag.keep (Keep.refl _ W3).drew))
    have ⟨xn1, xn2, xn3, xn4, xn5, xn6⟩ := x3.node
    have ⟨yn1, yn2, yn3, yn4, yn5, yn6⟩ := y3.node
    clear hkp hkp1 hm1 hbox1 hown1 pb2 pc0 pc1 kW2
    gi_wp2_with fail
    refine wpIn_mono (Q := fun ex a' W' => ex = .normal ∧ Keep (fun k => k < W3.heap.size) W3 W' ∧ ∃ u9 u10 u11 u12 u13 u14 u15 u16 u17 u18 u19 u20 u21 u22 u23 u24 u25 u26 u28 u29 u30 u31 u32 u33 u34 u35 u36 u37 u38 u39 u40 u41 u42 u43 u44 u45 u46 u47 : Value, a' = { tmps := #[.agg #[.int .i64 d.k, .int .i32 d.c, .bool d.neg, .slice d.mA d.mag.length d.mcap, .string d.t, .slice d.lA f.len d.lcap], .agg #[.int .i64 e.k, .int .i32 e.c, .bool e.neg, .slice e.mA e.mag.length e.mcap, .string e.t, .slice e.lA g.len e.lcap], .pointer (some ⟨w.heap.size, 0, none⟩), .pointer (some ⟨w.heap.size + 1, 0, none⟩), .bool false, .pointer (some ⟨w.heap.size + 1 + 1 + 1, 0, none⟩), .pointer (some ⟨W1.heap.size, 0, none⟩), .pointer (some ⟨bX, 0, none⟩), .pointer (some ⟨bY, 0, none⟩), u9, u10, u11, u12, u13, u14, u15, u16, u17, u18, u19, u20, u21, u22, u23, u24, u25, u26, .bool (!(alB x.d y.d x.k.len y.k.len)), u28, u29, u30, u31, u32, u33, u34, u35, u36, u37, u38, u39, u40, u41, u42, u43, u44, u45, u46, u47], defers := Ds.map mk }) (wpIn_wide.2 ?_) ?_
    · go_still_tail 6, (by kernel_rfl)
      go_wp2_with (go_at_call 37; refine (HAL.out).mono ?_; rintro z w' ⟨rfl, hbb⟩)
      first
        | exact ((Keep.refl _ _).drew).trans (Keep.of_below hbb)
        | exact ⟨rfl, ((Keep.refl _ _).drew).trans (Keep.of_below hbb), _, _, _, _, _, _, _, _, _, _, _, _, _, _, _, _, _, _, _, _, _, _, _, _, _, _, _, _, _, _, _, _, _, _, _, _, _, _, rfl⟩
    rintro ex a4 W4 ⟨rfl, hk4, u9, u10, u11, u12, u13, u14, u15, u16, u17, u18, u19, u20, u21, u22, u23, u24, u25, u26, u28, u29, u30, u31, u32, u33, u34, u35, u36, u37, u38, u39, u40, u41, u42, u43, u44, u45, u46, u47, rfl⟩
    have hs4 := hk4.size
    have hkp4 : Keep (fun k => k < w.heap.size + 2) W0 W4 := hkp3.trans (hk4.mono (fun k _ hk => by omega))
    have bx4 : Boxed W4 (w.heap.size + 1 + 1 + 1) 54 (.slice (some ⟨q, 0, none⟩) n cap) := hk4.heap bx3.lt bx3
    have hg3 : q < W3.heap.size := by omega
    have ow4 : W4.ownsRow (w.heap.size + 2) 52 2 (.slice (some ⟨q, 0, none⟩) n cap) n (encPr rest) := own_keep1 ow3 (by intro g' ee o ho; cases ee; exact hk4.heap hg3 ho)
    have m4 : Marks (w.heap.size + 2) Ds W4 := m3.keep hk4 (fun D hD => m3.lt D hD)
    have hbX4 : Boxed W4 bX 50 _ := hk4.heap hbX.lt hbX
    have hbY4 : Boxed W4 bY 50 _ := hk4.heap hbY.lt hbY
    have x4 := x3.keep (hk4.mono (fun k _ hk => by omega))
    have y4 := y3.keep (hk4.mono (fun k _ hk => by omega))
    clear HAL hbX hbY bx3 ow3 m3 hkp3 cX cY xn1 xn2 xn3 xn4 xn5 xn6 yn1 yn2 yn3 yn4 yn5 yn6 kk3 x3 y3
    have hcX := hbX4.cell
    have hxl := x4.node.l
    cases hal : alB x.d y.d x.k.len y.k.len
    · have HAL := Lib.hid hal
      clear hal
      gi_wp2
      refine leaves_marks Ds W4 m4.nd m4.at' (fun w' hs hk => ⟨_, results_tmp rfl _ _ _, ?_, ?_⟩)
      · rw [HANS.out, List.all_cons, sameP_not _ HAL.out]
        rfl
      · exact HB0.out.trans ((hkp4.trans (hk.mono (fun k _ hk1 hk2 => by have := m4.ge k hk2; omega))).below HB0.out.size (fun k hk => by omega))
    · have HAL := Lib.hid hal
      clear hal
      gi_wp2_with fail
      refine ⟨trivial, rfl, ?_⟩
      refine (callsIn_wide.2 (turned_any _ _ _ _)).mono ?_
      rintro z W5' ⟨rfl, hW5⟩
      obtain ⟨W5, hW5'⟩ : ∃ W5, W5 = W5' := ⟨_, rfl⟩
      rw [← hW5'] at hW5 ⊢
      have kW5 : Keep (fun _ => True) W4 W5 := by rw [← hW5]; exact (Keep.refl _ _).alloc _
      have hs5 : W4.heap.size < W5.heap.size := by rw [← hW5]; simp
      have tb5 : Boxed W5 W4.heap.size 25 (.slice x.d.lA x.k.len x.d.lcap) := by rw [← hW5]; exact Boxed.new _ _ _
      clear hW5 hW5'
      gi_wp2_with fail
      have HOX := Lib.hid x4.ok.kids
      have HOY := Lib.hid y4.ok.kids
      have hm0 := x4.ok.kidc
      have hm1' := y4.ok.kidc
      have HLEN := Lib.hid (alB_len HAL.out)
      have hgp4 : q < W4.heap.size := (ow4.lt q rfl).2
      have hDs : ∀ D ∈ Ds, D < W4.heap.size := m4.lt
      have hbX4l := hbX4.lt
      have hbY4l := hbY4.lt
      have hTI : TInv w W0 Ds x y rest bX bY x.k.len q cap n W4 := by
        have hd : (kidsP (x, y)).drop x.k.len = [] := List.drop_eq_nil_of_le (by rw [kidsP_length]; exact Nat.le_refl _)
        exact ⟨hkp4, by omega, by omega, hbX4, hbY4, by rw [hd, List.nil_append]; exact HN.out, bx4, by rw [hd, List.nil_append]; exact ow4, m4⟩
      clear hcX hxl bx4 ow4 m4 hbX4 hbY4
      refine wp_rf (gf := 59) (lb := #[.pointer (some ⟨W4.heap.size, 0, none⟩)]) rfl (enters_of Tryd.func59 (by kernel_rfl) rfl) (encs := fun i : Nat => #[.int .i64 i]) (L := down x.k.len) (Kp := fun _ _ => True) (Rel := fun V V' => V' = V)
        (fun r => turned1_gives _ _ _ _ _ ((Boxed.alloc (Boxed.alloc tb5 _) _).cell) hm0) (fun _ => rfl) (fun V V' _ h => by subst h; exact Book.refl _ _) (fun _ _ _ _ _ => trivial) (fun _ _ _ => trivial)
        (fun pre' V => ∃ j g' cap' n', j + pre'.length = x.k.len ∧ TInv w W0 Ds x y rest bX bY j g' cap' n' V) (fun _ _ _ => False)
        (fun pre' V V' h e => by subst e; exact h) (fun _ _ _ _ h _ => h)
        (fun pre' V o r ⟨j, g', cap', n', h1, h2⟩ hl => ⟨j, g', cap', n', h1, h2.stay ((Keep.refl (fun k => k ≠ W5.heap.size + 1) V).putObj _ (.inl (by simp))) (fun k hk => by omega) (by omega) (by omega) (by omega)
          (own_not h2.own hl rfl) (fun D hD => by have := hDs D hD; omega)⟩)
        (fun _ _ _ _ _ h _ => h)
        (fun r => ⟨x.k.len, q, cap, n, by simp, hTI.stay (G' := fun _ => True) ((kW5.alloc _).alloc _) (fun _ _ => trivial) trivial trivial trivial trivial (fun _ _ => trivial)⟩)
        (fun i => { tmps := #[.agg #[.int .i64 d.k, .int .i32 d.c, .bool d.neg, .slice d.mA d.mag.length d.mcap, .string d.t, .slice d.lA f.len d.lcap], .agg #[.int .i64 e.k, .int .i32 e.c, .bool e.neg, .slice e.mA e.mag.length e.mcap, .string e.t, .slice e.lA g.len e.lcap], .pointer (some ⟨w.heap.size, 0, none⟩), .pointer (some ⟨w.heap.size + 1, 0, none⟩), .bool false, .pointer (some ⟨w.heap.size + 1 + 1 + 1, 0, none⟩), .pointer (some ⟨W1.heap.size, 0, none⟩), .pointer (some ⟨bX, 0, none⟩), .pointer (some ⟨bY, 0, none⟩), .int .i64 (i : Nat), u10, u11, u12, u13, u14, u15, u16, u17, u18, u19, u20, u21, u22, u23, u24, u25, u26, .bool false, .pointer (some ⟨x.b, x.o, none⟩), .pointer (some ⟨x.b, x.o, none⟩), .pointer (some ⟨x.b, x.o + 5, none⟩), .slice x.d.lA x.k.len x.d.lcap, .func (.func 59) #[] #[.pointer (some ⟨W4.heap.size, 0, none⟩)], .int .i64 (i : Nat), u34, u35, u36, u37, u38, u39, u40, u41, u42, u43, u44, u45, u46, u47], defers := [] }) ?assign ?body ?done (fun _ _ _ _ _ _ h _ => h.elim)
      case assign =>
        intro l' i V K hK
        gi_wp2
        exact hK
      case done =>
        rintro V ⟨j, g', cap', n', h1, h2⟩ hD
        rw [down_length] at h1
        obtain rfl : j = 0 := by omega
        have hct : cntP (kidsP (x, y) ++ rest) < cntP ((x, y) :: rest) := by rw [cntP_append, cntP_cons, cntP_kids]; simp only []; omega
        gi_wp2
        refine ⟨cntP (kidsP (x, y) ++ rest), hct, W5.heap.size :: Ds, kidsP (x, y) ++ rest, g', cap', rfl, by omega, ⟨?_, ?_, h2.keep, ?_, ?_, ?_, ?_⟩, _, _, _, _, _, _, _, _, _, _, _, _, _, _, _, _, _, _, _, _, _, _, _, _, _, _, _, _, _, _, _, _, _, _, _, _, _, _, _, _, _, _, rfl⟩
        · rw [HANS.out, List.all_cons, List.all_append, sameP_kids _ HAL.out]
        · intro p hp
          rcases List.mem_append.1 hp with hp | hp
          · simp only [kidsP, List.mem_map, List.mem_range] at hp
            obtain ⟨i, hi, rfl⟩ := hp
            have := HAT.out (x, y) (by simp)
            exact ⟨AtF.nth this.1.kids 0 i hi, AtF.nth this.2.kids 0 i (by have := HLEN.out; simp only [] at hi ⊢; omega)⟩
          · exact HAT.out p (by simp [hp])
        · have := h2.szX
          have := h2.bx.lt
          omega
        · have h3 := h2.len
          have h4 := h2.box
          rw [List.drop_zero] at h3
          rw [← h3]
          exact h4
        · have h3 := h2.len
          have h4 := h2.own
          rw [List.drop_zero] at h3 h4
          rw [← h3]
          exact h4
        · exact h2.marks.cons (by omega) hD (fun hD' => by have := hDs _ hD'; omega)
      case body =>
        rintro l' pre' i rest' V hLd ⟨j, g', cap', n', h1, h2⟩ hBD ⟨r0, hBL⟩
        obtain ⟨hi1, hi2⟩ := down_at hLd
        obtain rfl : j = i + 1 := by omega
        have him : i < x.k.len := by omega
        have hin2 : i < y.k.len := by have := HLEN.out; omega
        have hpair := HAT.out (x, y) (by simp)
        have hxV := hpair.1.keep h2.keep
        have hyV := hpair.2.keep h2.keep
        have hA := HOX.out (by omega)
        have hA2 := HOY.out (by omega)
        have c0 := h2.bx.cell
        have c1 := h2.by'.cell
        have cl : V.cell? ⟨x.b, x.o + 5, none⟩ = some (.slice (some ⟨x.d.kb, x.d.ko, none⟩) x.k.len x.d.lcap) := by rw [← hA]; exact hxV.node.l
        have cl2 : V.cell? ⟨y.b, y.o + 5, none⟩ = some (.slice (some ⟨y.d.kb, y.d.ko, none⟩) y.k.len y.d.lcap) := by rw [← hA2]; exact hyV.node.l
        have HIDR := Lib.hid (kidsP_drop (x, y) i him)
        have hn' : n' ≤ 1000000 := by
          have e1 := h2.len
          have e2 := kidsP_length (x, y)
          have e3 := cntP_length rest
          have e4 := F.len_le_cnt x.k
          rw [cntP_cons] at hcn
          simp only [List.length_append, List.length_drop] at e1 e2 hcn
          omega
        have hVs : w.heap.size + 2 ≤ V.heap.size := by have := h2.szX; have := h2.bx.lt; omega
        have HPT := Lib.hid (put52_any (w.heap.size + 1 + 1 + 1) (w.heap.size + 2) (some ⟨g', 0, none⟩) n' cap' _ ⟨x.d.kb, x.d.ko + i * 6, none⟩ ⟨y.d.kb, y.d.ko + i * 6, none⟩ V.drew h2.box h2.own hn' hVs)
        have hg1 := own_not h2.own hBD rfl
        have hg2 := own_not h2.own hBL rfl
        have hg0 : w.heap.size + 2 ≤ g' := (h2.own.lt g' rfl).1
        have hxb : x.b < w.heap.size + 2 := hpair.1.g
        have hyb : y.b < w.heap.size + 2 := hpair.2.g
        have hnX : some bX ≠ some g' := h2.bx.not_row (by decide) h2.own
        have hnY : some bY ≠ some g' := h2.by'.not_row (by decide) h2.own
        have hszX := h2.szX
        have hszY := h2.szY
        have H2 := Lib.hid h2
        clear h2 hA hA2 hxV hyV hpair
        refine wpIn_block ?_
        refine region_round (S := fun X => X.cell? ⟨bX, 0, none⟩ = some (.pointer (some ⟨x.b, x.o, none⟩)) ∧ X.cell? ⟨bY, 0, none⟩ = some (.pointer (some ⟨y.b, y.o, none⟩)) ∧ X.cell? ⟨x.b, x.o + 5, none⟩ = some (.slice (some ⟨x.d.kb, x.d.ko, none⟩) x.k.len x.d.lcap) ∧ X.cell? ⟨y.b, y.o + 5, none⟩ = some (.slice (some ⟨y.d.kb, y.d.ko, none⟩) y.k.len y.d.lcap)) (by kernel_rfl) (by kernel_rfl) (fun ⟨_, _, h⟩ => h) ⟨c0, c1, cl, cl2⟩ (fun hHeld => ?_)
        refine wpAnyH_take (i := 0) (v := ?_) rfl (by kernel_rfl) (by kernel_rfl) (by kernel_rfl) (fun _ _ _ h => h) (Or.inl ⟨by rfl, ?_⟩) (by assumption) ?_
        rotate_left
        · intro w hSw
          (try dsimp only at hSw)
          go_simp
          all_goals with_reducible rfl
        try simp only [Act.put, List.setIfInBounds_toArray, List.set_cons_zero, List.set_cons_succ]
        refine wpAnyH_take (i := 1) (v := ?_) rfl (by kernel_rfl) (by kernel_rfl) (by kernel_rfl) (fun _ _ _ h => h) (Or.inl ⟨by rfl, ?_⟩) (by assumption) ?_
        rotate_left
        · intro w hSw
          (try dsimp only at hSw)
          go_simp
          all_goals with_reducible rfl
        try simp only [Act.put, List.setIfInBounds_toArray, List.set_cons_zero, List.set_cons_succ]
        refine wpAnyH_take (i := 2) (v := ?_) rfl (by kernel_rfl) (by kernel_rfl) (by kernel_rfl) (fun _ _ _ h => h) (Or.inl ⟨by rfl, ?_⟩) (by assumption) ?_
        rotate_left
        · intro w hSw
          (try dsimp only at hSw)
          go_simp
          all_goals with_reducible rfl
        try simp only [Act.put, List.setIfInBounds_toArray, List.set_cons_zero, List.set_cons_succ]
        refine wpAnyH_take (i := 3) (v := ?_) rfl (by kernel_rfl) (by kernel_rfl) (by kernel_rfl) (fun _ _ _ h => h) (Or.inl ⟨by rfl, ?_⟩) (by assumption) ?_
        rotate_left
        · intro w hSw
          (try dsimp only at hSw)
          go_simp
          all_goals with_reducible rfl
        try simp only [Act.put, List.setIfInBounds_toArray, List.set_cons_zero, List.set_cons_succ]
        refine wpAnyH_take (i := 4) (v := ?_) rfl (by kernel_rfl) (by kernel_rfl) (by kernel_rfl) (fun _ _ _ h => h) (Or.inl ⟨by rfl, ?_⟩) (by assumption) ?_
        rotate_left
        · intro w hSw
          (try dsimp only at hSw)
          go_simp
          all_goals with_reducible rfl
        try simp only [Act.put, List.setIfInBounds_toArray, List.set_cons_zero, List.set_cons_succ]
        refine wpAnyH_take (i := 5) (v := ?_) rfl (by kernel_rfl) (by kernel_rfl) (by kernel_rfl) (fun _ _ _ h => h) (Or.inl ⟨by rfl, ?_⟩) (by assumption) ?_
        rotate_left
        · intro w hSw
          (try dsimp only at hSw)
          go_simp
          all_goals with_reducible rfl
        try simp only [Act.put, List.setIfInBounds_toArray, List.set_cons_zero, List.set_cons_succ]
        refine wpAnyH_take (i := 6) (v := ?_) rfl (by kernel_rfl) (by kernel_rfl) (by kernel_rfl) (fun _ _ _ h => h) (Or.inl ⟨by rfl, ?_⟩) (by assumption) ?_
        rotate_left
        · intro w hSw
          (try dsimp only at hSw)
          go_simp
          all_goals with_reducible rfl
        try simp only [Act.put, List.setIfInBounds_toArray, List.set_cons_zero, List.set_cons_succ]
        refine wpAnyH_take (i := 7) (v := ?_) rfl (by kernel_rfl) (by kernel_rfl) (by kernel_rfl) (fun _ _ _ h => h) (Or.inl ⟨by rfl, ?_⟩) (by assumption) ?_
        rotate_left
        · intro w hSw
          (try dsimp only at hSw)
          go_simp
          all_goals with_reducible rfl
        try simp only [Act.put, List.setIfInBounds_toArray, List.set_cons_zero, List.set_cons_succ]
        refine wpAnyH_take (i := 8) (v := ?_) rfl (by kernel_rfl) (by kernel_rfl) (by kernel_rfl) (fun _ _ _ h => h) (Or.inl ⟨by rfl, ?_⟩) (by assumption) ?_
        rotate_left
        · intro w hSw
          (try dsimp only at hSw)
          go_simp
          all_goals with_reducible rfl
        try simp only [Act.put, List.setIfInBounds_toArray, List.set_cons_zero, List.set_cons_succ]
        refine wpAnyH_take (i := 9) (v := ?_) rfl (by kernel_rfl) (by kernel_rfl) (by kernel_rfl) (fun _ _ _ h => h) (Or.inl ⟨by rfl, ?_⟩) (by assumption) ?_
        rotate_left
        · intro w hSw
          (try dsimp only at hSw)
          go_simp
          all_goals with_reducible rfl
        try simp only [Act.put, List.setIfInBounds_toArray, List.set_cons_zero, List.set_cons_succ]
        refine wpAnyH_take (i := 10) (v := ?_) rfl (by kernel_rfl) (by kernel_rfl) (by kernel_rfl) (fun _ _ _ h => h) (Or.inl ⟨by rfl, ?_⟩) (by assumption) ?_
        rotate_left
        · intro w hSw
          (try dsimp only at hSw)
          go_simp
          all_goals with_reducible rfl
        try simp only [Act.put, List.setIfInBounds_toArray, List.set_cons_zero, List.set_cons_succ]
        refine wpAnyH_take (i := 11) (v := ?_) rfl (by kernel_rfl) (by kernel_rfl) (by kernel_rfl) (fun _ _ _ h => h) (Or.inl ⟨by rfl, ?_⟩) (by assumption) ?_
        rotate_left
        · intro w hSw
          (try dsimp only at hSw)
          go_simp
          all_goals with_reducible rfl
        try simp only [Act.put, List.setIfInBounds_toArray, List.set_cons_zero, List.set_cons_succ]
        refine wpAnyH_take (i := 12) (v := ?_) rfl (by kernel_rfl) (by kernel_rfl) (by kernel_rfl) (fun _ _ _ h => h) (Or.inl ⟨by rfl, ?_⟩) (by assumption) ?_
        rotate_left
        · intro w hSw
          (try dsimp only at hSw)
          go_simp
          all_goals with_reducible rfl
        try simp only [Act.put, List.setIfInBounds_toArray, List.set_cons_zero, List.set_cons_succ]
        refine wpAnyH_ready (rs := [13]) (by kernel_rfl) (by simp) ?_
        refine AllReadyH.cons rfl (fun K hK => ?_) AllReadyH.nil
        go_simp
        go_at_call 39
        with_reducible refine (HPT.out).mono ?_
        rintro z V5 ⟨⟨v5, rfl⟩, A5, cap5, hp⟩
        go_wp2_with fail
        have hkp5 : Keep (fun k => k ≠ w.heap.size + 1 + 1 + 1 ∧ some k ≠ some g') V V5 := ((Keep.refl _ _).drew).trans hp.keep
        refine hK.out _ _ ⟨hkp5.cell (p := ⟨bX, 0, none⟩) ⟨by show bX ≠ _; omega, hnX⟩ hHeld.1, hkp5.cell (p := ⟨bY, 0, none⟩) ⟨by show bY ≠ _; omega, hnY⟩ hHeld.2.1, hkp5.cell (p := ⟨x.b, x.o + 5, none⟩) ⟨by show x.b ≠ _; omega, by simp; omega⟩ hHeld.2.2.1, hkp5.cell (p := ⟨y.b, y.o + 5, none⟩) ⟨by show y.b ≠ _; omega, by simp; omega⟩ hHeld.2.2.2⟩ (fun hH2 => ?_)
        clear hK K hH2
        refine wpAnyH_done (by kernel_rfl) ?_ _
        obtain ⟨g5, rfl, hg5⟩ : ∃ g5, A5 = some ⟨g5, 0, none⟩ ∧ (g5 = g' ∨ V.heap.size ≤ g5) := by
          rcases hp.lies with e5 | ⟨g5, e5, h5⟩
          · exact ⟨g', e5, .inl rfl⟩
          · exact ⟨g5, e5, .inr h5⟩
        have hB1 := (Array.getElem?_eq_some_iff.1 hBL).1
        refine ⟨hkp5.book ⟨by omega, by simp; omega⟩ ⟨by omega, by simp; omega⟩ hB1, trivial, i, g5, cap5, n' + 1, by simp; omega, ?_⟩
        have h2 := H2.out
        refine ⟨h2.keep.trans (hkp5.mono (fun k _ hk => ⟨by omega, by simp; omega⟩)), h2.szX, h2.szY, hkp5.heap ⟨by omega, hnX⟩ h2.bx, hkp5.heap ⟨by omega, hnY⟩ h2.by', ?_, hp.box, ?_, h2.marks.keep hkp5 (fun D hD => ⟨?_, ?_⟩)⟩
        · rw [HIDR.out, List.cons_append, List.length_cons, ← h2.len]
        · rw [HIDR.out, List.cons_append]
          exact hp.own
        · rintro rfl
          have e1 := h2.marks.at' _ hD
          rw [show V.heap[w.heap.size + 1 + 1 + 1]? = _ from h2.box] at e1
          cases e1
        · intro e1
          injection e1 with e1
          exact own_not h2.own (h2.marks.at' _ hD) rfl e1.symm
end Go.Proofs.YtkffojipgphneaaDoor
