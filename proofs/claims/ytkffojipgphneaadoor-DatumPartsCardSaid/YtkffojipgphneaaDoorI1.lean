/- datum.Items. -/
import Derived.Test.YtkffojipgphneaaDoorL2
import Derived.Deep.LoopGhost
set_option linter.unusedVariables false
set_option linter.unusedSimpArgs false
namespace Go.Proofs.YtkffojipgphneaaDoor
open Go Go.RowKit
def ptrs (l : List El) : List Value := l.map fun x => .pointer (some ⟨x.b, x.o, none⟩)
def isP (d : D) (f : F) : Bool := decide (d.k = 7 ∧ f.len = 2)
def carsE : D → F → List El
  | d, .cons d0 k0 (.cons d1 k1 .nil) => if d.k = 7 then ⟨d.kb, d.ko, 0, d0, k0⟩ :: carsE d1 k1 else []
  | _, _ => []
def endK : D → F → Int
  | d, .cons _ _ (.cons d1 k1 .nil) => if d.k = 7 then endK d1 k1 else d.k
  | d, _ => d.k
theorem F.two_of {f : F} (h : f.len = 2) : ∃ d0 k0 d1 k1, f = .cons d0 k0 (.cons d1 k1 .nil) := by
  rcases f with _ | ⟨d0, k0, _ | ⟨d1, k1, _ | ⟨d2, k2, r⟩⟩⟩
  · simp [F.len] at h
  · simp [F.len] at h
  · exact ⟨d0, k0, d1, k1, rfl⟩
  · simp [F.len] at h
theorem cars_not {d : D} {f : F} (h : ¬ (d.k = 7 ∧ f.len = 2)) : carsE d f = [] ∧ endK d f = d.k := by
  rcases f with _ | ⟨d0, k0, _ | ⟨d1, k1, _ | ⟨d2, k2, r⟩⟩⟩
  · simp [carsE, endK]
  · simp [carsE, endK]
  · have : d.k ≠ 7 := fun e => h ⟨e, rfl⟩
    simp [carsE, endK, this]
  · simp [carsE, endK]
def F.snoc : F → D → F → F
  | .nil, d, k => .cons d k .nil
  | .cons e g r, d, k => .cons e g (r.snoc d k)
theorem F.snoc_len (f : F) (d : D) (k : F) : (f.snoc d k).len = f.len + 1 := by
  induction f with
  | nil => rfl
  | cons e g r _ ih => simp [F.snoc, F.len, ih]
theorem F.snoc_cells (f : F) (d : D) (k : F) : (f.snoc d k).cells = f.cells ++ [.int .i64 d.k, .int .i32 d.c, .bool d.neg, .slice d.mA d.mag.length d.mcap, .string d.t, .slice d.lA k.len d.lcap] := by
  induction f with
  | nil => rfl
  | cons e g r _ ih => simp [F.snoc, F.cells, ih]
theorem F.snoc_nth (f : F) (d : D) (k : F) : ∀ i, (f.snoc d k).nthD i = (if i < f.len then f.nthD i else if i = f.len then d else D.zero) ∧ (f.snoc d k).nthK i = (if i < f.len then f.nthK i else if i = f.len then k else .nil) := by
  induction f with
  | nil => intro i; cases i <;> simp [F.snoc, F.nthD, F.nthK, F.len]
  | cons e g r _ ih =>
    intro i
    cases i with
    | zero => simp [F.snoc, F.nthD, F.nthK, F.len]
    | succ i =>
      have := ih i
      simp only [F.snoc, F.nthD, F.nthK, F.len, Nat.add_lt_add_iff_right, Nat.add_right_cancel_iff]
      exact this
theorem same_snoc : ∀ (f g : F) (d : D) (k : F) (d' : D) (k' : F), sameF f g = true → sameD d k d' k' = true → sameF (f.snoc d k) (g.snoc d' k') = true := by
  intro f
  induction f with
  | nil =>
    intro g d k d' k' h1 h2
    cases g with
    | nil => simpa [F.snoc, sameF, sameD] using h2
    | cons e g r => simp [sameF] at h1
  | cons e g r _ ih =>
    intro g2 d k d' k' h1 h2
    cases g2 with
    | nil => simp [sameF] at h1
    | cons e' g' r' =>
      simp only [sameF, Bool.and_eq_true, F.snoc] at h1 ⊢
      exact ⟨h1.1, ih _ _ _ _ _ h1.2 h2⟩
theorem AtF.of_items {G : Nat → Prop} {w : World} {b : Nat} (hb : G b) : ∀ (f : F) (o : Nat), (∀ i, i < f.len → Node w b (o + i * 6) (f.nthD i) (f.nthK i).len ∧ Val G w (f.nthD i) (f.nthK i)) → AtF G w f b o := by
  intro f
  induction f with
  | nil => exact fun _ _ => trivial
  | cons d k r _ ih =>
    intro o h
    have h0 := h 0 (by simp [F.len])
    simp only [F.nthD, F.nthK, Nat.zero_mul, Nat.add_zero] at h0
    refine ⟨⟨hb, h0.1, h0.2.ok, h0.2.mag, h0.2.kids⟩, ih (o + 6) (fun i hi => ?_)⟩
    have := h (i + 1) (by simp [F.len]; omega)
    simp only [F.nthD, F.nthK] at this
    rw [show o + 6 + i * 6 = o + (i + 1) * 6 by omega]
    exact this
def forest : List El → F
  | [] => .nil
  | x :: l => .cons x.d x.k (forest l)
theorem MagAt.lt {G : Nat → Prop} {w : World} {A : Option Addr} {xs : List Nat} (h : MagAt G w A xs) : MagAt (fun k => G k ∧ k < w.heap.size) w A xs := fun i hi => by
  obtain ⟨ad, e, g, hc⟩ := h i hi
  exact ⟨ad, e, ⟨g, by have := cell_lt hc; rwa [add_block] at this⟩, hc⟩
theorem AtF.lt {G : Nat → Prop} {w : World} : ∀ (f : F) (b o : Nat), AtF G w f b o → AtF (fun k => G k ∧ k < w.heap.size) w f b o := by
  intro f
  induction f with
  | nil => exact fun _ _ _ => trivial
  | cons d k r ihk ihr => exact fun b o ⟨⟨g, hn, ho, hm, hk'⟩, hr⟩ => ⟨⟨⟨g, cell_lt hn.k⟩, hn, ho, hm.lt, ihk _ _ hk'⟩, ihr _ _ hr⟩
theorem Val.lt {G : Nat → Prop} {w : World} {d : D} {f : F} (h : Val G w d f) : Val (fun k => G k ∧ k < w.heap.size) w d f := ⟨h.ok, h.mag.lt, AtF.lt _ _ _ h.kids⟩
theorem six_at {w : World} {b : Nat} {a0 a1 a2 a3 a4 a5 : Value} {t : TypeId} (h : w.heap[b]? = some (.cells #[a0, a1, a2, a3, a4, a5] t (0, 0))) : ∀ j u, ([a0, a1, a2, a3, a4, a5] : List Value)[j]? = some u → w.cell? ((⟨b, 0, none⟩ : Addr).add j) = some u := by
  intro j u hj
  rw [add_none, Nat.zero_add]
  simp only [World.cell?, h]
  simpa using hj
theorem own_blk (A : Option Addr) (n c m c' : Nat) : (Value.slice A n c).ownBlock = (Value.slice A m c').ownBlock := by cases A <;> rfl
structure IInv (V : World) (cars : List El) (j : Nat) (A : Option Addr) (cap : Nat) (fl : F) (X : World) : Prop where
  keep : Keep (fun k => k < V.heap.size) V X
  own : X.ownsRow V.heap.size 27 6 (.slice A j cap) j fl.cells
  len : fl.len = j
  vals : ∀ i, i < fl.len → Val (fun k => V.heap.size ≤ k ∧ k < X.heap.size ∧ some k ≠ (Value.slice A j cap).ownBlock) X (fl.nthD i) (fl.nthK i)
  same : sameF (forest (cars.take j)) fl = true
structure CInv (w : World) (d : D) (f : F) (dc : D) (fc : F) (done : List El) (A : Option Addr) (n cap : Nat) (V : World) : Prop where
  var : V.heap[w.heap.size]? = some (six dc fc.len)
  keep : Keep (fun k => k < w.heap.size) w V
  val : Val (fun k => k < w.heap.size) w dc fc
  own : V.ownsRow (w.heap.size + 1) 50 1 (.slice A n cap) n (ptrs done)
  len : done.length = n
  els : ∀ x ∈ done, ElAt (fun k => k < w.heap.size) w x ∧ x.k.cnt ≤ 180000
  eq : done ++ carsE dc fc = carsE d f
  endk : endK dc fc = endK d f
  cnt : n + fc.cnt ≤ 180000
theorem forest_snoc (l : List El) (x : El) : forest (l ++ [x]) = (forest l).snoc x.d x.k := by
  induction l with
  | nil => rfl
  | cons y l ih => simp [forest, F.snoc, ih]
def ItemsSaid (d : D) (f : F) (w : World) (e : Ending) (w' : World) : Prop :=
  (endK d f ≠ 0 ∧ e = .returned (.tuple #[.slice none 0 0, .bool false]) ∧ Below w.heap.size w w') ∨
  (endK d f = 0 ∧ ∃ (A : Option Addr) (b o c : Nat) (fl : F), e = .returned (.tuple #[.slice A fl.len c, .bool true]) ∧ (0 < fl.len → A = some ⟨b, o, none⟩) ∧ AtF (fun k => w.heap.size ≤ k) w' fl b o ∧ sameF (forest (carsE d f)) fl = true ∧ fl.len ≤ c ∧ Below w.heap.size w w')
set_option maxRecDepth 100000 in
set_option maxHeartbeats 4000000 in
theorem items_any (d : D) (f : F) (w : World) (h : Val (fun k => k < w.heap.size) w d f) (hc : f.cnt ≤ 180000) :
    Calls Tryd.prog 28 #[.agg #[.int .i64 d.k, .int .i32 d.c, .bool d.neg, .slice d.mA d.mag.length d.mcap, .string d.t, .slice d.lA f.len d.lcap]] w (ItemsSaid d f w) := by
  have hx0 : (w.alloc (six d f.len)).heap[w.heap.size]? = some (six d f.len) := heap_alloc_new _ _
  obtain ⟨W, hW⟩ : ∃ W, W = w.alloc (six d f.len) := ⟨_, rfl⟩
  have hI0 : CInv w d f d f [] none 0 0 W := by
    rw [hW]
    exact ⟨hx0, (Keep.refl _ _).alloc _, h, World.ownsRow_nil _ _ _ _, rfl, by simp, by simp, rfl, by omega⟩
  have HW := Lib.hid hW
  clear hW hx0
  go_enter Tryd.func28, Tryd.ntmps28
  go_wp2
  rw [show w.alloc (.cells #[.int .i64 d.k, .int .i32 d.c, .bool d.neg, .slice d.mA d.mag.length d.mcap, .string d.t, .slice d.lA f.len d.lcap] 27) = W from HW.out.symm]
  go_loopg [4] (f.cnt + 1) (fun gk s wr => ∃ (dc : D) (fc : F) (done : List El) (A : Option Addr) (n cap : Nat), s = .slice A n cap ∧ fc.cnt < gk ∧ Hid (CInv w d f dc fc done A n cap wr))
  case atStart => exact ⟨d, f, [], none, 0, 0, rfl, by omega, Lib.hid hI0⟩
  case round =>
    obtain ⟨dc, fc, done, A, n, cap, rfl, hg, hI⟩ := hrel
    have hI' := hI.out
    by_cases hp : dc.k = 7 ∧ fc.len = 2
    · obtain ⟨hk7, hl2⟩ := hp
      obtain ⟨d0, k0, d1, k1, rfl⟩ := F.two_of hl2
      obtain ⟨kk, cc, ng, mA, mag, mcap, tt, lA, lcap⟩ := dc
      simp only [] at hk7
      subst hk7
      have hlA := hI'.val.ok.kids (by simp [F.len])
      have hkids := hI'.val.kids
      obtain ⟨kb, hkb⟩ : ∃ kb, kb = (D.mk 7 cc ng mA mag mcap tt lA lcap).kb := ⟨_, rfl⟩
      obtain ⟨ko, hko⟩ : ∃ ko, ko = (D.mk 7 cc ng mA mag mcap tt lA lcap).ko := ⟨_, rfl⟩
      rw [← hkb, ← hko] at hlA hkids
      simp only [] at hlA
      subst hlA
      clear hkb hko
      obtain ⟨⟨g0, nd0, ok0, mg0, at0⟩, ⟨g1, nd1, ok1, mg1, at1⟩, _⟩ := hkids
      obtain ⟨V, hV⟩ : ∃ V, V = wr := ⟨_, rfl⟩
      rw [← hV] at hI hI' ⊢
      clear hV
      have nd := Node.of_six hI'.var
      have n1 := nd.k
      have n6 := nd.l
      simp only [Nat.zero_add, F.len] at n1 n6
      have hlt := (Array.getElem?_eq_some_iff.1 hI'.var).1
      obtain ⟨gk', rfl⟩ : ∃ g', gk = g' + 1 := ⟨gk - 1, by omega⟩
      obtain ⟨X, hX⟩ : ∃ X, X = V.alloc (.cells #[.pointer (some ⟨kb, ko, none⟩)] 50) := ⟨_, rfl⟩
      have kX : Keep (fun _ => True) V X := by rw [hX]; exact (Keep.refl _ _).alloc _
      have oX : X.ownsRow (w.heap.size + 1) 50 1 (.slice A n cap) n (ptrs done) := by rw [hX]; exact hI'.own.alloc _
      have xX : X.heap[V.heap.size]? = some (.cells #[.pointer (some ⟨kb, ko, none⟩)] 50) := by rw [hX]; exact heap_alloc_new _ _
      have nN : ∀ j u, ([.pointer (some ⟨kb, ko, none⟩)] : List Value)[j]? = some u → X.cell? ((⟨V.heap.size, 0, none⟩ : Addr).add j) = some u := by
        intro j u hj
        have hj' : j < 1 := by
          have := (List.getElem?_eq_some_iff.1 hj).1
          simpa using this
        rw [add_none, Nat.zero_add]
        simp only [World.cell?, xX]
        simpa using hj
      have oneN : ∀ u ∈ ([.pointer (some ⟨kb, ko, none⟩)] : List Value), u.oneCell' = true := by simp [Value.oneCell']
      have hbX : w.heap.size + 1 ≤ X.heap.size := by have := kX.size; omega
      have hncnt := hI'.cnt
      have HX := Lib.hid hX
      have HN1 := Lib.hid nd1
      have HIV := Lib.hid hI'.var
      have HIK := Lib.hid hI'.keep
      clear hI' hX nd
      have FX := Lib.hid (fun (w1 : World) (hg : X.grownBy w1 (Value.slice A n cap).ownBlock) => show Keep (fun k => k < w.heap.size + 1) V w1 from ((kX.mono (fun _ _ _ => trivial)).grown hg (fun k e => .inl (by have := (oX.lt k e).1; omega))))
      go_wp2_with ((at_builtin; rw [← show X = _ from HX.out]; refine wl_put 71 50 _ 1 8 Tryd.underlying71 info50 (by decide) (by decide) (by decide) _ rfl _ _ rfl (w.heap.size + 1) A n cap (ptrs done) (by rfl) oX ⟨V.heap.size, 0, none⟩ 1 1 [.pointer (some ⟨kb, ko, none⟩)] (by rfl) (by simp) (by decide) nN oneN (by omega) hbX ?_; intro A' cap' w1 ho hgw hl; have hv1 : w1.heap[w.heap.size]? = some (.cells #[.int .i64 7, .int .i32 cc, .bool ng, .slice mA mag.length mcap, .string tt, .slice (some ⟨kb, ko, none⟩) 2 lcap] 27 (0, 0)) := (FX.out w1 hgw).heap (by omega) HIV.out; have z0 : w1.cell? ⟨w.heap.size, 0, none⟩ = some (.int .i64 7) := (by simp [World.cell?, hv1]); have y0 : w1.frozen? ⟨w.heap.size, 0, none⟩ = false := (by simp [World.frozen?, hv1]); have z1 : w1.cell? ⟨w.heap.size, 1, none⟩ = some (.int .i32 cc) := (by simp [World.cell?, hv1]); have y1 : w1.frozen? ⟨w.heap.size, 1, none⟩ = false := (by simp [World.frozen?, hv1]); have z2 : w1.cell? ⟨w.heap.size, 2, none⟩ = some (.bool ng) := (by simp [World.cell?, hv1]); have y2 : w1.frozen? ⟨w.heap.size, 2, none⟩ = false := (by simp [World.frozen?, hv1]); have z3 : w1.cell? ⟨w.heap.size, 3, none⟩ = some (.slice mA mag.length mcap) := (by simp [World.cell?, hv1]); have y3 : w1.frozen? ⟨w.heap.size, 3, none⟩ = false := (by simp [World.frozen?, hv1]); have z4 : w1.cell? ⟨w.heap.size, 4, none⟩ = some (.string tt) := (by simp [World.cell?, hv1]); have y4 : w1.frozen? ⟨w.heap.size, 4, none⟩ = false := (by simp [World.frozen?, hv1]); have z5 : w1.cell? ⟨w.heap.size, 5, none⟩ = some (.slice (some ⟨kb, ko, none⟩) 2 lcap) := (by simp [World.cell?, hv1]); have y5 : w1.frozen? ⟨w.heap.size, 5, none⟩ = false := (by simp [World.frozen?, hv1]); have nq := HN1.out.keep g1 (HIK.out.trans ((FX.out w1 hgw).mono (fun k _ hk => Nat.lt_succ_of_lt hk))); have ⟨q0, q1, q2, q3, q4, q5⟩ := nq; simp only [Nat.add_assoc, Nat.reduceAdd] at q0 q1 q2 q3 q4 q5; clear nq))
      have hkp : Keep (fun k => k ≠ w.heap.size) w1 ((((((w1.setCell ⟨w.heap.size, 0, none⟩ (.int .i64 d1.k)).setCell ⟨w.heap.size, 1, none⟩ (.int .i32 d1.c)).setCell ⟨w.heap.size, 2, none⟩ (.bool d1.neg)).setCell ⟨w.heap.size, 3, none⟩ (.slice d1.mA d1.mag.length d1.mcap)).setCell ⟨w.heap.size, 4, none⟩ (.string d1.t)).setCell ⟨w.heap.size, 5, none⟩ (.slice d1.lA k1.len d1.lcap)) := (((((((Keep.refl _ _).setCell (p := ⟨w.heap.size, 0, none⟩) _ (.inl (by simp))).setCell (p := ⟨w.heap.size, 1, none⟩) _ (.inl (by simp))).setCell (p := ⟨w.heap.size, 2, none⟩) _ (.inl (by simp))).setCell (p := ⟨w.heap.size, 3, none⟩) _ (.inl (by simp))).setCell (p := ⟨w.heap.size, 4, none⟩) _ (.inl (by simp))).setCell (p := ⟨w.heap.size, 5, none⟩) _ (.inl (by simp)))
      have hsix := set_six hv1 (.int .i64 d1.k) (.int .i32 d1.c) (.bool d1.neg) (.slice d1.mA d1.mag.length d1.mcap) (.string d1.t) (.slice d1.lA k1.len d1.lcap)
      generalize ((((((w1.setCell ⟨w.heap.size, 0, none⟩ (.int .i64 d1.k)).setCell ⟨w.heap.size, 1, none⟩ (.int .i32 d1.c)).setCell ⟨w.heap.size, 2, none⟩ (.bool d1.neg)).setCell ⟨w.heap.size, 3, none⟩ (.slice d1.mA d1.mag.length d1.mcap)).setCell ⟨w.heap.size, 4, none⟩ (.string d1.t)).setCell ⟨w.heap.size, 5, none⟩ (.slice d1.lA k1.len d1.lcap)) = X6 at *
      have hkw : Keep (fun k => k < w.heap.size) w w1 := HIK.out.trans ((FX.out w1 hgw).mono (fun k _ hk => Nat.lt_succ_of_lt hk))
      go_roundg gk'
      case rel =>
        refine ⟨d1, k1, done ++ [⟨kb, ko, 0, d0, k0⟩], A', n + 1, cap', rfl, by simp only [F.cnt] at *; omega, Lib.hid ⟨hsix, hkw.trans (hkp.mono (fun k _ hk => by have hk2 : k < w.heap.size := hk; show k ≠ _; omega)), ⟨ok1, mg1, at1⟩, ?_, by simp [hI.out.len], ?_, ?_, ?_, by have := hI.out.cnt; simp only [F.cnt] at *; omega⟩⟩
        · have e : ptrs (done ++ [⟨kb, ko, 0, d0, k0⟩]) = ptrs done ++ [.pointer (some ⟨kb, ko, none⟩)] := by simp [ptrs]
          rw [e]
          refine own_keep1 ho ?_
          intro g hg' o hob
          exact hkp.heap (by have := (ho.lt g hg').1; show g ≠ _; omega) hob
        · intro x hx
          rcases List.mem_append.1 hx with hx | hx
          · exact hI.out.els x hx
          · rw [List.mem_singleton] at hx
            subst hx
            exact ⟨⟨g0, nd0, ok0, mg0, at0⟩, by have := hI.out.cnt; simp only [F.cnt] at this ⊢; omega⟩
        · have := hI.out.eq
          rw [← this]
          simp [carsE, D.kb, D.ko]
        · have := hI.out.endk
          rw [← this]
          simp [endK]
      case measure => omega
    · obtain ⟨hcE, hcK⟩ := cars_not hp
      have hdone : done = carsE d f := by rw [← hI'.eq, hcE, List.append_nil]
      have hend : endK d f = dc.k := by rw [← hI'.endk, hcK]
      have hbV : Below w.heap.size w wr := hI'.keep.below (Nat.le_refl _) (fun k hk => hk)
      have nd := Node.of_six hI'.var
      have n1 := nd.k
      have n6 := nd.l
      simp only [Nat.zero_add] at n1 n6
      have hl : fc.len ≤ 140737488355328 := hI'.val.ok.kidc
      obtain ⟨V, hV⟩ : ∃ V, V = wr := ⟨_, rfl⟩
      rw [← hV] at hI hI' n1 n6 hbV ⊢
      clear hV
      obtain ⟨dk, hdk⟩ : ∃ dk, dk = dc.k := ⟨_, rfl⟩
      obtain ⟨fm, hfm⟩ : ∃ fm, fm = fc.len := ⟨_, rfl⟩
      rw [← hdk] at hp n1 hend
      rw [← hfm] at hp n6 hl
      clear nd hI'
      by_cases h0 : dk = 0
      · subst h0
        have HEX := Lib.hid (fun (A2 : Option Addr) (cap2 : Nat) (fl : F) (X : World) (hX : IInv V (carsE d f) n A2 cap2 fl X) => show ItemsSaid d f w (.returned (.tuple #[.slice A2 n cap2, .bool true])) X from by
          have hn : (carsE d f).take n = carsE d f := by rw [← hdone, ← hI.out.len, List.take_length]
          have hbX : Below w.heap.size w X := hbV.trans (hX.keep.below hbV.size (fun k hk => Nat.lt_of_lt_of_le hk hbV.size))
          have hsz := hbV.size
          rw [← hX.len] at *
          have hcap := own_capb hX.own
          have hsm := hX.same
          rw [hn] at hsm
          rcases hX.own.2 with ⟨hv, hnil⟩ | ⟨g, cap', cur, hv, hg, hh, hrest⟩
          · have h00 : fl.len = 0 := by injection hv
            have : fl = .nil := by cases fl with
              | nil => rfl
              | cons _ _ _ => simp [F.len] at h00
            subst this
            exact .inr ⟨hend, A2, 0, 0, cap2, .nil, rfl, fun h => by simp [F.len] at h, trivial, hsm, hcap, hbX⟩
          · have hA : A2 = some ⟨g, 0, none⟩ := by injection hv
            subst hA
            exact .inr ⟨hend, _, g, 0, cap2, fl, rfl, fun _ => rfl, AtF.of_items (by omega) fl 0 (fun i hi => ⟨by rw [Nat.zero_add]; exact own_node hX.own hi, (hX.vals i hi).mono (fun k hk => by have := hk.1; omega)⟩), hsm, hcap, hbX⟩)
        have hown := hI.out.own
        have hlen := hI.out.len
        have hcn := hI.out.cnt
        have HEL := Lib.hid (fun x (hx : x ∈ done) (X : World) (hX : Keep (fun k => k < V.heap.size) V X) => (hI.out.els x hx).1.keep ((hI.out.keep).trans (hX.mono (fun k _ hk => Nat.lt_of_lt_of_le hk hbV.size))))
        rw [← hdone] at HEX
        have HCN := Lib.hid (fun x (hx : x ∈ done) => (hI.out.els x hx).2)
        have HDN := Lib.hid hdone
        clear hp hend hdone hdk hfm hI h hI0 HW
        go_wp2_with fail
        go_loopw [5, 32] (fun s i X => ∃ (j : Nat) (A2 : Option Addr) (cap2 : Nat) (fl : F), i = .int .i64 (j : Nat) ∧ j ≤ n ∧ s = .slice A2 j cap2 ∧ Hid (IInv V done j A2 cap2 fl X)) (fun _ i _ => n - (intOf i).toNat)
        case atStart => exact ⟨0, none, 0, .nil, rfl, Nat.zero_le _, rfl, Lib.hid ⟨Keep.refl _ _, World.ownsRow_nil _ _ _ _, rfl, fun i hi => by simp [F.len] at hi, by simp [forest, sameF]⟩⟩
        case round =>
          obtain ⟨j, A2, cap2, fl, rfl, hj, rfl, hJ⟩ := hrel
          by_cases hlt : j < n
          · obtain ⟨X, hXw⟩ : ∃ X, X = wr := ⟨_, rfl⟩
            rw [← hXw] at hJ ⊢
            clear hXw
            have hlt1 : V.heap.size ≤ X.heap.size := hJ.out.keep.size
            have oX : X.ownsRow (w.heap.size + 1) 50 1 (.slice A n cap) n (ptrs done) := own_keep1 hown (fun g hg o ho => hJ.out.keep.heap (hown.lt g hg).2 ho)
            obtain ⟨ga, hA⟩ : ∃ ga, A = some ⟨ga, 0, none⟩ := by
              rcases oX.2 with ⟨hv, hnil⟩ | ⟨g, cap', cur, hv, hg, hh, hrest⟩
              · have : n = 0 := by injection hv
                omega
              · exact ⟨g, by injection hv⟩
            subst hA
            obtain ⟨x, hx⟩ : ∃ x, x = done[j]'(by omega) := ⟨_, rfl⟩
            have hxm : x ∈ done := by rw [hx]; exact List.getElem_mem _
            have hcell : X.cell? ⟨ga, j, none⟩ = some (.pointer (some ⟨x.b, x.o, none⟩)) := by
              rw [oX.cellAt j (by omega), ptrs, List.getElem?_map, List.getElem?_eq_getElem (by omega), hx]
              rfl
            have hXE := HEL.out x hxm X hJ.out.keep
            have ⟨q0, q1, q2, q3, q4, q5⟩ := hXE.node
            have hsz0 := hbV.size
            have HC := Lib.hid (fresh_any x.d x.k X (hXE.val.mono (fun k hk => by have hk2 : k < w.heap.size := hk; omega)) (by have := HCN.out x hxm; omega))
            have HTK := Lib.hid (show done.take (j + 1) = done.take j ++ [x] by rw [hx, List.take_succ_eq_append_getElem (by omega)])
            have oI := hJ.out.own
            clear hx hXE oX hown
            go_wp2_with (first
              | (go_at_call 45; refine (HC.out).mono ?_; rintro e X1 ⟨d', f', rfl, hfl, hvv, hss, hbb⟩; clear hfl)
              | (at_builtin; obtain ⟨N, hN⟩ : ∃ N, N = X1.alloc (.cells #[.int .i64 d'.k, .int .i32 d'.c, .bool d'.neg, .slice d'.mA d'.mag.length d'.mcap, .string d'.t, .slice d'.lA f'.len d'.lcap] 27) := ⟨_, rfl⟩; rw [← hN]; have xN : N.heap[X1.heap.size]? = some (.cells #[.int .i64 d'.k, .int .i32 d'.c, .bool d'.neg, .slice d'.mA d'.mag.length d'.mcap, .string d'.t, .slice d'.lA f'.len d'.lcap] 27 (0, 0)) := (by rw [hN]; exact heap_alloc_new _ _); have kN : Keep (fun _ => True) X1 N := (by rw [hN]; exact (Keep.refl _ _).alloc _); have kXN : Keep (fun _ => True) X N := (Keep.any hbb).trans kN; have oN : N.ownsRow V.heap.size 27 6 (.slice A2 j cap2) j fl.cells := own_keep1 oI (fun g hg o ho => kXN.heap trivial ho); have nN := six_at xN; have sN := kXN.size; have HN := Lib.hid hN; clear hN; refine wl_put 25 27 _ 6 88 Tryd.underlying25 info27 (by decide) (by decide) (by decide) _ rfl _ _ rfl V.heap.size A2 j cap2 fl.cells (by rfl) oN ⟨X1.heap.size, 0, none⟩ 1 1 [.int .i64 d'.k, .int .i32 d'.c, .bool d'.neg, .slice d'.mA d'.mag.length d'.mcap, .string d'.t, .slice d'.lA f'.len d'.lcap] (by rfl) (by rfl) (by decide) nN (by simp [Value.oneCell']) (by omega) (by omega) ?_; intro A' cap' w2 ho hgw hl'))
            have J := hJ.out
            have k2 : Keep (fun k => some k ≠ (Value.slice A2 j cap2).ownBlock) X w2 := (kXN.mono (fun _ _ _ => trivial)).grown hgw (fun k e => .inl (fun h => h e.symm))
            have kN2 : Keep (fun k => some k ≠ (Value.slice A2 j cap2).ownBlock) X1 w2 := (kN.mono (fun _ _ _ => trivial)).grown hgw (fun k e => .inl (fun h => h e.symm))
            have hs1 := hbb.size
            have hs2 := kN2.size
            refine ⟨⟨j + 1, A', cap', fl.snoc d' f', by go_num, by omega, rfl, Lib.hid ⟨?_, ?_, ?_, ?_, ?_⟩⟩, by simp [intOf]; omega⟩
            · exact J.keep.trans (k2.mono (fun k _ hk e => by have h1 := (J.own.lt k e.symm).1; have h2 : k < V.heap.size := hk; omega))
            · rw [F.snoc_cells]
              exact ho
            · rw [F.snoc_len, J.len]
            · intro i hi
              rw [F.snoc_len] at hi
              rw [(F.snoc_nth fl d' f' i).1, (F.snoc_nth fl d' f' i).2]
              by_cases hi2 : i < fl.len
              · rw [if_pos hi2, if_pos hi2]
                refine ((J.vals i hi2).keep (k2.mono (fun k _ hk => hk.2.2))).mono (fun k hk => ⟨hk.1, by have := k2.size; have := hk.2.1; omega, fun e => ?_⟩)
                rcases hl' with rfl | ⟨g, rfl, hg'⟩
                · exact hk.2.2 (e.trans (own_blk _ _ _ _ _))
                · have : k = g := by simpa [Value.ownBlock] using e
                  have := hk.2.1
                  omega
              · have hi3 : i = fl.len := by omega
                rw [if_neg hi2, if_neg hi2, if_pos hi3, if_pos hi3]
                have hne : ∀ k, X.heap.size ≤ k → some k ≠ (Value.slice A2 j cap2).ownBlock := fun k hk e => by have := (J.own.lt k e.symm).2; omega
                refine (hvv.lt.keep (kN2.mono (fun k _ hk => hne k hk.1))).mono (fun k hk => ⟨by have := hk.1; omega, by have := hk.2; omega, fun e => ?_⟩)
                have hkl := hk.1
                have hku := hk.2
                rcases hl' with rfl | ⟨g, rfl, hg'⟩
                · exact hne k hkl (e.trans (own_blk _ _ _ _ _))
                · have e1 : k = g := by simpa [Value.ownBlock] using e
                  have := kN.size
                  omega
            · rw [HTK.out, forest_snoc]
              exact same_snoc _ _ _ _ _ _ J.same hss
          · have ej : j = n := by omega
            subst ej
            go_wp2
            refine bodyPost_ret (results_tmp2 rfl _ _ _) rfl ?_
            exact HEX.out _ _ _ _ hJ.out
      · have HE := Lib.hid (show ItemsSaid d f w (.returned (.tuple #[.slice none 0 0, .bool false])) V from .inl ⟨by rw [hend]; exact h0, rfl, hbV⟩)
        have e0 : (dk != 0) = true := by simpa using h0
        by_cases h7 : dk = 7
        · subst h7
          have h2 : ((fm : Int) == 2) = false := by
            have : fm ≠ 2 := fun e => hp ⟨rfl, e⟩
            simp; omega
          clear hp hend hdone hdk hfm
          go_wp2
          refine bodyPost_ret (results_tmp2 rfl _ _ _) rfl ?_
          exact HE.out
        · have e7 : (dk == 7) = false := beq_eq_false_iff_ne.2 h7
          clear hp hend hdone hdk hfm
          go_wp2
          refine bodyPost_ret (results_tmp2 rfl _ _ _) rfl ?_
          exact HE.out
end Go.Proofs.YtkffojipgphneaaDoor
