/- WHAT IS PLAIN: worlds that keep some blocks; a range over a function, by a law whose iterator may hold memory of its own; marks; a loop with a number of one's own. -/
import Derived.RangeFuncNested
import Derived.RangeFuncBound
import Derived.RangeFuncCalls
import Derived.RangeFuncLeaves
import Derived.Shelf.Abstract
import Derived.WalkKit
import Derived.OwnWalkIn
import Derived.TacticsInMore
import Derived.LoopNIn
import Derived.LoopIn
import Derived.Lib.Hide
import Derived.Deep.Draws
import Derived.Deep.RegionHeld3
import Derived.OrdersIn
set_option linter.unusedVariables false
namespace Go.Proofs.YtkffojipgphneaaDoor
open Go Go.RowKit

/-- The blocks of G lie in w' as they lay in w. -/
structure Keep (G : Nat → Prop) (w w' : World) : Prop where
  os : w'.os = w.os
  tape : w'.tape = w.tape
  output : w'.output = w.output
  size : w.heap.size ≤ w'.heap.size
  block : ∀ k, G k → k < w.heap.size → w'.heap[k]? = w.heap[k]?
section
variable {G G' : Nat → Prop} {w w' w'' : World}
theorem Keep.refl (G : Nat → Prop) (w : World) : Keep G w w := ⟨rfl, rfl, rfl, Nat.le_refl _, fun _ _ _ => rfl⟩
theorem Keep.trans (h : Keep G w w') (k : Keep G w' w'') : Keep G w w'' :=
  ⟨k.os.trans h.os, k.tape.trans h.tape, k.output.trans h.output, Nat.le_trans h.size k.size, fun i hi hl => (k.block i hi (Nat.lt_of_lt_of_le hl h.size)).trans (h.block i hi hl)⟩
theorem Keep.mono (h : Keep G w w') (hg : ∀ k, k < w.heap.size → G' k → G k) : Keep G' w w' := ⟨h.os, h.tape, h.output, h.size, fun k hk hl => h.block k (hg k hl hk) hl⟩
theorem Keep.of_below {B : Nat} (h : Below B w w') : Keep (fun k => k < B) w w' := ⟨h.os, h.tape, h.output, h.size, fun k hk _ => h.block k hk⟩
theorem Keep.any (h : Below w.heap.size w w') : Keep G w w' := ⟨h.os, h.tape, h.output, h.size, fun k _ hl => h.block k hl⟩
theorem Keep.below {B : Nat} (h : Keep G w w') (hB : B ≤ w.heap.size) (hg : ∀ k, k < B → G k) : Below B w w' := ⟨h.os, h.tape, h.output, h.size, fun k hk => h.block k (hg k hk) (by omega)⟩
theorem Keep.drew (h : Keep G w w') : Keep G w w'.drew := ⟨h.os, h.tape, h.output, h.size, h.block⟩
theorem Keep.drewN (h : Keep G w w') (n : Nat) : Keep G w (w'.drewN n) := ⟨h.os, h.tape, h.output, h.size, h.block⟩
theorem Keep.alloc (h : Keep G w w') (o : Obj) : Keep G w (w'.alloc o) := h.trans (Keep.any ((Below.refl _ _).alloc (Nat.le_refl _) _))
theorem Keep.putObj (h : Keep G w w') {l : Nat} (o : Obj) (hl : ¬ G l ∨ w.heap.size ≤ l) : Keep G w (w'.putObj l o) :=
  ⟨h.os, h.tape, h.output, by rw [World.putObj_size]; exact h.size, fun k hk hkl => by
    have hne : k ≠ l := by rintro rfl; rcases hl with h1 | h1; exact h1 hk; omega
    exact (World.putObj_heap_other hne).trans (h.block k hk hkl)⟩
theorem Keep.setCell (h : Keep G w w') {p : Addr} (u : Value) (hl : ¬ G p.block ∨ w.heap.size ≤ p.block) : Keep G w (w'.setCell p u) :=
  ⟨h.os, h.tape, h.output, by simpa [World.setCell] using h.size, fun k hk hkl => by
    have hne : k ≠ p.block := by rintro rfl; rcases hl with h1 | h1; exact h1 hk; omega
    exact (Below.heap_setCell _ _ _ _ hne).trans (h.block k hk hkl)⟩
theorem Keep.grown {row : Option Nat} (h : Keep G w w') (hg : w'.grownBy w'' row) (hr : ∀ k, row = some k → ¬ G k ∨ w.heap.size ≤ k) : Keep G w w'' :=
  ⟨hg.os.trans h.os, hg.tape.trans h.tape, hg.output.trans h.output, Nat.le_trans h.size hg.size, fun k hk hl => by
    refine (hg.block k (Nat.lt_of_lt_of_le hl h.size) (fun e => ?_)).trans (h.block k hk hl)
    rcases hr k e.symm with h1 | h1
    · exact h1 hk
    · omega⟩
theorem cell_lt {p : Addr} {v : Value} (h : w.cell? p = some v) : p.block < w.heap.size := by
  rcases Nat.lt_or_ge p.block w.heap.size with h1 | h1
  · exact h1
  · simp [World.cell?, Array.getElem?_eq_none h1] at h
theorem Keep.cell (h : Keep G w w') {p : Addr} {v : Value} (hp : G p.block) (hc : w.cell? p = some v) : w'.cell? p = some v :=
  (World.cell?_of_block (w := w) (h.block p.block hp (cell_lt hc))).trans hc
theorem Keep.frozen (h : Keep G w w') {p : Addr} (hp : G p.block) (hl : p.block < w.heap.size) : w'.frozen? p = w.frozen? p :=
  World.frozen?_of_block (w := w) (h.block p.block hp hl)
theorem Keep.heap (h : Keep G w w') {k : Nat} {o : Obj} (hp : G k) (hc : w.heap[k]? = some o) : w'.heap[k]? = some o :=
  (h.block k hp (Array.getElem?_eq_some_iff.1 hc).1).trans hc
end

/-! ### A range over a function -/
/-- The two blocks of a loop's own lie as they lay. -/
def Book (B : Nat) (W W' : World) : Prop := W'.heap[B]? = W.heap[B]? ∧ W'.heap[B + 1]? = W.heap[B + 1]?
theorem Book.refl (B : Nat) (W : World) : Book B W W := ⟨rfl, rfl⟩
theorem Book.trans {B : Nat} {a b c : World} (h : Book B a b) (k : Book B b c) : Book B a c := ⟨k.1.trans h.1, k.2.trans h.2⟩
theorem Keep.book {G : Nat → Prop} {B : Nat} {w w' : World} (h : Keep G w w') (h0 : G B) (h1 : G (B + 1)) (hB : B + 1 < w.heap.size) : Book B w w' := ⟨h.block _ h0 (by omega), h.block _ h1 hB⟩
def postR {α : Type} (B : Nat) (Kp : World → World → Prop) (I : List α → World → Prop) (Ix : Code → List α → World → Prop) (xs : List α) (W : World) : Exit → Act → World → Prop
  | .normal, _, W' => Book B W W' ∧ Kp W W' ∧ I xs W'
  | .ret, _, W' => Book B W W' ∧ Kp W W' ∧ Ix .ret xs W'
  | .exit id, _, W' => Book B W W' ∧ Kp W W' ∧ Ix (.exit id) xs W'
  | .goto t, _, W' => Book B W W' ∧ Kp W W' ∧ Ix (.goto t) xs W'
  | .panic _, _, _ => False
  | .outgrown, _, _ => False
/-- WHAT AN ITERATOR DOES: the elements of L, one behind the other; between two rounds it changes nothing but by 'Rel'; a round that goes on keeps 'Kp'. -/
def Gives {α : Type} (P : Program) (g : Nat) (lb : Array Value) (encs : α → Array Value) (L : List α) (Kp Rel : World → World → Prop) (w : World) : Prop :=
  ∀ (l : Nat) (J Jx : List α → World → Prop), (∀ pre V V', J pre V → Rel V V' → J pre V') → (∀ pre V V', Jx pre V → Rel V V' → Jx pre V') →
    (∀ pre x rest V, L = pre ++ x :: rest → J pre V → YieldAt Fence.wide 0 P l (encs x) V fun e V' =>
      (e = .returned (.bool true) ∧ J (pre ++ [x]) V' ∧ Kp V V') ∨ (e = .returned (.bool false) ∧ Jx (pre ++ [x]) V' ∧ Kp V V')) →
    J [] w →
    CallsIn Fence.wide 0 P g (#[.func (.yield l) #[] #[]] ++ lb) w fun e V => (∃ v, e = .returned v) ∧ (J L V ∨ ∃ pre x rest, L = pre ++ x :: rest ∧ Jx (pre ++ [x]) V)
def mk (D : Nat) : Deferred := { target := .collected D, args := #[] }
theorem wp_rf {α : Type} {P : Program} {g : Operand} {ps : Array Tmp} {assign body : Code} {Q : Exit → Act → World → Prop} {a : Act} {w : World} {gf : Nat} {lb : Array Value}
    (hg : a.eval g = .func (.func gf) #[] lb) (eg : ∀ args w, (callFunc gf args).run P w = .ok (.enter gf args) w)
    {encs : α → Array Value} {L : List α} {Kp Rel : World → World → Prop}
    (hgives : ∀ r, Gives P gf lb encs L Kp Rel ((w.alloc (.deferred (some []))).alloc (.loop r)))
    (hps : ∀ x, (encs x).size = ps.size)
    (hRel : ∀ V V', w.heap.size + 1 < V.heap.size → Rel V V' → Book w.heap.size V V')
    (hKpt : ∀ A B C, Kp A B → Kp B C → Kp A C)
    (hKpb : ∀ W o, w.heap.size + 1 < W.heap.size → Kp W (W.putObj (w.heap.size + 1) o))
    (I : List α → World → Prop) (Ix : Code → List α → World → Prop)
    (hI : ∀ pre V V', I pre V → Rel V V' → I pre V') (hIx : ∀ c pre V V', Ix c pre V → Rel V V' → Ix c pre V')
    (hIb : ∀ pre V o r, I pre V → V.heap[w.heap.size + 1]? = some (.loop r) → I pre (V.putObj (w.heap.size + 1) o))
    (hIxb : ∀ c pre V o r, Ix c pre V → V.heap[w.heap.size + 1]? = some (.loop r) → Ix c pre (V.putObj (w.heap.size + 1) o))
    (h0 : ∀ r, I [] ((w.alloc (.deferred (some []))).alloc (.loop r)))
    (a₁ : α → Act)
    (hassign : ∀ (l : Nat) (x : α) (W : World) (K : Act → World → Prop), K (a₁ x) W →
      assign.wpIn (Fence.wide.inRound l) 0 P (Exit.then K (fun _ _ _ => False)) { tmps := (ps.zip (encs x)).foldl (fun t (p, v) => t.setIfInBounds p v) a.tmps, defers := [] } W)
    (hbody : ∀ (l : Nat) (pre : List α) (x : α) (rest : List α) (W : World), L = pre ++ x :: rest → I pre W → W.heap[w.heap.size]? = some (.deferred (some [])) → (∃ r, W.heap[w.heap.size + 1]? = some (.loop r)) →
      body.wpIn (Fence.wide.inRound l) 0 P (postR w.heap.size Kp I Ix (pre ++ [x]) W) (a₁ x) W)
    (hdone : ∀ W, I L W → W.heap[w.heap.size]? = some (.deferred (some [])) → Q .normal { a with defers := mk w.heap.size :: a.defers } W)
    (hstop : ∀ (c : Code) (pre : List α) (x : α) (rest : List α) (W : World), L = pre ++ x :: rest → Ix c (pre ++ [x]) W → W.heap[w.heap.size]? = some (.deferred (some [])) →
      c.wpIn Fence.wide 0 P Q { a with defers := mk w.heap.size :: a.defers } W) :
    (Code.rangeFunc g ps assign body).wpIn Fence.wide 0 P Q a w := by
  refine wpIn_rangeFunc ?_
  intro fn hfn
  rw [Fence.wide_round]
  obtain ⟨rec, hrec⟩ : ∃ rec : LoopState → Option Code → Loop, rec = fun st pe => { state := st, pending := pe, fn, tmps := a.tmps, params := ps, assign, body, defers := w.heap.size } := ⟨_, rfl⟩
  obtain ⟨W1, hW1⟩ : ∃ W1, (w.alloc (.deferred (some []))).alloc (.loop (rec .ready none)) = W1 := ⟨_, rfl⟩
  have hL1 : W1.heap[w.heap.size + 1]? = some (.loop (rec .ready none)) := by
    rw [← hW1]; have := World.alloc_heap_new (w.alloc (.deferred (some []))) (.loop (rec .ready none)); rwa [World.size_alloc] at this
  have hK1 : W1.heap[w.heap.size]? = some (.deferred (some [])) := by
    rw [← hW1]; exact (Below.heap_alloc _ _ _ (by simp)).trans (World.alloc_heap_new w _)
  have hI1 : I [] W1 := by rw [← hW1]; exact h0 _
  have hG1 : Gives P gf lb encs L Kp Rel W1 := by rw [← hW1]; exact hgives _
  refine ⟨w.heap.size + 1, [mk w.heap.size], W1, { target := .fn (.func gf) lb, args := #[.func (.yield (w.heap.size + 1)) #[] #[]] }, W1, gf,
    #[.func (.yield (w.heap.size + 1)) #[] #[]] ++ lb, W1, ?_, ?_, ?_, ?_, fun h => (by cases h), ?_⟩
  · rw [← hW1, hrec]; exact run_enterLoop_outer _ _ _ _ _
  · simp only [resolve, hg]
    simp [go_sem]
  · intro f' hf'; trivial
  · simp [invoke, go_sem, eg]
  · have bk : ∀ {V V' : World} {o : Obj}, V.heap[w.heap.size + 1]? = some o → w.heap.size + 1 < V.heap.size := fun h => (Array.getElem?_eq_some_iff.1 h).1
    refine (hG1 (w.heap.size + 1)
      (fun pre W => I pre W ∧ W.heap[w.heap.size + 1]? = some (.loop (rec .ready none)) ∧ W.heap[w.heap.size]? = some (.deferred (some [])))
      (fun pre W => ∃ c, Ix c pre W ∧ W.heap[w.heap.size + 1]? = some (.loop (rec .done (some c))) ∧ W.heap[w.heap.size]? = some (.deferred (some [])))
      (fun pre V V' hs hr => by
        have hbk := hRel V V' ((Array.getElem?_eq_some_iff.1 hs.2.1).1) hr
        exact ⟨hI _ _ _ hs.1 hr, hbk.2.trans hs.2.1, hbk.1.trans hs.2.2⟩)
      (fun pre V V' hs hr => by
        obtain ⟨c, hc, hl, hk⟩ := hs
        have hbk := hRel V V' ((Array.getElem?_eq_some_iff.1 hl).1) hr
        exact ⟨c, hIx _ _ _ _ hc hr, hbk.2.trans hl, hbk.1.trans hk⟩)
      ?_ ⟨hI1, hL1, hK1⟩).mono ?_
    · rintro pre x rest W hLx ⟨hi, hl, hk⟩
      have hlt : w.heap.size + 1 < W.heap.size := (Array.getElem?_eq_some_iff.1 hl).1
      have hy := run_yield (P := P) (args := encs x) hl (by rw [hrec]; exact hps x)
      rw [hrec] at hy
      refine ⟨fn, _, assign, body, hy, roundIn_of_wpIn hfn (hassign _ x W _ ?_)⟩
      clear hy
      refine ⟨_, run_beginRound hl (by rw [hrec]), ?_⟩
      have hl2 : (W.putObj (w.heap.size + 1) (.loop { rec .ready none with state := .busy })).heap[w.heap.size + 1]? = some (.loop { rec .ready none with state := .busy }) := World.putObj_heap_same hlt
      have hk2 : (W.putObj (w.heap.size + 1) (.loop { rec .ready none with state := .busy })).heap[w.heap.size]? = some (.deferred (some [])) := (World.putObj_heap_other (by omega)).trans hk
      have hw2 : Kp W (W.putObj (w.heap.size + 1) (.loop { rec .ready none with state := .busy })) := hKpb _ _ hlt
      refine wpIn_mono (hbody _ pre x rest _ hLx (hIb _ _ _ _ hi hl) hk2 ⟨_, hl2⟩) ?_
      have fin : ∀ (jump : Option Code) (W3 : World), Book w.heap.size (W.putObj (w.heap.size + 1) (.loop { rec .ready none with state := .busy })) W3 →
          (Instr.endRound (w.heap.size + 1) jump).run P W3 = .ok (.bool jump.isNone) (W3.putObj (w.heap.size + 1) (.loop (rec (if jump.isNone then .ready else .done) jump))) ∧
          (w.heap.size + 1 < W3.heap.size ∧ W3.heap[w.heap.size + 1]? = some (.loop { rec .ready none with state := .busy })) ∧
          (W3.putObj (w.heap.size + 1) (.loop (rec (if jump.isNone then .ready else .done) jump))).heap[w.heap.size + 1]? = some (.loop (rec (if jump.isNone then .ready else .done) jump)) ∧
          (W3.putObj (w.heap.size + 1) (.loop (rec (if jump.isNone then .ready else .done) jump))).heap[w.heap.size]? = some (.deferred (some [])) := fun jump W3 hk3 => by
        have hl3 := hk3.2.trans hl2
        have hlt3 := (Array.getElem?_eq_some_iff.1 hl3).1
        have := run_endRound (P := P) jump hl3
        rw [hrec] at this ⊢
        exact ⟨this, ⟨hlt3, by rw [hrec] at hl3; exact hl3⟩, World.putObj_heap_same hlt3, (World.putObj_heap_other (by omega)).trans (hk3.1.trans hk2)⟩
      rintro e a3 W3 hp
      cases e with
      | normal =>
        obtain ⟨hk3, hkp3, hi3⟩ := hp
        obtain ⟨hr, hl3, hl4, hk4⟩ := fin none W3 hk3
        exact ⟨_, _, hr, .inl ⟨rfl, ⟨hIb _ _ _ _ hi3 hl3.2, hl4, hk4⟩, hKpt _ _ _ (hKpt _ _ _ hw2 hkp3) (hKpb _ _ hl3.1)⟩⟩
      | ret =>
        obtain ⟨hk3, hkp3, hi3⟩ := hp
        obtain ⟨hr, hl3, hl4, hk4⟩ := fin (some .ret) W3 hk3
        exact ⟨_, _, hr, .inr ⟨rfl, ⟨.ret, hIxb _ _ _ _ _ hi3 hl3.2, hl4, hk4⟩, hKpt _ _ _ (hKpt _ _ _ hw2 hkp3) (hKpb _ _ hl3.1)⟩⟩
      | exit id =>
        obtain ⟨hk3, hkp3, hi3⟩ := hp
        obtain ⟨hr, hl3, hl4, hk4⟩ := fin (some (.exit id)) W3 hk3
        exact ⟨_, _, hr, .inr ⟨rfl, ⟨.exit id, hIxb _ _ _ _ _ hi3 hl3.2, hl4, hk4⟩, hKpt _ _ _ (hKpt _ _ _ hw2 hkp3) (hKpb _ _ hl3.1)⟩⟩
      | goto t =>
        obtain ⟨hk3, hkp3, hi3⟩ := hp
        obtain ⟨hr, hl3, hl4, hk4⟩ := fin (some (.goto t)) W3 hk3
        exact ⟨_, _, hr, .inr ⟨rfl, ⟨.goto t, hIxb _ _ _ _ _ hi3 hl3.2, hl4, hk4⟩, hKpt _ _ _ (hKpt _ _ _ hw2 hkp3) (hKpb _ _ hl3.1)⟩⟩
      | panic ch => exact hp.elim
      | outgrown => exact hp.elim
    · rintro e W2 ⟨⟨v, rfl⟩, (⟨hi, hl, hk⟩ | ⟨pre, x, rest, hLx, c, hi, hl, hk⟩)⟩
      · have hlt := (Array.getElem?_eq_some_iff.1 hl).1
        exact ⟨none, _, by have := run_endLoop (P := P) hl (by rw [hrec]; simp); rw [hrec] at this; exact this, hdone _ (hIb _ _ _ _ hi hl) ((World.putObj_heap_other (by omega)).trans hk)⟩
      · have hlt := (Array.getElem?_eq_some_iff.1 hl).1
        exact ⟨some c, _, by have := run_endLoop (P := P) hl (by rw [hrec]; simp); rw [hrec] at this; exact this, hstop c pre x rest _ hLx (hIxb _ _ _ _ _ hi hl) ((World.putObj_heap_other (by omega)).trans hk)⟩

/-! ### A region that draws its order, in a round -/
theorem op_in {P : Program} {l : Nat} {o : Oper} {a : Act} {w : World} {K : Act → World → Prop} {Q : Exit → Act → World → Prop} (hd : ∀ c, o.op ≠ .defer c) (h : o.wp P a w K Q) : o.wpIn (Fence.wide.inRound l) 0 P a w K Q := by
  refine ⟨fun _ _ => trivial, ?_⟩
  rw [Fence.inRound_round, Oper.semAt_some l a.eval o hd]
  unfold Oper.wp at h
  generalize (execOp a.eval o).run P w = r at *
  cases r with
  | ok x w' =>
    cases x with
    | value v => exact h
    | skip => exact h
    | defer d => exact h
    | enter f args => exact ⟨fun h => (by cases h), CallsIn.inRound l (callsIn_wide.2 h)⟩
    | row r args => exact ⟨fun h => (by cases h), fun c cs _ => let ⟨v, w', r, s⟩ := h c cs; ⟨v, w', r, stepsIn_wide.2 s⟩⟩
    | _ => exact h.elim
  | halt x w' => cases x <;> exact h
theorem any_in {P : Program} {l : Nat} {md : Region.Mode} {ops : Array Oper} {Q : Exit → Act → World → Prop} (hd : ops.all (fun o => match o.op with | .defer _ => false | _ => true) = true) (hq : ¬ LetsOut Q) :
    ∀ (fuel : Nat) (listed : Array Bool) (a : Act) (w : World), wpAny P md ops Q fuel listed a w → wpAnyIn (Fence.wide.inRound l) 0 P md ops Q fuel listed a w
  | 0, _, _, _, h => h
  | fuel + 1, listed, a, w, h => by
    refine ⟨h.1, fun i hi => ?_⟩
    have h2 := h.2 i hi
    unfold wpOp at h2
    unfold wpOpIn
    cases ho : ops[i]? with
    | none =>
      simp only [ho] at h2 ⊢
      exact any_in hd hq fuel _ _ _ h2
    | some o =>
      simp only [ho] at h2 ⊢
      have hdo : ∀ c, o.op ≠ .defer c := by
        intro c hc
        have hall := Array.all_eq_true.1 hd
        obtain ⟨hlt, he⟩ := Array.getElem?_eq_some_iff.1 ho
        have := hall i hlt
        rw [he, hc] at this
        cases this
      by_cases hw : Region.wanted o (yielded ops a.tmps) = true
      · simp only [hw, if_true] at h2 ⊢
        rcases h2 with h2 | ⟨_, h2⟩
        · exact op_in hdo (Oper.wp_mono (fun a w => any_in hd hq fuel _ a w) h2)
        · exact absurd h2 hq
      · simp only [hw] at h2 ⊢
        exact ⟨fun _ _ => trivial, any_in hd hq fuel _ _ _ h2⟩
theorem region_round {P : Program} {l id : Nat} {ops : Array Oper} {Q : Exit → Act → World → Prop} {a : Act} {w : World} {S : World → Prop} (hm : P.follows .mixedOrders = true) (hd : ops.all (fun o => match o.op with | .defer _ => false | _ => true) = true) (hq : ¬ LetsOut Q)
    (hS : S w.drew) (h : S w.drew → wpAnyH P .any ops Q S ops.size (Array.replicate ops.size false) a w.drew) : (Code.region id ops true).wpIn (Fence.wide.inRound l) 0 P Q a w :=
  wpIn_region_any hm (any_in hd hq _ _ _ _ (wpAny_of_held _ _ _ _ (h hS)))

/-! ### Marks -/
/-- A row of one's own is none of the loop's two blocks. -/
theorem own_not {w : World} {base e s n g cap k : Nat} {xs : List Value} {o : Obj} (h : w.ownsRow base e s (.slice (some ⟨g, 0, none⟩) n cap) n xs) (hk : w.heap[k]? = some o) (ho : o.isCells = false) : g ≠ k := by
  rintro rfl
  rcases h.2 with ⟨hv, _⟩ | ⟨g2, _, _, hv, _, hh, _⟩
  · cases hv
  · cases hv
    rw [hk] at hh
    cases hh
    cases ho
theorem leaves_marks {P : Program} {fn : Func} {tmps : Array Value} {R : Ending → World → Prop} : ∀ (Ds : List Nat) (w : World), Ds.Nodup → (∀ D ∈ Ds, w.heap[D]? = some (.deferred (some []))) →
    (∀ w', w'.heap.size = w.heap.size → Keep (fun k => k ∉ Ds) w w' → LeavesIn Fence.wide 0 P fn tmps R [] .returning w') → LeavesInM Fence.wide 0 P fn tmps R (Ds.map mk) .returning w := by
  intro Ds
  induction Ds with
  | nil =>
    intro w _ _ h
    exact h w rfl (Keep.refl _ _)
  | cons D Ds ih =>
    intro w hn hd h
    have hD := hd D (by simp)
    have hlt := (Array.getElem?_eq_some_iff.1 hD).1
    refine ⟨by simp, .inl ⟨D, _, rfl, run_takeDeferred hD, ?_⟩⟩
    rw [List.nodup_cons] at hn
    refine ih _ hn.2 (fun E hE => (World.putObj_heap_other (by rintro rfl; exact hn.1 hE)).trans (hd E (by simp [hE]))) ?_
    intro w' hs hk
    refine h w' (hs.trans World.putObj_size) ?_
    exact (((Keep.refl (fun k => k ∉ D :: Ds) w).putObj _ (.inl (by simp))).trans (hk.mono (fun k _ hk' => by simp at hk'; exact hk'.2)))

/-! ### A loop with a number of one's own -/
theorem least {p : Nat → Prop} (h : ∃ n, p n) : ∃ n, p n ∧ ∀ m, p m → n ≤ m := by
  obtain ⟨n, hn⟩ := h
  induction n using Nat.strongRecOn with
  | _ n ih =>
    by_cases hm : ∃ m, m < n ∧ p m
    · obtain ⟨m, hlt, hp⟩ := hm
      exact ih m hlt hp
    · exact ⟨n, hn, fun m hp => Nat.le_of_not_lt fun hlt => hm ⟨m, hlt, hp⟩⟩
open Classical in
noncomputable def few (p : Nat → Prop) : Nat := if h : ∃ n, p n then Classical.choose (least h) else 0
theorem few_spec {p : Nat → Prop} (h : ∃ n, p n) : p (few p) := by
  unfold few
  rw [dif_pos h]
  exact (Classical.choose_spec (least h)).1
theorem few_le {p : Nat → Prop} {m : Nat} (h : p m) : few p ≤ m := by
  have hh : ∃ n, p n := ⟨m, h⟩
  unfold few
  rw [dif_pos hh]
  exact (Classical.choose_spec (least hh)).2 m h
theorem wp_loopk {F : Fence} {n : Nat} {P : Program} {c : Code} {Q : Exit → Act → World → Prop} (Inv : Nat → Act → World → Prop)
    (round : ∀ k a w, Inv k a w → c.wpIn F n P (Exit.then (fun a' w' => ∃ k', k' < k ∧ Inv k' a' w') Q) a w) (k : Nat) (a : Act) (w : World) (h : Inv k a w) : (Code.loop c).wpIn F n P Q a w := by
  refine wpIn_loop (fun a w => ∃ k, Inv k a w) (fun a w => few (fun k => Inv k a w)) ⟨k, h⟩ ?_
  intro a w hh
  refine wpIn_mono (round _ a w (few_spec hh)) ?_
  intro e a' w' hq
  cases e with
  | normal =>
    obtain ⟨k', hk, hi⟩ := hq
    exact ⟨⟨k', hi⟩, Nat.lt_of_le_of_lt (few_le hi) hk⟩
  | ret => exact hq
  | exit id => exact hq
  | goto t => exact hq
  | panic ch => exact hq
  | outgrown => exact hq
end Go.Proofs.YtkffojipgphneaaDoor
