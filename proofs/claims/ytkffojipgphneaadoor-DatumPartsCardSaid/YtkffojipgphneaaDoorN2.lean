import Derived.Test.YtkffojipgphneaaDoorProg
import Derived.Test.YtkffojipgphneaaDoorN1
import Derived.WalkKit
import Derived.Handy
import Derived.OneCell
import Derived.Outline
import Derived.Lib.Hide
import Derived.BigQuiet
import Derived.StillTailTactics
import Derived.Laws.MakeOwn
import Derived.Laws.OwnMore
import Derived.Deep.RegionHeld3
set_option linter.unusedVariables false
namespace Go.Proofs.YtkffojipgphneaaDoor.Nm
open Go Go.RowKit
def lenOf (v : Value) : Nat := match v with | .slice _ n _ => n | _ => 0
set_option maxHeartbeats 400000 in
theorem trim_any (A : Option Addr) (xs : List Nat) (c : Nat) (B : Nat) (w : World) (hx : Lim .u32 B w A xs) (hc : xs.length ≤ c) (hl : xs.length ≤ 140737488355328) :
    Calls Tryd.prog 67 #[.slice A xs.length c] w fun e w' => e = .returned (.slice A (trimL xs).length c) ∧ w = w' := by
  go_enter Tryd.func67, Tryd.ntmps67
  go_wp2
  go_loop [0] (fun l => ∃ k : Nat, k ≤ xs.length ∧ l = .slice A k c ∧ trimL (xs.take k) = trimL xs) (fun l => lenOf l)
  case atStart => exact ⟨xs.length, Nat.le_refl _, rfl, by rw [List.take_length]⟩
  case round =>
    obtain ⟨k, hk, rfl, ht⟩ := hrel
    have HT := Lib.hid ht
    clear ht
    by_cases h0 : k = 0
    · subst h0
      go_wp2
      go_ret
      have := HT.out
      rw [← this]
      exact ⟨rfl, rfl⟩
    · obtain ⟨ad, rfl, hb, hcell⟩ := hx.at (i := k - 1) (by omega)
      by_cases hz : xs[k - 1]'(by omega) = 0
      · rw [hz] at hcell
        go_wp2
        go_round
        case rel => exact ⟨k - 1, by omega, by go_num, by
          rw [← HT.out, show xs.take k = xs.take (k - 1) ++ [0] by
            rw [← hz, ← take_snoc xs (k - 1) (by omega), show k - 1 + 1 = k by omega], trimL_zero]⟩
        case measure => simp [lenOf]; omega
      · go_wp2
        go_ret
        have e : xs.take k = xs.take (k - 1) ++ [xs[k - 1]'(by omega)] := by rw [← take_snoc xs (k - 1) (by omega), show k - 1 + 1 = k by omega]
        have := HT.out
        rw [← this, e, trimL_last hz, ← e]
        simp
        omega

theorem trim_at (A : Option Addr) (xs : List Nat) (n c : Nat) (B : Nat) (w : World) (hn : Hid (xs.length = n)) (hx : Lim .u32 B w A xs) (hc : n ≤ c) (hl : n ≤ 140737488355328) :
    Calls Tryd.prog 67 #[.slice A n c] w fun e w' => e = .returned (.slice A (trimL xs).length c) ∧ w = w' := by
  have h := hn.out
  subst h
  exact trim_any A xs c B w hx hc hl
theorem u32_info : (Tryd.prog.info? 60).map (fun i => (i.zero, i.size, i.bytes)) = some (some (.int .u32 0), 1, 4) := by kernel_rfl
theorem own_ge {w : World} {base e n : Nat} {v : Value} {xs : List Value} (h : w.ownsRow base e 1 v n xs) : ∀ g, v.ownBlock = some g → base ≤ g := by
  intro g hg
  rcases h.2 with ⟨rfl, _⟩ | ⟨g', cap, cur, rfl, hb, _⟩
  · simp [Value.ownBlock] at hg
  · have : g' = g := by simpa [Value.ownBlock] using hg
    omega
/-- behind an append to a row of the call's own, all that was there stands -/
theorem below_own {w w1 w2 : World} {e n : Nat} {v : Value} {xs : List Value} (hb : Below w.heap.size w w1) (h : w1.ownsRow w.heap.size e 1 v n xs) (hg : w1.grownBy w2 v.ownBlock) : Below w.heap.size w w2 :=
  hb.grown hg hb.size (own_ge h)
theorem own_nil {w : World} {base e : Nat} : w.ownsRow base e 1 (.slice none 0 0) 0 [] := World.ownsRow_nil _ _ _ _
/-- a slice value's parts -/
theorem own_slice {w : World} {base e n : Nat} {v : Value} {xs : List Value} (h : w.ownsRow base e 1 v n xs) : ∃ A c, v = .slice A n c := by
  rcases h.2 with ⟨rfl, rfl⟩ | ⟨g', cap, cur, rfl, hb, _⟩
  · exact ⟨_, _, rfl⟩
  · exact ⟨_, _, rfl⟩
theorem own_cap {w : World} {base e n c : Nat} {A : Option Addr} {xs : List Value} (h : w.ownsRow base e 1 (.slice A n c) n xs) : n ≤ c := by
  rcases h.2 with ⟨h0, rfl⟩ | ⟨g', cap, cur, hv, hb, hh, hc, _⟩
  · exact Nat.zero_le _
  · injection hv with _ _ hcap
    omega
theorem run_append_zero (t e : TypeId) (ht : Tryd.prog.underlying t = some (.slice e)) {z : Value} {s b : Nat} (hinfo : (Tryd.prog.info? e).map (fun i => (i.zero, i.size, i.bytes)) = some (some z, s, b))
    (base : Nat) (v : Value) (n : Nat) (xs : List Value) (A : Option Addr) (c : Nat) (w : World) (hown : w.ownsRow base e 1 v n xs) : (Builtin.append_ #[t, t] t #[v, .slice A 0 c]).run Tryd.prog w = .ok v w := by
  obtain ⟨i0, hi, hz0, hz1, hz2⟩ := info_parts hinfo
  rcases hown.2 with ⟨rfl, rfl⟩ | ⟨g, cap, cur, rfl, _, _, hnc, _⟩
  · rcases A with _ | ad <;> simp [Builtin.append_, run_underlying ht, sizeOf, typeInfo, hi, Builtin.lenOf, Builtin.firstCells, loadCells, loadCellsFrom]
  · rcases A with _ | ad <;> simp [Builtin.append_, run_underlying ht, sizeOf, typeInfo, hi, Builtin.lenOf, Builtin.firstCells, loadCells, loadCellsFrom, hnc, storeCells]
theorem app_any {k : IntKind} (t e : TypeId) (bytes : Nat) (ht : Tryd.prog.underlying t = some (.slice e)) (hinfo : (Tryd.prog.info? e).map (fun i => (i.zero, i.size, i.bytes)) = some (some (.int k 0), 1, bytes)) (hby : bytes ≤ 4)
    (w : World) {ops : Array Oper} {rest : List Oper} {o : Oper} {a : Act} {Q : Exit → Act → World → Prop} (hgd : o.guard = none) (s x : Operand)
    (ho : o.op = .call { callee := .builtin .append, args := #[s, x], argTypes := #[t, t] }) (hty : o.type = t) (base : Nat) (v : Value) (n : Nat) (xs : List Nat) (hs : a.eval s = v) (hown : w.ownsRow base e 1 v n (cl k xs))
    (B : Nat) (A : Option Addr) (m c : Nat) (ys : List Nat) (hx : a.eval x = .slice A m c) (hlim : Lim k B w A ys) (hm : Hid (ys.length = m)) (hb : n + m ≤ 17592186044416) (hbase : base ≤ w.heap.size)
    (h : ∀ v' w', w'.ownsRow base e 1 v' (n + m) (cl k (xs ++ ys)) → w.grownBy w' v.ownBlock → wpList Tryd.prog ops Q rest (a.put o.dst v') w') : wpList Tryd.prog ops Q (o :: rest) a w := by
  by_cases hy : ys = []
  · subst hy
    have hm0 : m = 0 := by
      have := hm.out
      simpa using this.symm
    subst hm0
    refine wpList_plain hgd fun _ hK => ?_
    have hrun := run_append_zero t e ht hinfo base v n _ A c w hown
    unfold Oper.wp execOp
    simp only [ho, hty, resolve, invoke, builtin, Sem.run_bind, Sem.run_pure, Result.andThen_ok, List.map_toArray, List.map_cons, List.map_nil, hs, hx, hrun]
    exact hK _ _ (h v w (by simpa using hown) (World.grownBy.refl w _))
  · obtain ⟨ad, rfl, _, _⟩ := hlim hy
    obtain ⟨i0, hi, hz0, hz1, hz2⟩ := info_parts hinfo
    refine wpList_append_own w hgd s x t ho base e i0 _ 1 bytes ht hi hz0 hz1 hz2 rfl (by decide) v n (cl k xs) hs hown ad m c (cl k ys) hx (by rw [cl_len, Nat.mul_one]; exact hm.out) hlim.cells (cl_one _ _) (by unfold maxLen; omega) ?_ hbase ?_
    · have : (n + m) * bytes ≤ 17592186044416 * 4 := Nat.mul_le_mul hb hby
      omega
    · intro v' w' h1 h2 _
      refine h v' w' ?_ h2
      rw [cl_append]
      exact h1
/-- one cell that holds a number, as a slice of one -/
theorem one_lim (k : IntKind) (w : World) (t : TypeId) (x : Nat) : Lim k (w.alloc (.cells #[.int k x] t)).heap.size (w.alloc (.cells #[.int k x] t)) (some ⟨w.heap.size, 0, none⟩) [x] := by
  intro _
  refine ⟨_, rfl, by simp, fun i hi => ?_⟩
  have : i = 0 := by simpa using hi
  subst this
  rw [add_none, Nat.add_zero]
  have := Nums.made w t k [x]
  exact this.at (i := 0) (by simp)
theorem own_mono {w : World} {base base' e n : Nat} {v : Value} {xs : List Value} (h : w.ownsRow base e 1 v n xs) (hb : base' ≤ base) : w.ownsRow base' e 1 v n xs := by
  refine ⟨h.1, ?_⟩
  rcases h.2 with h0 | ⟨g, cap, cur, hv, hg, rest⟩
  · exact .inl h0
  · exact .inr ⟨g, cap, cur, hv, by omega, rest⟩
theorem own_two {w : World} {g e n : Nat} {v a b : Value} {xs : List Value} (h : w.ownsRow (g + 1) e 1 v n xs) : ((w.setCell ⟨g, 0, none⟩ a).setCell ⟨g, 1, none⟩ b).ownsRow g e 1 v n xs :=
  own_mono (ownsRow_setCell_below (ownsRow_setCell_below h (a := ⟨g, 0, none⟩) (Nat.lt_succ_self g) a) (a := ⟨g, 1, none⟩) (Nat.lt_succ_self g) b) (Nat.le_succ g)
/-- a struct of two cells in a block of its own -/
def Two (w : World) (g : Nat) (t : TypeId) (a b : Value) : Prop := w.heap[g]? = some (.cells #[a, b] t (0, 0))
section
variable {w w' : World} {g : Nat} {t : TypeId} {a b : Value}
theorem Two.fst (h : Two w g t a b) : w.cell? ⟨g, 0, none⟩ = some a := cell_of_row w g 0 _ t (0, 0) h
theorem Two.snd (h : Two w g t a b) : w.cell? ⟨g, 1, none⟩ = some b := cell_of_row w g 1 _ t (0, 0) h
theorem Two.free (h : Two w g t a b) (i : Nat) : w.frozen? ⟨g, i, none⟩ = false := by
  unfold Two at h
  simp [World.frozen?, h]
theorem Two.lt (h : Two w g t a b) : g < w.heap.size := by
  rcases Nat.lt_or_ge g w.heap.size with h1 | h1
  · exact h1
  · unfold Two at h
    rw [Array.getElem?_eq_none h1] at h
    cases h
theorem Two.made (w : World) (t : TypeId) (a b : Value) : Two (w.alloc (.cells #[a, b] t)) w.heap.size t a b := heap_alloc_new w _
theorem Two.below {B : Nat} (h : Two w g t a b) (hb : Below B w w') (hg : g < B) : Two w' g t a b := (hb.block g hg).trans h
theorem Two.below' (h : Two w g t a b) (hb : Below w.heap.size w w') : Two w' g t a b := (hb.block g h.lt).trans h
theorem Two.grown {row : Option Nat} (h : Two w g t a b) (hb : w.grownBy w' row) (hg : some g ≠ row) : Two w' g t a b := (hb.block g h.lt hg).trans h
theorem Two.alloc (h : Two w g t a b) (o : Obj) : Two (w.alloc o) g t a b := (Below.heap_alloc w o g h.lt).trans h
theorem Two.drewN (h : Two w g t a b) (n : Nat) : Two (w.drewN n) g t a b := h
end
/-- the sign that a number of this magnitude has -/
def signB (neg : Bool) (N : Nat) : Bool := neg && decide (N ≠ 0)
theorem signB_zero (neg : Bool) : signB neg 0 = false := by simp [signB]
theorem signB_pos (neg : Bool) {N : Nat} (h : N ≠ 0) : signB neg N = neg := by simp [signB, h]
/-- a number that may be, in memory of its own -/
def Fresh (w w' : World) (A : Option Addr) (c N : Nat) : Prop :=
  w'.ownsRow w.heap.size 60 1 (.slice A (digs 4294967296 N).length c) (digs 4294967296 N).length (cl .u32 (digs 4294967296 N)) ∧ Below w.heap.size w w'
set_option maxHeartbeats 800000 in
theorem signed1_fit (b : Nat) (neg : Bool) (A : Option Addr) (xs : List Nat) (n c : Nat) (w : World) (hb : w.heap[b]? = some (.cells #[.bool neg] 4 (0, 0))) (hx : Lim .u32 w.heap.size w A xs) (hlow : Low 4294967296 xs)
    (l1 : Hid (xs.length = n)) (hc : n ≤ c) (hl : n ≤ 35184372088832) (N : Nat) (hN : Hid (val 4294967296 xs = N)) (hfit : (digs 4294967296 N).length ≤ 48) :
    Calls Tryd.prog 66 #[.slice A n c, .pointer (some ⟨b, 0, none⟩)] w fun e w' => ∃ A' c', e = .returned (.tuple #[.agg #[.bool (signB neg N), .slice A' (digs 4294967296 N).length c'], .int .i64 0]) ∧ Fresh w w' A' c' N := by
  have ht : trimL xs = digs 4294967296 N := by rw [← hN.out]; exact (digs_of (by decide) hlow).symm
  have hlt := lt_of_block hb
  have hlim := hx.trim
  have TR := fun w' h => trim_at A xs n c w.heap.size w' l1 h hc (by omega)
  rw [ht] at hlim TR
  have hsz : Hid ((digs 4294967296 N).length = 0 → N = 0) := Lib.hid (fun h => (digs_nil (b := 4294967296) (by decide)).1 (List.length_eq_zero_iff.1 h))
  have hsz2 : Hid (N = 0 → (digs 4294967296 N).length = 0) := Lib.hid (fun h => by rw [h]; rfl)
  obtain ⟨D, hD⟩ : ∃ D, D = digs 4294967296 N := ⟨_, rfl⟩
  obtain ⟨m, hm⟩ : ∃ m, m = D.length := ⟨_, rfl⟩
  unfold Fresh
  rw [← hD, ← hm] at hfit hsz hsz2 TR ⊢
  rw [← hD] at hlim
  have HM := Lib.hid hm.symm
  clear hD hm ht
  have HT : ∀ w', Lim .u32 w.heap.size w' A xs → Hid (Calls Tryd.prog 67 #[.slice A n c] w' fun e w'' => e = .returned (.slice A m c) ∧ w' = w'') := fun w' h => Lib.hid (TR w' h)
  have HB := Lib.hid hb
  clear TR hb
  have hcb : ∀ w', (w.alloc (.cells #[.bool false, .slice none 0 0] 24)).grownBy w' none → w'.cell? ⟨b, 0, none⟩ = some (.bool neg) := fun w' hg => (World.cell?_of_block (hg.block b (by simp; omega) (by simp))).trans ((World.cell?_alloc_lt w _ ⟨b, 0, none⟩ hlt).trans (cell_of_one HB.out))
  have hbk : ∀ w', (w.alloc (.cells #[.bool false, .slice none 0 0] 24)).grownBy w' none → Two w' w.heap.size 24 (.bool false) (.slice none 0 0) := fun w' hg => (Two.made w 24 _ _).grown hg (by simp)
  have hbel : ∀ w', (w.alloc (.cells #[.bool false, .slice none 0 0] 24)).grownBy w' none → Below w.heap.size w w' := fun w' hg => ((Below.refl _ _).alloc (Nat.le_refl _) _).grown hg (by simp) (by simp)
  have HS : m = 0 ∨ 0 < m := by omega
  rcases HS with h0 | h0
  · subst h0
    have hsb : Hid (signB neg N = false) := Lib.hid (by rw [hsz.out rfl]; exact signB_zero neg)
    cases neg
    all_goals
      go_enter Tryd.func66, Tryd.ntmps66
      go_wp2_with (first
        | (go_at_call 67; refine ((HT _ (hx.alloc (Nat.le_refl _) _)).out).mono ?_; rintro e w' ⟨rfl, rfl⟩)
        | (at_builtin; refine app_any (k := .u32) 22 60 4 Tryd.underlying22 u32_info (by decide) _ rfl _ _ rfl rfl (w.heap.size + 1) (.slice none 0 0) 0 [] rfl own_nil w.heap.size A 0 c D rfl (hlim.alloc (Nat.le_refl _) _) HM (by decide) (by simp) ?_; intro v1 w1 hown hgr; have hcell := hcb w1 hgr; have hk0 := (hbk w1 hgr).fst; have hk1 := (hbk w1 hgr).snd; have hf0 := (hbk w1 hgr).free 0; have hf1 := (hbk w1 hgr).free 1; have hbl := hbel w1 hgr; obtain ⟨A1, c1, rfl⟩ := own_slice hown; clear hgr hcb hbk hbel))
      rw [hsb.out]
      exact bodyPost_ret (v := .tuple #[.agg #[.bool false, .slice A1 0 c1], .int .i64 0]) (by simp [results, Tryd.results66, go_sem, hk0, hk1]) rfl ⟨A1, c1, rfl, own_two (by simpa using hown), (hbl.setCell (p := ⟨w.heap.size, 0, none⟩) (Nat.le_refl _) _).setCell (p := ⟨w.heap.size, 1, none⟩) (Nat.le_refl _) _⟩
  · have hsb : Hid (signB neg N = neg) := Lib.hid (signB_pos neg (fun h => by have := hsz2.out h; omega))
    cases neg
    all_goals
      go_enter Tryd.func66, Tryd.ntmps66
      go_wp2_with (first
        | (go_at_call 67; refine ((HT _ (hx.alloc (Nat.le_refl _) _)).out).mono ?_; rintro e w' ⟨rfl, rfl⟩)
        | (at_builtin; refine app_any (k := .u32) 22 60 4 Tryd.underlying22 u32_info (by decide) _ rfl _ _ rfl rfl (w.heap.size + 1) (.slice none 0 0) 0 [] rfl own_nil w.heap.size A m c D rfl (hlim.alloc (Nat.le_refl _) _) HM (by omega) (by simp) ?_; intro v1 w1 hown hgr; have hcell := hcb w1 hgr; have hk0 := (hbk w1 hgr).fst; have hk1 := (hbk w1 hgr).snd; have hf0 := (hbk w1 hgr).free 0; have hf1 := (hbk w1 hgr).free 1; have hbl := hbel w1 hgr; obtain ⟨A1, c1, rfl⟩ := own_slice hown; clear hgr hcb hbk hbel))
      rw [hsb.out]
      exact bodyPost_ret (v := .tuple #[.agg #[.bool _, .slice A1 m c1], .int .i64 0]) (by simp [results, Tryd.results66, go_sem, hk0, hk1]) rfl ⟨A1, c1, rfl, own_two (by simpa using hown), (hbl.setCell (p := ⟨w.heap.size, 0, none⟩) (Nat.le_refl _) _).setCell (p := ⟨w.heap.size, 1, none⟩) (Nat.le_refl _) _⟩
/-- how many limbs a value needs -/
def dl (N : Nat) : Nat := (digs 4294967296 N).length
/-- the slice at A of n limbs comes to N in w -/
def Mag (w : World) (A : Option Addr) (n c N : Nat) : Prop := ∃ xs, Lim .u32 w.heap.size w A xs ∧ Low 4294967296 xs ∧ xs.length = n ∧ val 4294967296 xs = N ∧ n ≤ c
section
variable {w w' : World} {A : Option Addr} {n c N : Nat}
theorem Mag.below (h : Mag w A n c N) (hb : Below w.heap.size w w') : Mag w' A n c N := by
  obtain ⟨xs, h1, h2, h3, h4, h5⟩ := h
  exact ⟨xs, h1.below' hb, h2, h3, h4, h5⟩
theorem Mag.alloc (h : Mag w A n c N) (o : Obj) : Mag (w.alloc o) A n c N := h.below ((Below.refl _ _).alloc (Nat.le_refl _) _)
theorem Mag.of_fresh (h : Fresh w w' A c N) : Mag w' A (dl N) c N ∧ Below w.heap.size w w' :=
  ⟨⟨_, Lim.of_own h.1, digs_low (by decide) N, rfl, digs_val (by decide) N, own_cap h.1⟩, h.2⟩
end
theorem dl_zero : dl 0 = 0 := rfl
theorem dl_pos {N : Nat} (h : N ≠ 0) : 0 < dl N := by
  unfold dl
  rcases hd : digs 4294967296 N with _ | ⟨x, l⟩
  · exact absurd ((digs_nil (by decide)).1 hd) h
  · simp
theorem dl_le (N k : Nat) : dl N ≤ k ↔ N < 4294967296 ^ k := digs_len_le (by decide) N k
/-- the closure of signed: the number fits -/
theorem signed1_yes (b : Nat) (neg : Bool) (A : Option Addr) (n c N : Nat) (w : World) (hb : w.heap[b]? = some (.cells #[.bool neg] 4 (0, 0))) (h : Mag w A n c N) (hl : n ≤ 35184372088832) (hfit : dl N ≤ 48) :
    Calls Tryd.prog 66 #[.slice A n c, .pointer (some ⟨b, 0, none⟩)] w fun e w' => ∃ A' c', e = .returned (.tuple #[.agg #[.bool (signB neg N), .slice A' (dl N) c'], .int .i64 0]) ∧ Fresh w w' A' c' N := by
  obtain ⟨xs, p1, p2, p3, p4, p5⟩ := h
  exact signed1_fit b neg A xs n c w hb p1 p2 (Lib.hid p3) p5 hl N (Lib.hid p4) hfit
/-- a number's value -/
def sg (neg : Bool) (N : Nat) : Int := if neg then -(N : Int) else N
theorem sg_true (N : Nat) : sg true N = -(N : Int) := by simp [sg]
theorem sg_false (N : Nat) : sg false N = N := by simp [sg]
theorem below_al {w w1 : World} (hb : Below w.heap.size w w1) (o : Obj) : Below w.heap.size w (w1.alloc o) := hb.alloc hb.size o
theorem signed_any (neg : Bool) (w : World) :
    Calls Tryd.prog 60 #[.bool neg] w fun e w' => e = .returned (.func (Fn.func 66) #[] #[.pointer (some ⟨w.heap.size, 0, none⟩)]) ∧ w.alloc (.cells #[.bool neg] 4) = w' := by
  go_enter Tryd.func60, Tryd.ntmps60
  go_wp2
  go_ret
  exact ⟨rfl, rfl⟩
theorem Fresh.from_ {w w0 w1 : World} {A : Option Addr} {c N : Nat} (h : Fresh w0 w1 A c N) (hb : Below w.heap.size w w0) : Fresh w w1 A c N :=
  ⟨own_mono h.1 hb.size, below_then hb h.2⟩
theorem Fresh.two {w w0 w1 : World} {A : Option Addr} {c N g : Nat} {a b : Value} (h : Fresh w0 w1 A c N) (hb : Below w.heap.size w w0) (hg : w.heap.size ≤ g) (hg2 : g < w0.heap.size) :
    Fresh w ((w1.setCell ⟨g, 0, none⟩ a).setCell ⟨g, 1, none⟩ b) A c N := by
  have h1 := own_mono h.1 (show g + 1 ≤ w0.heap.size from hg2)
  refine ⟨own_mono (own_two h1) hg, ?_⟩
  exact ((below_then hb h.2).setCell (p := ⟨g, 0, none⟩) hg a).setCell (p := ⟨g, 1, none⟩) hg b
theorem one_made (w : World) (v : Value) (t : TypeId) : (w.alloc (.cells #[v] t)).heap[w.heap.size]? = some (.cells #[v] t (0, 0)) := heap_alloc_new w _
theorem Two.set2 {w : World} {g : Nat} {t : TypeId} {a b a' b' : Value} (h : Two w g t a b) : Two ((w.setCell ⟨g, 0, none⟩ a').setCell ⟨g, 1, none⟩ b') g t a' b' := by
  unfold Two at h ⊢
  simp [World.setCell, Array.getElem?_modify, h]
theorem Mag.pair (w : World) (a b : Nat) (ha : a < 4294967296) (hb : b < 4294967296) : Mag (w.alloc (.cells #[.int .u32 a, .int .u32 b] 60)) (some ⟨w.heap.size, 0, none⟩) 2 2 (a + 4294967296 * b) := by
  refine ⟨[a, b], Nums.lim (t := 60) ?_, Low.cons ha (Low.cons hb Low.nil), rfl, by simp [val], Nat.le_refl _⟩
  exact Nums.made w 60 .u32 [a, b]
theorem Fresh.alloc {w w1 : World} {A : Option Addr} {c N : Nat} (h : Fresh w w1 A c N) (o : Obj) : Fresh w (w1.alloc o) A c N := ⟨h.1.alloc o, below_al h.2 o⟩
set_option maxHeartbeats 1600000 in
theorem of_pos (x : Nat) (hx : x ≤ 9223372036854775807) (w : World) :
    Calls Tryd.prog 40 #[.int .i64 x] w fun e w' => ∃ A c, e = .returned (.agg #[.bool (signB false x), .slice A (dl x) c]) ∧ Fresh w w' A c x := by
  have hfit : dl x ≤ 48 := Nat.le_trans ((dl_le x 2).2 (by omega)) (by decide)
  obtain ⟨lo, hlo⟩ : ∃ lo, lo = x % 4294967296 := ⟨_, rfl⟩
  obtain ⟨hi, hhi⟩ : ∃ hi, hi = x / 4294967296 := ⟨_, rfl⟩
  have blo : lo < 4294967296 := by omega
  have bhi : hi < 4294967296 := by omega
  have elo : (x : Int) % 4294967296 = lo := by omega
  have ehi : (x : Int) / 4294967296 = hi := by omega
  have HV : Hid (lo + 4294967296 * hi = x) := Lib.hid (by omega)
  clear hlo hhi
  obtain ⟨W, hW⟩ : ∃ W, W = (w.alloc (.cells #[.bool false, .slice none 0 0] 24)).alloc (.cells #[.bool false] 4) := ⟨_, rfl⟩
  have hbW : Below w.heap.size w W := by rw [hW]; exact below_al (below_al (Below.refl _ _) _) _
  have hT : Two W w.heap.size 24 (.bool false) (.slice none 0 0) := by rw [hW]; exact (Two.made w 24 _ _).alloc _
  have hB : W.heap[w.heap.size + 1]? = some (.cells #[.bool false] 4 (0, 0)) := by
    rw [hW]
    have := one_made (w.alloc (.cells #[.bool false, .slice none 0 0] 24)) (.bool false) 4
    simpa using this
  have hWs : W.heap.size = w.heap.size + 2 := by rw [hW]; simp
  go_enter Tryd.func40, Tryd.ntmps40
  go_wp2_with (go_at_call 60; refine (signed_any false _).mono ?_; rintro e w' ⟨rfl, rfl⟩)
  rw [← hW]
  have hM := Mag.pair W lo hi blo bhi
  rw [HV.out] at hM
  rw [hWs] at hM
  have hB2 := (Below.heap_alloc W (.cells #[.int .u32 lo, .int .u32 hi] 60) (w.heap.size + 1) (by omega)).trans hB
  refine (signed1_yes (w.heap.size + 1) false (some ⟨w.heap.size + 2, 0, none⟩) 2 2 x _ hB2 hM (by decide) hfit).mono ?_
  rintro e w1 ⟨A', c', rfl, hf⟩
  have hb1 : Below W.heap.size W w1 := below_then (below_al (Below.refl _ _) _) hf.2
  have k2 := (hT.below' hb1).fst
  have k3 := (hT.below' hb1).snd
  have k4 := (hT.below' hb1).free 0
  have k5 := (hT.below' hb1).free 1
  have hlt : w.heap.size < w1.heap.size := by have := hb1.size; omega
  have HW := Lib.hid hW
  have HWS := Lib.hid hWs
  clear hW hWs
  go_wp2
  have hr := fun o => ((hT.below' hb1).set2 (a' := .bool (signB false x)) (b' := .slice A' (dl x) c')).alloc o
  have r0 := fun o => (hr o).fst
  have r1 := fun o => (hr o).snd
  exact bodyPost_ret (v := .agg #[.bool (signB false x), .slice A' (dl x) c']) (by simp [results, Tryd.results40, go_sem, r0, r1]) rfl
    ⟨A', c', rfl, (hf.two (g := w.heap.size) (below_al hbW _) (Nat.le_refl _) (by have := HWS.out; simp; omega)).alloc _⟩
set_option maxHeartbeats 1600000 in
theorem of_neg (x : Nat) (hx : x ≤ 9223372036854775808) (h0 : 0 < x) (w : World) :
    Calls Tryd.prog 40 #[.int .i64 (-(x : Int))] w fun e w' => ∃ A c, e = .returned (.agg #[.bool (signB true x), .slice A (dl x) c]) ∧ Fresh w w' A c x := by
  have hfit : dl x ≤ 48 := Nat.le_trans ((dl_le x 2).2 (by omega)) (by decide)
  obtain ⟨lo, hlo⟩ : ∃ lo, lo = x % 4294967296 := ⟨_, rfl⟩
  obtain ⟨hi, hhi⟩ : ∃ hi, hi = x / 4294967296 := ⟨_, rfl⟩
  have blo : lo < 4294967296 := by omega
  have bhi : hi < 4294967296 := by omega
  have elo : (x : Int) % 4294967296 = lo := by omega
  have ehi : (x : Int) / 4294967296 = hi := by omega
  have HV : Hid (lo + 4294967296 * hi = x) := Lib.hid (by omega)
  clear hlo hhi
  obtain ⟨W, hW⟩ : ∃ W, W = (w.alloc (.cells #[.bool false, .slice none 0 0] 24)).alloc (.cells #[.bool true] 4) := ⟨_, rfl⟩
  have hbW : Below w.heap.size w W := by rw [hW]; exact below_al (below_al (Below.refl _ _) _) _
  have hT : Two W w.heap.size 24 (.bool false) (.slice none 0 0) := by rw [hW]; exact (Two.made w 24 _ _).alloc _
  have hB : W.heap[w.heap.size + 1]? = some (.cells #[.bool true] 4 (0, 0)) := by
    rw [hW]
    have := one_made (w.alloc (.cells #[.bool false, .slice none 0 0] 24)) (.bool true) 4
    simpa using this
  have hWs : W.heap.size = w.heap.size + 2 := by rw [hW]; simp
  have en : IntKind.u64.wrap (-IntKind.u64.wrap (-(x : Int))) = (x : Int) := by rw [IntKind.wrap_u64, IntKind.wrap_u64]; omega
  go_enter Tryd.func40, Tryd.ntmps40
  go_wp2_with (go_at_call 60; refine (signed_any true _).mono ?_; rintro e w' ⟨rfl, rfl⟩)
  rw [← hW]
  have hM := Mag.pair W lo hi blo bhi
  rw [HV.out] at hM
  rw [hWs] at hM
  have hB2 := (Below.heap_alloc W (.cells #[.int .u32 lo, .int .u32 hi] 60) (w.heap.size + 1) (by omega)).trans hB
  refine (signed1_yes (w.heap.size + 1) true (some ⟨w.heap.size + 2, 0, none⟩) 2 2 x _ hB2 hM (by decide) hfit).mono ?_
  rintro e w1 ⟨A', c', rfl, hf⟩
  have hb1 : Below W.heap.size W w1 := below_then (below_al (Below.refl _ _) _) hf.2
  have k2 := (hT.below' hb1).fst
  have k3 := (hT.below' hb1).snd
  have k4 := (hT.below' hb1).free 0
  have k5 := (hT.below' hb1).free 1
  have hlt : w.heap.size < w1.heap.size := by have := hb1.size; omega
  have HW := Lib.hid hW
  have HWS := Lib.hid hWs
  clear hW hWs
  go_wp2
  have hr := fun o => ((hT.below' hb1).set2 (a' := .bool (signB true x)) (b' := .slice A' (dl x) c')).alloc o
  have r0 := fun o => (hr o).fst
  have r1 := fun o => (hr o).snd
  exact bodyPost_ret (v := .agg #[.bool (signB true x), .slice A' (dl x) c']) (by simp [results, Tryd.results40, go_sem, r0, r1]) rfl
    ⟨A', c', rfl, (hf.two (g := w.heap.size) (below_al hbW _) (Nat.le_refl _) (by have := HWS.out; simp; omega)).alloc _⟩
set_option maxHeartbeats 800000 in
theorem may_nil (r : Bool) (A : Option Addr) (c : Nat) (w : World) :
    Calls Tryd.prog 51 #[.agg #[.bool r, .slice A 0 c]] w fun e w' => e = .returned (.bool (!r)) ∧ Below w.heap.size w w' := by
  have hT := Two.made w 24 (.bool r) (.slice A 0 c)
  have k1 := hT.snd
  have k0 := hT.fst
  go_enter Tryd.func51, Tryd.ntmps51
  go_wp2
  all_goals go_ret
  all_goals exact ⟨rfl, below_al (Below.refl _ _) _⟩
set_option maxHeartbeats 1600000 in
theorem may_more (r : Bool) (A : Option Addr) (n c : Nat) (xs : List Nat) (w : World) (h : Lim .u32 w.heap.size w A xs) (hn : Hid (xs.length = n)) (h0 : 0 < n) (hl : n ≤ 35184372088832) (L : Bool) (X : Nat) (hX : Hid (xs[n - 1]? = some X))
    (hL : (X = 0 ∧ L = false) ∨ (0 < X ∧ n ≤ 48 ∧ L = true) ∨ (0 < X ∧ 48 < n ∧ L = false)) :
    Calls Tryd.prog 51 #[.agg #[.bool r, .slice A n c]] w fun e w' => e = .returned (.bool L) ∧ Below w.heap.size w w' := by
  have hT := Two.made w 24 (.bool r) (.slice A n c)
  have k1 := hT.snd
  have k0 := hT.fst
  have hp : n - 1 < xs.length := by have := hn.out; omega
  obtain ⟨ad, rfl, hb, hc⟩ := h.at hp
  have e1 : xs[n - 1] = X := by
    have := hX.out
    rw [List.getElem?_eq_getElem hp] at this
    exact Option.some.inj this
  rw [e1] at hc
  have hc2 : (w.alloc (.cells #[.bool r, .slice (some ad) n c] 24)).cell? (ad.add (n - 1)) = some (.int .u32 X) := (World.cell?_alloc_lt w _ _ (by rw [add_block]; exact hb)).trans hc
  obtain ⟨p, hpn⟩ : ∃ p, p = n - 1 := ⟨_, rfl⟩
  have en : (n : Int) - 1 = (p : Int) := by omega
  have hpl : p < n := by omega
  rw [← hpn] at hc2
  clear hc e1 hp hX hn h hpn hb hT
  rcases hL with ⟨rfl, rfl⟩ | ⟨hx, h48, rfl⟩ | ⟨hx, h48, rfl⟩
  · go_enter Tryd.func51, Tryd.ntmps51
    go_wp2
    all_goals go_ret
    all_goals exact ⟨rfl, below_al (Below.refl _ _) _⟩
  · have ex : ((X : Int) != 0) = true := by simp; omega
    go_enter Tryd.func51, Tryd.ntmps51
    go_wp2
    all_goals go_ret
    all_goals exact ⟨by first | rfl | (simp; omega), below_al (Below.refl _ _) _⟩
  · have ex : ((X : Int) != 0) = true := by simp; omega
    go_enter Tryd.func51, Tryd.ntmps51
    go_wp2
    all_goals go_ret
    all_goals exact ⟨by first | rfl | (simp; omega), below_al (Below.refl _ _) _⟩
end Go.Proofs.YtkffojipgphneaaDoor.Nm
