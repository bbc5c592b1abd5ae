import Derived.Test.YtocoflojlliapaaDoorK2
set_option linter.unusedVariables false
namespace Go.Proofs.YtocoflojlliapaaDoor
open Go.RowKit
theorem own_ge {w : World} {base e n : Nat} {v : Value} {xs : List Value} (h : w.ownsRow base e 1 v n xs) : ∀ g, v.ownBlock = some g → base ≤ g := by
  intro g hg
  rcases h.2 with ⟨rfl, _⟩ | ⟨g', cap, cur, rfl, hb, _⟩
  · simp [Value.ownBlock] at hg
  · have : g' = g := by simpa [Value.ownBlock] using hg
    omega
/-- behind an append to a row of the call's own, all that was there stands -/
theorem below_own {w w1 w2 : World} {e n : Nat} {v : Value} {xs : List Value} (hb : Below w.heap.size w w1) (h : w1.ownsRow w.heap.size e 1 v n xs) (hg : w1.grownBy w2 v.ownBlock) : Below w.heap.size w w2 :=
  hb.grown hg hb.size (own_ge h)
theorem own_nil {w : World} {base e : Nat} : w.ownsRow base e 1 (.slice none 0 0) 0 [] := World.ownsRow_nil _ _ _ _
/-- a slice value's parts -/
theorem own_slice {w : World} {base e n : Nat} {v : Value} {xs : List Value} (h : w.ownsRow base e 1 v n xs) : ∃ A c, v = .slice A n c := by
  rcases h.2 with ⟨rfl, rfl⟩ | ⟨g', cap, cur, rfl, hb, _⟩
  · exact ⟨_, _, rfl⟩
  · exact ⟨_, _, rfl⟩
theorem own_cap {w : World} {base e n c : Nat} {A : Option Addr} {xs : List Value} (h : w.ownsRow base e 1 (.slice A n c) n xs) : n ≤ c := by
  rcases h.2 with ⟨h0, rfl⟩ | ⟨g', cap, cur, hv, hb, hh, hc, _⟩
  · exact Nat.zero_le _
  · injection hv with _ _ hcap
    omega
theorem run_append_zero (t e : TypeId) (ht : Tryd.prog.underlying t = some (.slice e)) {z : Value} {s b : Nat} (hinfo : (Tryd.prog.info? e).map (fun i => (i.zero, i.size, i.bytes)) = some (some z, s, b))
    (base : Nat) (v : Value) (n : Nat) (xs : List Value) (A : Option Addr) (c : Nat) (w : World) (hown : w.ownsRow base e 1 v n xs) : (Builtin.append_ #[t, t] t #[v, .slice A 0 c]).run Tryd.prog w = .ok v w := by
  obtain ⟨i0, hi, hz0, hz1, hz2⟩ := info_parts hinfo
  rcases hown.2 with ⟨rfl, rfl⟩ | ⟨g, cap, cur, rfl, _, _, hnc, _⟩
  · rcases A with _ | ad <;> simp [Builtin.append_, run_underlying ht, sizeOf, typeInfo, hi, Builtin.lenOf, Builtin.firstCells, loadCells, loadCellsFrom]
  · rcases A with _ | ad <;> simp [Builtin.append_, run_underlying ht, sizeOf, typeInfo, hi, Builtin.lenOf, Builtin.firstCells, loadCells, loadCellsFrom, hnc, storeCells]
theorem app_any {k : IntKind} (t e : TypeId) (bytes : Nat) (ht : Tryd.prog.underlying t = some (.slice e)) (hinfo : (Tryd.prog.info? e).map (fun i => (i.zero, i.size, i.bytes)) = some (some (.int k 0), 1, bytes)) (hby : bytes ≤ 4)
    (w : World) {ops : Array Oper} {rest : List Oper} {o : Oper} {a : Act} {Q : Exit → Act → World → Prop} (hgd : o.guard = none) (s x : Operand)
    (ho : o.op = .call { callee := .builtin .append, args := #[s, x], argTypes := #[t, t] }) (hty : o.type = t) (base : Nat) (v : Value) (n : Nat) (xs : List Nat) (hs : a.eval s = v) (hown : w.ownsRow base e 1 v n (cl k xs))
    (B : Nat) (A : Option Addr) (m c : Nat) (ys : List Nat) (hx : a.eval x = .slice A m c) (hlim : Lim k B w A ys) (hm : Hid (ys.length = m)) (hb : n + m ≤ 17592186044416) (hbase : base ≤ w.heap.size)
    (h : ∀ v' w', w'.ownsRow base e 1 v' (n + m) (cl k (xs ++ ys)) → w.grownBy w' v.ownBlock → wpList Tryd.prog ops Q rest (a.put o.dst v') w') : wpList Tryd.prog ops Q (o :: rest) a w := by
  by_cases hy : ys = []
  · subst hy
    have hm0 : m = 0 := by
      have := hm.out
      simpa using this.symm
    subst hm0
    refine wpList_plain hgd fun _ hK => ?_
    have hrun := run_append_zero t e ht hinfo base v n _ A c w hown
    unfold Oper.wp execOp
    simp only [ho, hty, resolve, invoke, builtin, Sem.run_bind, Sem.run_pure, Result.andThen_ok, List.map_toArray, List.map_cons, List.map_nil, hs, hx, hrun]
    exact hK _ _ (h v w (by simpa using hown) (World.grownBy.refl w _))
  · obtain ⟨ad, rfl, _, _⟩ := hlim hy
    obtain ⟨i0, hi, hz0, hz1, hz2⟩ := info_parts hinfo
    refine wpList_append_own w hgd s x t ho base e i0 _ 1 bytes ht hi hz0 hz1 hz2 rfl (by decide) v n (cl k xs) hs hown ad m c (cl k ys) hx (by rw [cl_len, Nat.mul_one]; exact hm.out) hlim.cells (cl_one _ _) (by unfold maxLen; omega) ?_ hbase ?_
    · have : (n + m) * bytes ≤ 17592186044416 * 4 := Nat.mul_le_mul hb hby
      omega
    · intro v' w' h1 h2 _
      refine h v' w' ?_ h2
      rw [cl_append]
      exact h1
/-- one cell that holds a number, as a slice of one -/
theorem one_lim (k : IntKind) (w : World) (t : TypeId) (x : Nat) : Lim k (w.alloc (.cells #[.int k x] t)).heap.size (w.alloc (.cells #[.int k x] t)) (some ⟨w.heap.size, 0, none⟩) [x] := by
  intro _
  refine ⟨_, rfl, by simp, fun i hi => ?_⟩
  have : i = 0 := by simpa using hi
  subst this
  rw [add_none, Nat.add_zero]
  have := Nums.made w t k [x]
  exact this.at (i := 0) (by simp)
theorem own_mono {w : World} {base base' e n : Nat} {v : Value} {xs : List Value} (h : w.ownsRow base e 1 v n xs) (hb : base' ≤ base) : w.ownsRow base' e 1 v n xs := by
  refine ⟨h.1, ?_⟩
  rcases h.2 with h0 | ⟨g, cap, cur, hv, hg, rest⟩
  · exact .inl h0
  · exact .inr ⟨g, cap, cur, hv, by omega, rest⟩
theorem own_two {w : World} {g e n : Nat} {v a b : Value} {xs : List Value} (h : w.ownsRow (g + 1) e 1 v n xs) : ((w.setCell ⟨g, 0, none⟩ a).setCell ⟨g, 1, none⟩ b).ownsRow g e 1 v n xs :=
  own_mono (ownsRow_setCell_below (ownsRow_setCell_below h (a := ⟨g, 0, none⟩) (Nat.lt_succ_self g) a) (a := ⟨g, 1, none⟩) (Nat.lt_succ_self g) b) (Nat.le_succ g)
/-- a struct of two cells in a block of its own -/
def Two (w : World) (g : Nat) (t : TypeId) (a b : Value) : Prop := w.heap[g]? = some (.cells #[a, b] t (0, 0))
section
variable {w w' : World} {g : Nat} {t : TypeId} {a b : Value}
theorem Two.fst (h : Two w g t a b) : w.cell? ⟨g, 0, none⟩ = some a := cell_of_row w g 0 _ t (0, 0) h
theorem Two.snd (h : Two w g t a b) : w.cell? ⟨g, 1, none⟩ = some b := cell_of_row w g 1 _ t (0, 0) h
theorem Two.free (h : Two w g t a b) (i : Nat) : w.frozen? ⟨g, i, none⟩ = false := by
  unfold Two at h
  simp [World.frozen?, h]
theorem Two.lt (h : Two w g t a b) : g < w.heap.size := by
  rcases Nat.lt_or_ge g w.heap.size with h1 | h1
  · exact h1
  · unfold Two at h
    rw [Array.getElem?_eq_none h1] at h
    cases h
theorem Two.made (w : World) (t : TypeId) (a b : Value) : Two (w.alloc (.cells #[a, b] t)) w.heap.size t a b := heap_alloc_new w _
theorem Two.below {B : Nat} (h : Two w g t a b) (hb : Below B w w') (hg : g < B) : Two w' g t a b := (hb.block g hg).trans h
theorem Two.below' (h : Two w g t a b) (hb : Below w.heap.size w w') : Two w' g t a b := (hb.block g h.lt).trans h
theorem Two.grown {row : Option Nat} (h : Two w g t a b) (hb : w.grownBy w' row) (hg : some g ≠ row) : Two w' g t a b := (hb.block g h.lt hg).trans h
theorem Two.alloc (h : Two w g t a b) (o : Obj) : Two (w.alloc o) g t a b := (Below.heap_alloc w o g h.lt).trans h
theorem Two.drewN (h : Two w g t a b) (n : Nat) : Two (w.drewN n) g t a b := h
end
end Go.Proofs.YtocoflojlliapaaDoor
set_option linter.unusedVariables false
namespace Go.Proofs.YtocoflojlliapaaDoor
open Go.RowKit
/-- the sign that a number of this magnitude has -/
def signB (neg : Bool) (N : Nat) : Bool := neg && decide (N ≠ 0)
theorem signB_zero (neg : Bool) : signB neg 0 = false := by simp [signB]
theorem signB_pos (neg : Bool) {N : Nat} (h : N ≠ 0) : signB neg N = neg := by simp [signB, h]
/-- a number that may be, in memory of its own -/
def Fresh (w w' : World) (A : Option Addr) (c N : Nat) : Prop :=
  w'.ownsRow w.heap.size 43 1 (.slice A (digs 4294967296 N).length c) (digs 4294967296 N).length (cl .u32 (digs 4294967296 N)) ∧ Below w.heap.size w w'
set_option maxHeartbeats 800000 in
theorem signed1_big (b : Nat) (neg : Bool) (A : Option Addr) (xs : List Nat) (n c : Nat) (w : World) (hb : w.heap[b]? = some (.cells #[.bool neg] 4 (0, 0))) (hx : Lim .u32 w.heap.size w A xs) (hlow : Low 4294967296 xs)
    (l1 : Hid (xs.length = n)) (hc : n ≤ c) (hl : n ≤ 35184372088832) (hN : 48 < (digs 4294967296 (val 4294967296 xs)).length) :
    Calls Tryd.prog 79 #[.slice A n c, .pointer (some ⟨b, 0, none⟩)] w fun e w' => e = .returned (.tuple #[.agg #[.bool false, .slice none 0 0], .int .i64 6]) ∧ Below w.heap.size w w' := by
  have ht : Hid (digs 4294967296 (val 4294967296 xs) = trimL xs) := Lib.hid (digs_of (by decide) hlow)
  rw [ht.out] at hN
  have hle : (trimL xs).length ≤ 35184372088832 := Nat.le_trans (trimL_len xs) (by rw [l1.out]; exact hl)
  go_enter Tryd.func79, Tryd.ntmps79
  go_wp2_with (first
    | (go_at_call 54; refine (trim_at A xs n c _ _ l1 (hx.alloc (Nat.le_refl _) _) hc (by omega)).mono ?_; rintro e w' ⟨rfl, rfl⟩))
  all_goals exact bodyPost_ret (v := .tuple #[.agg #[.bool false, .slice none 0 0], .int .i64 6]) (by simp [results, Tryd.results79, go_sem]) rfl ⟨rfl, (Below.refl _ _).alloc (Nat.le_refl _) _⟩
set_option maxHeartbeats 800000 in
theorem signed1_fit (b : Nat) (neg : Bool) (A : Option Addr) (xs : List Nat) (n c : Nat) (w : World) (hb : w.heap[b]? = some (.cells #[.bool neg] 4 (0, 0))) (hx : Lim .u32 w.heap.size w A xs) (hlow : Low 4294967296 xs)
    (l1 : Hid (xs.length = n)) (hc : n ≤ c) (hl : n ≤ 35184372088832) (N : Nat) (hN : Hid (val 4294967296 xs = N)) (hfit : (digs 4294967296 N).length ≤ 48) :
    Calls Tryd.prog 79 #[.slice A n c, .pointer (some ⟨b, 0, none⟩)] w fun e w' => ∃ A' c', e = .returned (.tuple #[.agg #[.bool (signB neg N), .slice A' (digs 4294967296 N).length c'], .int .i64 0]) ∧ Fresh w w' A' c' N := by
  have ht : trimL xs = digs 4294967296 N := by rw [← hN.out]; exact (digs_of (by decide) hlow).symm
  have hlt := lt_of_block hb
  have hlim := hx.trim
  have TR := fun w' h => trim_at A xs n c w.heap.size w' l1 h hc (by omega)
  rw [ht] at hlim TR
  have hsz : Hid ((digs 4294967296 N).length = 0 → N = 0) := Lib.hid (fun h => (digs_nil (b := 4294967296) (by decide)).1 (List.length_eq_zero_iff.1 h))
  have hsz2 : Hid (N = 0 → (digs 4294967296 N).length = 0) := Lib.hid (fun h => by rw [h]; rfl)
  obtain ⟨D, hD⟩ : ∃ D, D = digs 4294967296 N := ⟨_, rfl⟩
  obtain ⟨m, hm⟩ : ∃ m, m = D.length := ⟨_, rfl⟩
  unfold Fresh
  rw [← hD, ← hm] at hfit hsz hsz2 TR ⊢
  rw [← hD] at hlim
  have HM := Lib.hid hm.symm
  clear hD hm ht
  have HT : ∀ w', Lim .u32 w.heap.size w' A xs → Hid (Calls Tryd.prog 54 #[.slice A n c] w' fun e w'' => e = .returned (.slice A m c) ∧ w' = w'') := fun w' h => Lib.hid (TR w' h)
  have HB := Lib.hid hb
  clear TR hb
  have hcb : ∀ w', (w.alloc (.cells #[.bool false, .slice none 0 0] 24)).grownBy w' none → w'.cell? ⟨b, 0, none⟩ = some (.bool neg) := fun w' hg => (World.cell?_of_block (hg.block b (by simp; omega) (by simp))).trans ((World.cell?_alloc_lt w _ ⟨b, 0, none⟩ hlt).trans (cell_of_one HB.out))
  have hbk : ∀ w', (w.alloc (.cells #[.bool false, .slice none 0 0] 24)).grownBy w' none → Two w' w.heap.size 24 (.bool false) (.slice none 0 0) := fun w' hg => (Two.made w 24 _ _).grown hg (by simp)
  have hbel : ∀ w', (w.alloc (.cells #[.bool false, .slice none 0 0] 24)).grownBy w' none → Below w.heap.size w w' := fun w' hg => ((Below.refl _ _).alloc (Nat.le_refl _) _).grown hg (by simp) (by simp)
  have HS : m = 0 ∨ 0 < m := by omega
  rcases HS with h0 | h0
  · subst h0
    have hsb : Hid (signB neg N = false) := Lib.hid (by rw [hsz.out rfl]; exact signB_zero neg)
    cases neg
    all_goals
      go_enter Tryd.func79, Tryd.ntmps79
      go_wp2_with (first
        | (go_at_call 54; refine ((HT _ (hx.alloc (Nat.le_refl _) _)).out).mono ?_; rintro e w' ⟨rfl, rfl⟩)
        | (at_builtin; refine app_any (k := .u32) 22 43 4 Tryd.underlying22 u32_info (by decide) _ rfl _ _ rfl rfl (w.heap.size + 1) (.slice none 0 0) 0 [] rfl own_nil w.heap.size A 0 c D rfl (hlim.alloc (Nat.le_refl _) _) HM (by decide) (by simp) ?_; intro v1 w1 hown hgr; have hcell := hcb w1 hgr; have hk0 := (hbk w1 hgr).fst; have hk1 := (hbk w1 hgr).snd; have hf0 := (hbk w1 hgr).free 0; have hf1 := (hbk w1 hgr).free 1; have hbl := hbel w1 hgr; obtain ⟨A1, c1, rfl⟩ := own_slice hown; clear hgr hcb hbk hbel))
      rw [hsb.out]
      exact bodyPost_ret (v := .tuple #[.agg #[.bool false, .slice A1 0 c1], .int .i64 0]) (by simp [results, Tryd.results79, go_sem, hk0, hk1]) rfl ⟨A1, c1, rfl, own_two (by simpa using hown), (hbl.setCell (p := ⟨w.heap.size, 0, none⟩) (Nat.le_refl _) _).setCell (p := ⟨w.heap.size, 1, none⟩) (Nat.le_refl _) _⟩
  · have hsb : Hid (signB neg N = neg) := Lib.hid (signB_pos neg (fun h => by have := hsz2.out h; omega))
    cases neg
    all_goals
      go_enter Tryd.func79, Tryd.ntmps79
      go_wp2_with (first
        | (go_at_call 54; refine ((HT _ (hx.alloc (Nat.le_refl _) _)).out).mono ?_; rintro e w' ⟨rfl, rfl⟩)
        | (at_builtin; refine app_any (k := .u32) 22 43 4 Tryd.underlying22 u32_info (by decide) _ rfl _ _ rfl rfl (w.heap.size + 1) (.slice none 0 0) 0 [] rfl own_nil w.heap.size A m c D rfl (hlim.alloc (Nat.le_refl _) _) HM (by omega) (by simp) ?_; intro v1 w1 hown hgr; have hcell := hcb w1 hgr; have hk0 := (hbk w1 hgr).fst; have hk1 := (hbk w1 hgr).snd; have hf0 := (hbk w1 hgr).free 0; have hf1 := (hbk w1 hgr).free 1; have hbl := hbel w1 hgr; obtain ⟨A1, c1, rfl⟩ := own_slice hown; clear hgr hcb hbk hbel))
      rw [hsb.out]
      exact bodyPost_ret (v := .tuple #[.agg #[.bool _, .slice A1 m c1], .int .i64 0]) (by simp [results, Tryd.results79, go_sem, hk0, hk1]) rfl ⟨A1, c1, rfl, own_two (by simpa using hown), (hbl.setCell (p := ⟨w.heap.size, 0, none⟩) (Nat.le_refl _) _).setCell (p := ⟨w.heap.size, 1, none⟩) (Nat.le_refl _) _⟩
end Go.Proofs.YtocoflojlliapaaDoor
set_option linter.unusedVariables false
namespace Go.Proofs.YtocoflojlliapaaDoor
open Go.RowKit
/-- how many limbs a value needs -/
def dl (N : Nat) : Nat := (digs 4294967296 N).length
/-- the slice at A of n limbs comes to N in w -/
def Mag (w : World) (A : Option Addr) (n c N : Nat) : Prop := ∃ xs, Lim .u32 w.heap.size w A xs ∧ Low 4294967296 xs ∧ xs.length = n ∧ val 4294967296 xs = N ∧ n ≤ c
section
variable {w w' : World} {A : Option Addr} {n c N : Nat}
theorem Mag.below (h : Mag w A n c N) (hb : Below w.heap.size w w') : Mag w' A n c N := by
  obtain ⟨xs, h1, h2, h3, h4, h5⟩ := h
  exact ⟨xs, h1.below' hb, h2, h3, h4, h5⟩
theorem Mag.drewN (h : Mag w A n c N) (m : Nat) : Mag (w.drewN m) A n c N := h
theorem Mag.drew (h : Mag w A n c N) : Mag w.drew A n c N := h
theorem Mag.alloc (h : Mag w A n c N) (o : Obj) : Mag (w.alloc o) A n c N := h.below ((Below.refl _ _).alloc (Nat.le_refl _) _)
theorem Mag.trim (h : Mag w A n c N) : Mag w A (dl N) c N := by
  obtain ⟨xs, h1, h2, h3, h4, h5⟩ := h
  have ht : trimL xs = digs 4294967296 N := by rw [← h4]; exact (digs_of (by decide) h2).symm
  refine ⟨trimL xs, h1.trim, ?_, ?_, ?_, ?_⟩
  · rw [ht]
    exact digs_low (by decide) N
  · rw [ht]
    rfl
  · rw [val_trim (by decide) h2, h4]
  · have := trimL_len xs
    rw [ht] at this
    unfold dl
    omega
theorem Mag.list (h : Mag w A (dl N) c N) : Lim .u32 w.heap.size w A (digs 4294967296 N) := by
  obtain ⟨xs, h1, h2, h3, h4, h5⟩ := h
  have ht : trimL xs = digs 4294967296 N := by rw [← h4]; exact (digs_of (by decide) h2).symm
  have e : trimL xs = xs := by
    rw [trimL_take, ht]
    unfold dl at h3
    rw [← h3, List.take_length]
  rw [← ht, e]
  exact h1
theorem Mag.le (h : Mag w A n c N) : dl N ≤ n := by
  obtain ⟨xs, h1, h2, h3, h4, h5⟩ := h
  have ht : trimL xs = digs 4294967296 N := by rw [← h4]; exact (digs_of (by decide) h2).symm
  have := trimL_len xs
  rw [ht, h3] at this
  exact this
theorem Mag.cap (h : Mag w A n c N) : n ≤ c := by
  obtain ⟨xs, h1, h2, h3, h4, h5⟩ := h
  exact h5
theorem Mag.none_ (w : World) : Mag w none 0 0 0 := ⟨[], Lim.empty none, Low.nil, rfl, rfl, Nat.le_refl 0⟩
theorem Mag.empty (w : World) (A : Option Addr) (c : Nat) : Mag w A 0 c 0 := ⟨[], Lim.empty A, Low.nil, rfl, rfl, Nat.zero_le c⟩
theorem Mag.of_made {n v : Nat} (h : Made w w' n v) : Mag w' (some ⟨w.heap.size, 0, none⟩) n n v ∧ Below w.heap.size w w' := by
  obtain ⟨zs, h1, h2, h3, h4, h5⟩ := h
  exact ⟨⟨zs, h4.lim, h2, h1, h3, Nat.le_refl _⟩, h5⟩
theorem Mag.of_fresh (h : Fresh w w' A c N) : Mag w' A (dl N) c N ∧ Below w.heap.size w w' :=
  ⟨⟨_, Lim.of_own h.1, digs_low (by decide) N, rfl, digs_val (by decide) N, own_cap h.1⟩, h.2⟩
end
theorem dl_zero : dl 0 = 0 := rfl
theorem dl_pos {N : Nat} (h : N ≠ 0) : 0 < dl N := by
  unfold dl
  rcases hd : digs 4294967296 N with _ | ⟨x, l⟩
  · exact absurd ((digs_nil (by decide)).1 hd) h
  · simp
theorem dl_le (N k : Nat) : dl N ≤ k ↔ N < 4294967296 ^ k := digs_len_le (by decide) N k
theorem dl_mono {m n : Nat} (h : m ≤ n) : dl m ≤ dl n := digs_len_mono (by decide) h
theorem dl_low (N : Nat) (h : N ≠ 0) : 4294967296 ^ (dl N - 1) ≤ N := digs_pow (by decide) N h
theorem lt_dl (N : Nat) : N < 4294967296 ^ dl N := digs_lt_pow (by decide) N
/-! ### the rows' functions, by their values -/
theorem trim_mag (A : Option Addr) (n c N : Nat) (w : World) (h : Mag w A n c N) (hl : n ≤ 35184372088832) :
    Calls Tryd.prog 54 #[.slice A n c] w fun e w' => e = .returned (.slice A (dl N) c) ∧ w = w' := by
  obtain ⟨xs, h1, h2, h3, h4, h5⟩ := h
  have := trim_at A xs n c _ w (Lib.hid h3) h1 h5 (by omega)
  have ht : trimL xs = digs 4294967296 N := by rw [← h4]; exact (digs_of (by decide) h2).symm
  rw [ht] at this
  exact this
theorem compare_mag (A1 A2 : Option Addr) (c1 c2 a b : Nat) (w : World) (h1 : Mag w A1 (dl a) c1 a) (h2 : Mag w A2 (dl b) c2 b) (l1 : dl a ≤ 1000000) (l2 : dl b ≤ 1000000) :
    Calls Tryd.prog 57 #[.slice A1 (dl a) c1, .slice A2 (dl b) c2] w fun e w' => e = .returned (.int .i64 (cmpN a b)) ∧ ∃ m, w' = w.drewN m :=
  compare_any A1 A2 a b c1 c2 _ w h1.list h2.list (by unfold dl at l1; omega) (by unfold dl at l2; omega)
theorem plus_mag (A1 A2 : Option Addr) (n1 n2 c1 c2 a b : Nat) (w : World) (h1 : Mag w A1 n1 c1 a) (h2 : Mag w A2 n2 c2 b) (l1 : n1 ≤ 1000000) (l2 : n2 ≤ 1000000) :
    Calls Tryd.prog 80 #[.slice A1 n1 c1, .slice A2 n2 c2] w fun e w' => e = .returned (.slice (some ⟨w.heap.size, 0, none⟩) (max n1 n2 + 1) (max n1 n2 + 1)) ∧ Mag w' (some ⟨w.heap.size, 0, none⟩) (max n1 n2 + 1) (max n1 n2 + 1) (a + b) ∧ Below w.heap.size w w' := by
  obtain ⟨xs, p1, p2, p3, p4, p5⟩ := h1
  obtain ⟨ys, q1, q2, q3, q4, q5⟩ := h2
  subst p3 p4 q3 q4
  exact (plus_any A1 A2 xs ys c1 c2 w p1 q1 p2 q2 l1 l2).mono fun _ _ ⟨he, hm⟩ => ⟨he, Mag.of_made hm⟩
theorem minus_mag (A1 A2 : Option Addr) (n1 n2 c1 c2 a b : Nat) (w : World) (h1 : Mag w A1 n1 c1 a) (h2 : Mag w A2 n2 c2 b) (l1 : n1 ≤ 1000000) (l2 : n2 ≤ n1) (hab : Hid (b ≤ a)) :
    Calls Tryd.prog 63 #[.slice A1 n1 c1, .slice A2 n2 c2] w fun e w' => e = .returned (.slice (some ⟨w.heap.size, 0, none⟩) n1 n1) ∧ Mag w' (some ⟨w.heap.size, 0, none⟩) n1 n1 (a - b) ∧ Below w.heap.size w w' := by
  obtain ⟨xs, p1, p2, p3, p4, p5⟩ := h1
  obtain ⟨ys, q1, q2, q3, q4, q5⟩ := h2
  subst p4 q4
  exact (minus_at A1 A2 xs ys c1 c2 n1 n2 w p1 q1 p2 q2 (Lib.hid p3) (Lib.hid q3) l2 l1 hab).mono fun _ _ ⟨he, hm⟩ => ⟨he, Mag.of_made hm⟩
theorem times_mag (A1 A2 : Option Addr) (n1 n2 c1 c2 a b : Nat) (w : World) (h1 : Mag w A1 n1 c1 a) (h2 : Mag w A2 n2 c2 b) (l1 : n1 ≤ 1000000) (l2 : n2 ≤ 1000000) :
    Calls Tryd.prog 61 #[.slice A1 n1 c1, .slice A2 n2 c2] w fun e w' => e = .returned (.slice (some ⟨w.heap.size, 0, none⟩) (n1 + n2) (n1 + n2)) ∧ Mag w' (some ⟨w.heap.size, 0, none⟩) (n1 + n2) (n1 + n2) (a * b) ∧ Below w.heap.size w w' := by
  obtain ⟨xs, p1, p2, p3, p4, p5⟩ := h1
  obtain ⟨ys, q1, q2, q3, q4, q5⟩ := h2
  subst p4 q4
  exact (times_at A1 A2 xs ys c1 c2 n1 n2 w p1 q1 p2 q2 (Lib.hid p3) (Lib.hid q3) l1 l2).mono fun _ _ ⟨he, hm⟩ => ⟨he, Mag.of_made hm⟩
theorem byLimb_mag (A : Option Addr) (n c N y : Nat) (w : World) (h : Mag w A n c N) (hl : n ≤ 1000000) (y0 : 0 < y) (y1 : y < 4294967296) :
    Calls Tryd.prog 66 #[.slice A n c, .int .u32 y] w fun e w' => e = .returned (.tuple #[.slice (some ⟨w.heap.size, 0, none⟩) (dl (N / y)) n, .int .u32 (N % y : Nat)]) ∧ Mag w' (some ⟨w.heap.size, 0, none⟩) (dl (N / y)) n (N / y) ∧ Below w.heap.size w w' := by
  obtain ⟨xs, p1, p2, p3, p4, p5⟩ := h
  have hlen : (digs 4294967296 (N / y)).length ≤ n := by
    have h1 : (digs 4294967296 (N / y)).length ≤ (digs 4294967296 N).length := digs_len_mono (by decide) (Nat.div_le_self N y)
    have h2 := trimL_len xs
    rw [← digs_of (by decide) p2, p4] at h2
    omega
  subst p4
  exact (byLimb_at A xs c n y w p1 p2 (Lib.hid p3) hl y0 y1).mono fun _ _ ⟨he, hg⟩ => ⟨he, ⟨_, hg.1, digs_low (by decide) _, rfl, digs_val (by decide) _, hlen⟩, hg.2⟩
/-- the closure of signed: the number fits -/
theorem signed1_yes (b : Nat) (neg : Bool) (A : Option Addr) (n c N : Nat) (w : World) (hb : w.heap[b]? = some (.cells #[.bool neg] 4 (0, 0))) (h : Mag w A n c N) (hl : n ≤ 35184372088832) (hfit : dl N ≤ 48) :
    Calls Tryd.prog 79 #[.slice A n c, .pointer (some ⟨b, 0, none⟩)] w fun e w' => ∃ A' c', e = .returned (.tuple #[.agg #[.bool (signB neg N), .slice A' (dl N) c'], .int .i64 0]) ∧ Fresh w w' A' c' N := by
  obtain ⟨xs, p1, p2, p3, p4, p5⟩ := h
  exact signed1_fit b neg A xs n c w hb p1 p2 (Lib.hid p3) p5 hl N (Lib.hid p4) hfit
theorem signed1_no (b : Nat) (neg : Bool) (A : Option Addr) (n c N : Nat) (w : World) (hb : w.heap[b]? = some (.cells #[.bool neg] 4 (0, 0))) (h : Mag w A n c N) (hl : n ≤ 35184372088832) (hbig : 48 < dl N) :
    Calls Tryd.prog 79 #[.slice A n c, .pointer (some ⟨b, 0, none⟩)] w fun e w' => e = .returned (.tuple #[.agg #[.bool false, .slice none 0 0], .int .i64 6]) ∧ Below w.heap.size w w' := by
  obtain ⟨xs, p1, p2, p3, p4, p5⟩ := h
  subst p4
  exact signed1_big b neg A xs n c w hb p1 p2 (Lib.hid p3) p5 hl hbig
end Go.Proofs.YtocoflojlliapaaDoor
set_option linter.unusedVariables false
namespace Go.Proofs.YtocoflojlliapaaDoor
open Go.RowKit
/-- a number's value -/
def sg (neg : Bool) (N : Nat) : Int := if neg then -(N : Int) else N
def cmpI (x y : Int) : Int := if x < y then -1 else if y < x then 1 else 0
theorem cmpI_lt {x y : Int} (h : x < y) : cmpI x y = -1 := by unfold cmpI; rw [if_pos h]
theorem cmpI_gt {x y : Int} (h : y < x) : cmpI x y = 1 := by unfold cmpI; rw [if_neg (by omega), if_pos h]
theorem cmpI_eq {x y : Int} (h : x = y) : cmpI x y = 0 := by unfold cmpI; rw [if_neg (by omega), if_neg (by omega)]
theorem sg_zero (neg : Bool) : sg neg 0 = 0 := by cases neg <;> simp [sg]
theorem sg_true (N : Nat) : sg true N = -(N : Int) := by simp [sg]
theorem sg_false (N : Nat) : sg false N = N := by simp [sg]
theorem sg_signB (neg : Bool) (N : Nat) : sg (signB neg N) N = sg neg N := by
  by_cases h : N = 0
  · subst h
    rw [sg_zero, sg_zero]
  · rw [signB_pos neg h]
set_option maxHeartbeats 800000 in
theorem sign_any (neg : Bool) (A : Option Addr) (n c N : Nat) (w : World) (h : Mag w A n c N) (hl : n ≤ 35184372088832) :
    Calls Tryd.prog 27 #[.agg #[.bool neg, .slice A n c]] w fun e w' => e = .returned (.int .i64 (cmpI (sg neg N) 0)) ∧ w.alloc (.cells #[.bool neg, .slice A n c] 24) = w' := by
  have hm := h.alloc (.cells #[.bool neg, .slice A n c] 24)
  by_cases h0 : N = 0
  · subst h0
    have F : Hid (cmpI (sg neg 0) 0 = 0) := Lib.hid (cmpI_eq (sg_zero neg))
    have hd : dl 0 = 0 := dl_zero
    go_enter Tryd.func27, Tryd.ntmps27
    go_wp2_with (go_at_call 54; refine (trim_mag A n c 0 _ hm hl).mono ?_; rintro e w' ⟨rfl, rfl⟩)
    go_ret
    rw [F.out]
    exact ⟨rfl, rfl⟩
  · have hp := dl_pos h0
    have hd : ((dl N : Int) == 0) = false := beq_eq_false_iff_ne.2 (by omega)
    cases neg
    · have F : Hid (cmpI (sg false N) 0 = 1) := Lib.hid (cmpI_gt (by rw [sg_false]; omega))
      go_enter Tryd.func27, Tryd.ntmps27
      go_wp2_with (go_at_call 54; refine (trim_mag A n c N _ hm hl).mono ?_; rintro e w' ⟨rfl, rfl⟩)
      go_ret
      rw [F.out]
      exact ⟨rfl, rfl⟩
    · have F : Hid (cmpI (sg true N) 0 = -1) := Lib.hid (cmpI_lt (by rw [sg_true]; omega))
      go_enter Tryd.func27, Tryd.ntmps27
      go_wp2_with (go_at_call 54; refine (trim_mag A n c N _ hm hl).mono ?_; rintro e w' ⟨rfl, rfl⟩)
      go_ret
      rw [F.out]
      exact ⟨rfl, rfl⟩
theorem below_al {w w1 : World} (hb : Below w.heap.size w w1) (o : Obj) : Below w.heap.size w (w1.alloc o) := hb.alloc hb.size o
theorem signed_any (neg : Bool) (w : World) :
    Calls Tryd.prog 52 #[.bool neg] w fun e w' => e = .returned (.func (Fn.func 79) #[] #[.pointer (some ⟨w.heap.size, 0, none⟩)]) ∧ w.alloc (.cells #[.bool neg] 4) = w' := by
  go_enter Tryd.func52, Tryd.ntmps52
  go_wp2
  go_ret
  exact ⟨rfl, rfl⟩
theorem cmpI_sign (x : Int) : cmpI x 0 = -1 ∧ x < 0 ∨ cmpI x 0 = 0 ∧ x = 0 ∨ cmpI x 0 = 1 ∧ 0 < x := by
  rcases Int.lt_trichotomy x 0 with h | h | h
  · exact .inl ⟨cmpI_lt h, h⟩
  · exact .inr (.inl ⟨cmpI_eq h, h⟩)
  · exact .inr (.inr ⟨cmpI_gt h, h⟩)
theorem cmp_same (na nb : Bool) (a b : Nat) (h : cmpI (sg na a) 0 = cmpI (sg nb b) 0) : cmpI (sg na a) 0 * cmpN a b = cmpI (sg na a) (sg nb b) := by
  rcases cmpI_sign (sg na a) with ⟨h1, h2⟩ | ⟨h1, h2⟩ | ⟨h1, h2⟩ <;> rcases cmpI_sign (sg nb b) with ⟨h3, h4⟩ | ⟨h3, h4⟩ | ⟨h3, h4⟩ <;> rw [h1] <;> rw [h1, h3] at h <;> try omega
  · have ea : sg na a = -(a : Int) := by
      cases na
      · rw [sg_false] at h2; omega
      · exact sg_true a
    have eb : sg nb b = -(b : Int) := by
      cases nb
      · rw [sg_false] at h4; omega
      · exact sg_true b
    rw [ea, eb]
    unfold cmpI cmpN
    split <;> split <;> (try split) <;> (try split) <;> omega
  · rw [h2, h4]
    simp [cmpI]
  · have ea : sg na a = (a : Int) := by
      cases na
      · exact sg_false a
      · rw [sg_true] at h2; omega
    have eb : sg nb b = (b : Int) := by
      cases nb
      · exact sg_false b
      · rw [sg_true] at h4; omega
    rw [ea, eb]
    unfold cmpI cmpN
    split <;> split <;> (try split) <;> (try split) <;> omega
theorem cmp_less (x y : Int) (h : cmpI x 0 < cmpI y 0) : cmpI x y = -1 := by
  rcases cmpI_sign x with ⟨h1, h2⟩ | ⟨h1, h2⟩ | ⟨h1, h2⟩ <;> rcases cmpI_sign y with ⟨h3, h4⟩ | ⟨h3, h4⟩ | ⟨h3, h4⟩ <;> first | (exact cmpI_lt (by omega)) | omega
theorem cmp_more (x y : Int) (h : cmpI y 0 < cmpI x 0) : cmpI x y = 1 := by
  rcases cmpI_sign x with ⟨h1, h2⟩ | ⟨h1, h2⟩ | ⟨h1, h2⟩ <;> rcases cmpI_sign y with ⟨h3, h4⟩ | ⟨h3, h4⟩ | ⟨h3, h4⟩ <;> first | (exact cmpI_gt (by omega)) | omega
theorem cmpI_bd (x y : Int) : -1 ≤ cmpI x y ∧ cmpI x y ≤ 1 := by unfold cmpI; split <;> (try split) <;> omega
theorem boxes2 (w : World) (a b : Value) (t : TypeId) (a' b' : Value) : Two ((w.alloc (.cells #[a, b] t)).alloc (.cells #[a', b'] t)) w.heap.size t a b ∧ Two ((w.alloc (.cells #[a, b] t)).alloc (.cells #[a', b'] t)) (w.heap.size + 1) t a' b' := by
  refine ⟨(Two.made w t a b).alloc _, ?_⟩
  have := Two.made (w.alloc (.cells #[a, b] t)) t a' b'
  simpa using this
set_option maxHeartbeats 1600000 in
theorem cmp_any (na nb : Bool) (A1 A2 : Option Addr) (n1 c1 a n2 c2 b : Nat) (w : World) (h1 : Mag w A1 n1 c1 a) (h2 : Mag w A2 n2 c2 b) (l1 : n1 ≤ 1000000) (l2 : n2 ≤ 1000000) :
    Calls Tryd.prog 31 #[.agg #[.bool na, .slice A1 n1 c1], .agg #[.bool nb, .slice A2 n2 c2]] w fun e w' => e = .returned (.int .i64 (cmpI (sg na a) (sg nb b))) ∧ Below w.heap.size w w' := by
  have da : dl a ≤ 1000000 := Nat.le_trans h1.le l1
  have db : dl b ≤ 1000000 := Nat.le_trans h2.le l2
  have hW : ∃ W, W = ((w.alloc (.cells #[.bool na, .slice A1 n1 c1] 24)).alloc (.cells #[.bool nb, .slice A2 n2 c2] 24)) := ⟨_, rfl⟩
  have s1 := fun W h => sign_any na A1 n1 c1 a W h (by omega)
  have s2 := fun W h => sign_any nb A2 n2 c2 b W h (by omega)
  have S1 : ∀ W, Mag W A1 n1 c1 a → Hid _ := fun W h => Lib.hid (s1 W h)
  have S2 : ∀ W, Mag W A2 n2 c2 b → Hid _ := fun W h => Lib.hid (s2 W h)
  clear s1 s2 hW
  rcases Int.lt_trichotomy (cmpI (sg na a) 0) (cmpI (sg nb b) 0) with h | h | h
  · have F := Lib.hid (cmp_less _ _ h)
    go_enter Tryd.func31, Tryd.ntmps31
    go_wp2_with (go_at_call 27; (first | (with_reducible refine ((S1 _ ((h1.alloc _).alloc _)).out).mono ?_) | (with_reducible refine ((S2 _ (((h2.alloc _).alloc _).alloc _)).out).mono ?_)); rintro e w' ⟨rfl, rfl⟩)
    go_ret
    rw [F.out]
    exact ⟨rfl, below_al (below_al (below_al (below_al (Below.refl _ _) _) _) _) _⟩
  · have F := Lib.hid (cmp_same na nb a b h)
    rw [← h] at S2
    clear h
    have b1 : -1 ≤ cmpI (sg na a) 0 * cmpN a b := by rw [F.out]; exact (cmpI_bd _ _).1
    have b2 : cmpI (sg na a) 0 * cmpN a b ≤ 1 := by rw [F.out]; exact (cmpI_bd _ _).2
    go_enter Tryd.func31, Tryd.ntmps31
    go_wp2_with (go_at_call 27; (first | (with_reducible refine ((S1 _ ((h1.alloc _).alloc _)).out).mono ?_) | (with_reducible refine ((S2 _ (((h2.alloc _).alloc _).alloc _)).out).mono ?_)); rintro e w' ⟨rfl, rfl⟩)
    go_quiet ((first | (go_at_call 54; (first | (with_reducible exact calm (trim_mag A1 n1 c1 a _ (((((h1.alloc _).alloc _).alloc _).alloc _).drewN _) (by omega))) | (with_reducible exact calm (trim_mag A2 n2 c2 b _ (((((h2.alloc _).alloc _).alloc _).alloc _).drewN _) (by omega))))) | (go_at_call 57; exact Calls.quiet_of (compare_mag A1 A2 c1 c2 a b _ (((((h1.trim.alloc _).alloc _).alloc _).alloc _).drewN _) (((((h2.trim.alloc _).alloc _).alloc _).alloc _).drewN _) da db))))
    go_wp2
    go_ret
    rw [F.out]
    exact ⟨rfl, below_drewN (below_al (below_al (below_al (below_al (Below.refl _ _) _) _) _) _) _⟩
  · have F := Lib.hid (cmp_more _ _ h)
    go_enter Tryd.func31, Tryd.ntmps31
    go_wp2_with (go_at_call 27; (first | (with_reducible refine ((S1 _ ((h1.alloc _).alloc _)).out).mono ?_) | (with_reducible refine ((S2 _ (((h2.alloc _).alloc _).alloc _)).out).mono ?_)); rintro e w' ⟨rfl, rfl⟩)
    go_ret
    rw [F.out]
    exact ⟨rfl, below_al (below_al (below_al (below_al (Below.refl _ _) _) _) _) _⟩
end Go.Proofs.YtocoflojlliapaaDoor
set_option linter.unusedVariables false
namespace Go.Proofs.YtocoflojlliapaaDoor
open Go.RowKit
/-- a number that may be is answered, of the value x -/
def Num (w w' : World) (e : Ending) (neg : Bool) (N : Nat) : Prop :=
  ∃ A c, e = .returned (.tuple #[.agg #[.bool (signB neg N), .slice A (dl N) c], .int .i64 0]) ∧ Fresh w w' A c N
def Big (w w' : World) (e : Ending) : Prop := e = .returned (.tuple #[.agg #[.bool false, .slice none 0 0], .int .i64 6]) ∧ Below w.heap.size w w'
theorem Fresh.from_ {w w0 w1 : World} {A : Option Addr} {c N : Nat} (h : Fresh w0 w1 A c N) (hb : Below w.heap.size w w0) : Fresh w w1 A c N :=
  ⟨own_mono h.1 hb.size, below_then hb h.2⟩
theorem Fresh.two {w w0 w1 : World} {A : Option Addr} {c N g : Nat} {a b : Value} (h : Fresh w0 w1 A c N) (hb : Below w.heap.size w w0) (hg : w.heap.size ≤ g) (hg2 : g < w0.heap.size) :
    Fresh w ((w1.setCell ⟨g, 0, none⟩ a).setCell ⟨g, 1, none⟩ b) A c N := by
  have h1 := own_mono h.1 (show g + 1 ≤ w0.heap.size from hg2)
  refine ⟨own_mono (own_two h1) hg, ?_⟩
  exact ((below_then hb h.2).setCell (p := ⟨g, 0, none⟩) hg a).setCell (p := ⟨g, 1, none⟩) hg b
theorem below_two {w w1 : World} {g : Nat} {a b : Value} (hb : Below w.heap.size w w1) (hg : w.heap.size ≤ g) : Below w.heap.size w ((w1.setCell ⟨g, 0, none⟩ a).setCell ⟨g, 1, none⟩ b) :=
  (hb.setCell (p := ⟨g, 0, none⟩) hg a).setCell (p := ⟨g, 1, none⟩) hg b
theorem Fresh.drew {w w1 : World} {A : Option Addr} {c N : Nat} (h : Fresh w w1 A c N) : Fresh w w1.drew A c N := ⟨h.1.drew, h.2.drew⟩
theorem one_made (w : World) (v : Value) (t : TypeId) : (w.alloc (.cells #[v] t)).heap[w.heap.size]? = some (.cells #[v] t (0, 0)) := heap_alloc_new w _
set_option maxHeartbeats 1600000 in
theorem norm_yes (neg : Bool) (A : Option Addr) (n c N : Nat) (w : World) (h : Mag w A n c N) (hl : n ≤ 35184372088832) (hfit : dl N ≤ 48) :
    Calls Tryd.prog 21 #[.agg #[.bool neg, .slice A n c]] w fun e w' => Num w w' e neg N := by
  obtain ⟨W, hW⟩ : ∃ W, W = (w.alloc (.cells #[.bool neg, .slice A n c] 24)).alloc (.cells #[.bool false, .slice none 0 0] 24) := ⟨_, rfl⟩
  have hbW : Below w.heap.size w W := by rw [hW]; exact below_al (below_al (Below.refl _ _) _) _
  have hT1 : Two W w.heap.size 24 (.bool neg) (.slice A n c) := by rw [hW]; exact (boxes2 w _ _ 24 _ _).1
  have hT2 : Two W (w.heap.size + 1) 24 (.bool false) (.slice none 0 0) := by rw [hW]; exact (boxes2 w _ _ 24 _ _).2
  have hWs : W.heap.size = w.heap.size + 2 := by rw [hW]; simp
  go_enter Tryd.func21, Tryd.ntmps21
  go_wp2_with fail
  rw [← hW]
  have HW := Lib.hid hWs
  clear hW hWs
  have c0 := hT1.fst
  have c1 := hT1.snd
  go_region_held3 (fun w' => w'.cell? ⟨w.heap.size, 0, none⟩ = some (.bool neg) ∧ w'.cell? ⟨w.heap.size, 1, none⟩ = some (.slice A n c)) (go_keep)
    (first
      | (go_at_call 52; refine (signed_any neg _).mono ?_; rintro e w' ⟨rfl, rfl⟩)
      | (go_at_call 79; refine (signed1_yes W.heap.size neg A n c N _ (by exact one_made _ _ _) (by exact (h.below hbW).alloc _) hl hfit).mono ?_; rintro e w1 ⟨A', c', rfl, hf⟩; have hb1 : Below W.heap.size W w1 := below_then (below_al (Below.refl _ _) _).drew hf.2; have k0 := (hT1.below' hb1).fst; have k1 := (hT1.below' hb1).snd; have k2 := (hT2.below' hb1).fst; have k3 := (hT2.below' hb1).snd; have k4 := (hT2.below' hb1).free 0; have k5 := (hT2.below' hb1).free 1))
  all_goals go_wp2
  exact bodyPost_ret (v := .tuple #[.agg #[.bool (signB neg N), .slice A' (dl N) c'], .int .i64 0]) (by simp [results, Tryd.results21, go_sem, k2, k3]) rfl
    ⟨A', c', rfl, (hf.two (g := w.heap.size + 1) (below_al hbW _).drew (by omega) (by have := HW.out; simp; omega))⟩
set_option maxHeartbeats 1600000 in
theorem norm_no (neg : Bool) (A : Option Addr) (n c N : Nat) (w : World) (h : Mag w A n c N) (hl : n ≤ 35184372088832) (hbig : 48 < dl N) :
    Calls Tryd.prog 21 #[.agg #[.bool neg, .slice A n c]] w fun e w' => Big w w' e := by
  obtain ⟨W, hW⟩ : ∃ W, W = (w.alloc (.cells #[.bool neg, .slice A n c] 24)).alloc (.cells #[.bool false, .slice none 0 0] 24) := ⟨_, rfl⟩
  have hbW : Below w.heap.size w W := by rw [hW]; exact below_al (below_al (Below.refl _ _) _) _
  have hT1 : Two W w.heap.size 24 (.bool neg) (.slice A n c) := by rw [hW]; exact (boxes2 w _ _ 24 _ _).1
  have hT2 : Two W (w.heap.size + 1) 24 (.bool false) (.slice none 0 0) := by rw [hW]; exact (boxes2 w _ _ 24 _ _).2
  have hWs : W.heap.size = w.heap.size + 2 := by rw [hW]; simp
  go_enter Tryd.func21, Tryd.ntmps21
  go_wp2_with fail
  rw [← hW]
  have HW := Lib.hid hWs
  clear hW hWs
  have c0 := hT1.fst
  have c1 := hT1.snd
  go_region_held3 (fun w' => w'.cell? ⟨w.heap.size, 0, none⟩ = some (.bool neg) ∧ w'.cell? ⟨w.heap.size, 1, none⟩ = some (.slice A n c)) (go_keep)
    (first
      | (go_at_call 52; refine (signed_any neg _).mono ?_; rintro e w' ⟨rfl, rfl⟩)
      | (go_at_call 79; refine (signed1_no W.heap.size neg A n c N _ (by exact one_made _ _ _) (by exact (h.below hbW).alloc _) hl hbig).mono ?_; rintro e w1 ⟨rfl, hf⟩; have hb1 : Below W.heap.size W w1 := below_then (below_al (Below.refl _ _) _).drew hf; have k0 := (hT1.below' hb1).fst; have k1 := (hT1.below' hb1).snd; have k2 := (hT2.below' hb1).fst; have k3 := (hT2.below' hb1).snd; have k4 := (hT2.below' hb1).free 0; have k5 := (hT2.below' hb1).free 1))
  all_goals go_wp2
  exact bodyPost_ret (v := .tuple #[.agg #[.bool false, .slice none 0 0], .int .i64 6]) (by simp [results, Tryd.results21, go_sem, k2, k3]) rfl
    ⟨rfl, (below_two (g := w.heap.size + 1) (below_then hbW hb1) (by omega))⟩
set_option maxHeartbeats 1600000 in
theorem neg_yes (neg : Bool) (A : Option Addr) (n c N : Nat) (w : World) (h : Mag w A n c N) (hl : n ≤ 35184372088832) (hfit : dl N ≤ 48) :
    Calls Tryd.prog 22 #[.agg #[.bool neg, .slice A n c]] w fun e w' => Num w w' e (!neg) N := by
  obtain ⟨W, hW⟩ : ∃ W, W = (w.alloc (.cells #[.bool neg, .slice A n c] 24)).alloc (.cells #[.bool false, .slice none 0 0] 24) := ⟨_, rfl⟩
  have hbW : Below w.heap.size w W := by rw [hW]; exact below_al (below_al (Below.refl _ _) _) _
  have hT1 : Two W w.heap.size 24 (.bool neg) (.slice A n c) := by rw [hW]; exact (boxes2 w _ _ 24 _ _).1
  have hT2 : Two W (w.heap.size + 1) 24 (.bool false) (.slice none 0 0) := by rw [hW]; exact (boxes2 w _ _ 24 _ _).2
  have hWs : W.heap.size = w.heap.size + 2 := by rw [hW]; simp
  go_enter Tryd.func22, Tryd.ntmps22
  go_wp2_with fail
  rw [← hW]
  have HW := Lib.hid hWs
  clear hW hWs
  have c0 := hT1.fst
  have c1 := hT1.snd
  go_region_held3 (fun w' => w'.cell? ⟨w.heap.size, 0, none⟩ = some (.bool neg) ∧ w'.cell? ⟨w.heap.size, 1, none⟩ = some (.slice A n c)) (go_keep)
    (first
      | (go_at_call 52; refine (signed_any (!neg) _).mono ?_; rintro e w' ⟨rfl, rfl⟩)
      | (go_at_call 79; refine (signed1_yes W.heap.size (!neg) A n c N _ (by exact one_made _ _ _) (by exact (h.below hbW).alloc _) hl hfit).mono ?_; rintro e w1 ⟨A', c', rfl, hf⟩; have hb1 : Below W.heap.size W w1 := below_then (below_al (Below.refl _ _) _).drew hf.2; have k0 := (hT1.below' hb1).fst; have k1 := (hT1.below' hb1).snd; have k2 := (hT2.below' hb1).fst; have k3 := (hT2.below' hb1).snd; have k4 := (hT2.below' hb1).free 0; have k5 := (hT2.below' hb1).free 1))
  all_goals go_wp2
  exact bodyPost_ret (v := .tuple #[.agg #[.bool (signB (!neg) N), .slice A' (dl N) c'], .int .i64 0]) (by simp [results, Tryd.results22, go_sem, k2, k3]) rfl
    ⟨A', c', rfl, (hf.two (g := w.heap.size + 1) (below_al hbW _).drew (by omega) (by have := HW.out; simp; omega))⟩
set_option maxHeartbeats 1600000 in
theorem neg_no (neg : Bool) (A : Option Addr) (n c N : Nat) (w : World) (h : Mag w A n c N) (hl : n ≤ 35184372088832) (hbig : 48 < dl N) :
    Calls Tryd.prog 22 #[.agg #[.bool neg, .slice A n c]] w fun e w' => Big w w' e := by
  obtain ⟨W, hW⟩ : ∃ W, W = (w.alloc (.cells #[.bool neg, .slice A n c] 24)).alloc (.cells #[.bool false, .slice none 0 0] 24) := ⟨_, rfl⟩
  have hbW : Below w.heap.size w W := by rw [hW]; exact below_al (below_al (Below.refl _ _) _) _
  have hT1 : Two W w.heap.size 24 (.bool neg) (.slice A n c) := by rw [hW]; exact (boxes2 w _ _ 24 _ _).1
  have hT2 : Two W (w.heap.size + 1) 24 (.bool false) (.slice none 0 0) := by rw [hW]; exact (boxes2 w _ _ 24 _ _).2
  have hWs : W.heap.size = w.heap.size + 2 := by rw [hW]; simp
  go_enter Tryd.func22, Tryd.ntmps22
  go_wp2_with fail
  rw [← hW]
  have HW := Lib.hid hWs
  clear hW hWs
  have c0 := hT1.fst
  have c1 := hT1.snd
  go_region_held3 (fun w' => w'.cell? ⟨w.heap.size, 0, none⟩ = some (.bool neg) ∧ w'.cell? ⟨w.heap.size, 1, none⟩ = some (.slice A n c)) (go_keep)
    (first
      | (go_at_call 52; refine (signed_any (!neg) _).mono ?_; rintro e w' ⟨rfl, rfl⟩)
      | (go_at_call 79; refine (signed1_no W.heap.size (!neg) A n c N _ (by exact one_made _ _ _) (by exact (h.below hbW).alloc _) hl hbig).mono ?_; rintro e w1 ⟨rfl, hf⟩; have hb1 : Below W.heap.size W w1 := below_then (below_al (Below.refl _ _) _).drew hf; have k0 := (hT1.below' hb1).fst; have k1 := (hT1.below' hb1).snd; have k2 := (hT2.below' hb1).fst; have k3 := (hT2.below' hb1).snd; have k4 := (hT2.below' hb1).free 0; have k5 := (hT2.below' hb1).free 1))
  all_goals go_wp2
  exact bodyPost_ret (v := .tuple #[.agg #[.bool false, .slice none 0 0], .int .i64 6]) (by simp [results, Tryd.results22, go_sem, k2, k3]) rfl
    ⟨rfl, (below_two (g := w.heap.size + 1) (below_then hbW hb1) (by omega))⟩
end Go.Proofs.YtocoflojlliapaaDoor
set_option linter.unusedVariables false
namespace Go.Proofs.YtocoflojlliapaaDoor
open Go.RowKit
theorem Two.set2 {w : World} {g : Nat} {t : TypeId} {a b a' b' : Value} (h : Two w g t a b) : Two ((w.setCell ⟨g, 0, none⟩ a').setCell ⟨g, 1, none⟩ b') g t a' b' := by
  unfold Two at h ⊢
  simp [World.setCell, Array.getElem?_modify, h]
theorem Mag.pair (w : World) (a b : Nat) (ha : a < 4294967296) (hb : b < 4294967296) : Mag (w.alloc (.cells #[.int .u32 a, .int .u32 b] 43)) (some ⟨w.heap.size, 0, none⟩) 2 2 (a + 4294967296 * b) := by
  refine ⟨[a, b], Nums.lim (t := 43) ?_, Low.cons ha (Low.cons hb Low.nil), rfl, by simp [val], Nat.le_refl _⟩
  exact Nums.made w 43 .u32 [a, b]
theorem Fresh.alloc {w w1 : World} {A : Option Addr} {c N : Nat} (h : Fresh w w1 A c N) (o : Obj) : Fresh w (w1.alloc o) A c N := ⟨h.1.alloc o, below_al h.2 o⟩
set_option maxHeartbeats 1600000 in
theorem of_pos (x : Nat) (hx : x ≤ 9223372036854775807) (w : World) :
    Calls Tryd.prog 32 #[.int .i64 x] w fun e w' => ∃ A c, e = .returned (.agg #[.bool (signB false x), .slice A (dl x) c]) ∧ Fresh w w' A c x := by
  have hfit : dl x ≤ 48 := Nat.le_trans ((dl_le x 2).2 (by omega)) (by decide)
  obtain ⟨lo, hlo⟩ : ∃ lo, lo = x % 4294967296 := ⟨_, rfl⟩
  obtain ⟨hi, hhi⟩ : ∃ hi, hi = x / 4294967296 := ⟨_, rfl⟩
  have blo : lo < 4294967296 := by omega
  have bhi : hi < 4294967296 := by omega
  have elo : (x : Int) % 4294967296 = lo := by omega
  have ehi : (x : Int) / 4294967296 = hi := by omega
  have HV : Hid (lo + 4294967296 * hi = x) := Lib.hid (by omega)
  clear hlo hhi
  obtain ⟨W, hW⟩ : ∃ W, W = (w.alloc (.cells #[.bool false, .slice none 0 0] 24)).alloc (.cells #[.bool false] 4) := ⟨_, rfl⟩
  have hbW : Below w.heap.size w W := by rw [hW]; exact below_al (below_al (Below.refl _ _) _) _
  have hT : Two W w.heap.size 24 (.bool false) (.slice none 0 0) := by rw [hW]; exact (Two.made w 24 _ _).alloc _
  have hB : W.heap[w.heap.size + 1]? = some (.cells #[.bool false] 4 (0, 0)) := by
    rw [hW]
    have := one_made (w.alloc (.cells #[.bool false, .slice none 0 0] 24)) (.bool false) 4
    simpa using this
  have hWs : W.heap.size = w.heap.size + 2 := by rw [hW]; simp
  go_enter Tryd.func32, Tryd.ntmps32
  go_wp2_with (go_at_call 52; refine (signed_any false _).mono ?_; rintro e w' ⟨rfl, rfl⟩)
  rw [← hW]
  have hM := Mag.pair W lo hi blo bhi
  rw [HV.out] at hM
  rw [hWs] at hM
  have hB2 := (Below.heap_alloc W (.cells #[.int .u32 lo, .int .u32 hi] 43) (w.heap.size + 1) (by omega)).trans hB
  refine (signed1_yes (w.heap.size + 1) false (some ⟨w.heap.size + 2, 0, none⟩) 2 2 x _ hB2 hM (by decide) hfit).mono ?_
  rintro e w1 ⟨A', c', rfl, hf⟩
  have hb1 : Below W.heap.size W w1 := below_then (below_al (Below.refl _ _) _) hf.2
  have k2 := (hT.below' hb1).fst
  have k3 := (hT.below' hb1).snd
  have k4 := (hT.below' hb1).free 0
  have k5 := (hT.below' hb1).free 1
  have hlt : w.heap.size < w1.heap.size := by have := hb1.size; omega
  have HW := Lib.hid hW
  have HWS := Lib.hid hWs
  clear hW hWs
  go_wp2
  have hr := fun o => ((hT.below' hb1).set2 (a' := .bool (signB false x)) (b' := .slice A' (dl x) c')).alloc o
  have r0 := fun o => (hr o).fst
  have r1 := fun o => (hr o).snd
  exact bodyPost_ret (v := .agg #[.bool (signB false x), .slice A' (dl x) c']) (by simp [results, Tryd.results32, go_sem, r0, r1]) rfl
    ⟨A', c', rfl, (hf.two (g := w.heap.size) (below_al hbW _) (Nat.le_refl _) (by have := HWS.out; simp; omega)).alloc _⟩
set_option maxHeartbeats 1600000 in
theorem of_neg (x : Nat) (hx : x ≤ 9223372036854775808) (h0 : 0 < x) (w : World) :
    Calls Tryd.prog 32 #[.int .i64 (-(x : Int))] w fun e w' => ∃ A c, e = .returned (.agg #[.bool (signB true x), .slice A (dl x) c]) ∧ Fresh w w' A c x := by
  have hfit : dl x ≤ 48 := Nat.le_trans ((dl_le x 2).2 (by omega)) (by decide)
  obtain ⟨lo, hlo⟩ : ∃ lo, lo = x % 4294967296 := ⟨_, rfl⟩
  obtain ⟨hi, hhi⟩ : ∃ hi, hi = x / 4294967296 := ⟨_, rfl⟩
  have blo : lo < 4294967296 := by omega
  have bhi : hi < 4294967296 := by omega
  have elo : (x : Int) % 4294967296 = lo := by omega
  have ehi : (x : Int) / 4294967296 = hi := by omega
  have HV : Hid (lo + 4294967296 * hi = x) := Lib.hid (by omega)
  clear hlo hhi
  obtain ⟨W, hW⟩ : ∃ W, W = (w.alloc (.cells #[.bool false, .slice none 0 0] 24)).alloc (.cells #[.bool true] 4) := ⟨_, rfl⟩
  have hbW : Below w.heap.size w W := by rw [hW]; exact below_al (below_al (Below.refl _ _) _) _
  have hT : Two W w.heap.size 24 (.bool false) (.slice none 0 0) := by rw [hW]; exact (Two.made w 24 _ _).alloc _
  have hB : W.heap[w.heap.size + 1]? = some (.cells #[.bool true] 4 (0, 0)) := by
    rw [hW]
    have := one_made (w.alloc (.cells #[.bool false, .slice none 0 0] 24)) (.bool true) 4
    simpa using this
  have hWs : W.heap.size = w.heap.size + 2 := by rw [hW]; simp
  have en : IntKind.u64.wrap (-IntKind.u64.wrap (-(x : Int))) = (x : Int) := by rw [IntKind.wrap_u64, IntKind.wrap_u64]; omega
  go_enter Tryd.func32, Tryd.ntmps32
  go_wp2_with (go_at_call 52; refine (signed_any true _).mono ?_; rintro e w' ⟨rfl, rfl⟩)
  rw [← hW]
  have hM := Mag.pair W lo hi blo bhi
  rw [HV.out] at hM
  rw [hWs] at hM
  have hB2 := (Below.heap_alloc W (.cells #[.int .u32 lo, .int .u32 hi] 43) (w.heap.size + 1) (by omega)).trans hB
  refine (signed1_yes (w.heap.size + 1) true (some ⟨w.heap.size + 2, 0, none⟩) 2 2 x _ hB2 hM (by decide) hfit).mono ?_
  rintro e w1 ⟨A', c', rfl, hf⟩
  have hb1 : Below W.heap.size W w1 := below_then (below_al (Below.refl _ _) _) hf.2
  have k2 := (hT.below' hb1).fst
  have k3 := (hT.below' hb1).snd
  have k4 := (hT.below' hb1).free 0
  have k5 := (hT.below' hb1).free 1
  have hlt : w.heap.size < w1.heap.size := by have := hb1.size; omega
  have HW := Lib.hid hW
  have HWS := Lib.hid hWs
  clear hW hWs
  go_wp2
  have hr := fun o => ((hT.below' hb1).set2 (a' := .bool (signB true x)) (b' := .slice A' (dl x) c')).alloc o
  have r0 := fun o => (hr o).fst
  have r1 := fun o => (hr o).snd
  exact bodyPost_ret (v := .agg #[.bool (signB true x), .slice A' (dl x) c']) (by simp [results, Tryd.results32, go_sem, r0, r1]) rfl
    ⟨A', c', rfl, (hf.two (g := w.heap.size) (below_al hbW _) (Nat.le_refl _) (by have := HWS.out; simp; omega)).alloc _⟩
end Go.Proofs.YtocoflojlliapaaDoor
