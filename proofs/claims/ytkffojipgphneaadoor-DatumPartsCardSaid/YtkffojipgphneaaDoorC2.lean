/- A row that is put into, and taken from, through a pointer to it. -/
import Derived.Test.YtkffojipgphneaaDoorC
import Derived.Deep.RegionHeld3
import Derived.Deep.RegionLaw
import Derived.ArgAppend
import Derived.Deep.DeepFit
set_option linter.unusedVariables false
set_option linter.unusedSimpArgs false
namespace Go.Proofs.YtkffojipgphneaaDoor
open Go Go.RowKit
theorem heap_alloc_new (w : World) (o : Obj) : (w.alloc o).heap[w.heap.size]? = some o := by
  show (w.heap.push o)[w.heap.size]? = some o
  simp
theorem own_slice {w : World} {base e n s : Nat} {v : Value} {xs : List Value} (h : w.ownsRow base e s v n xs) : ∃ A c, v = .slice A n c := by
  rcases h.2 with ⟨rfl, rfl⟩ | ⟨g', cap, cur, rfl, hb, _⟩
  · exact ⟨_, _, rfl⟩
  · exact ⟨_, _, rfl⟩
theorem own_base {w : World} {base base' e n s : Nat} {v : Value} {xs : List Value} (h : w.ownsRow base e s v n xs) (hb : base' ≤ base) : w.ownsRow base' e s v n xs := by
  refine ⟨h.1, ?_⟩
  rcases h.2 with h2 | ⟨g', cap, cur, hv, hg, r⟩
  · exact .inl h2
  · exact .inr ⟨g', cap, cur, hv, by omega, r⟩
theorem add_none (g o j : Nat) : (⟨g, o, none⟩ : Addr).add j = ⟨g, o + j, none⟩ := by unfold Addr.add; by_cases hj : j = 0 <;> simp [hj]
/-- One element more, behind a row of one's own: where the row then lies is told. -/
theorem run_put {P : Program} (w : World) (base : Nat) (t ty e : TypeId) (i : TypeInfo) (z : Value) (size bytes : Nat) (ht : P.underlying t = some (.slice e)) (hi : P.info? e = some i) (hz : i.zero = some z)
    (hsize : i.size = size) (hby : i.bytes = bytes) (hzs : z.cells.size = size) (hsz : 0 < size)
    (A : Option Addr) (n cap : Nat) (xs : List Value) (hown : w.ownsRow base e size (.slice A n cap) n xs)
    (a : Addr) (m c : Nat) (news : List Value) (hl : news.length = m * size) (hm : 0 < m) (hnews : ∀ j u, news[j]? = some u → w.cell? (a.add j) = some u) (h1 : ∀ u ∈ news, u.oneCell' = true)
    (h63 : n + m ≤ maxLen) (hbytes : (n + m) * bytes ≤ 140737488355328) (hbase : base ≤ w.heap.size) :
    ∃ A' cap' w', (Builtin.append_ #[t, t] ty #[.slice A n cap, .slice (some a) m c]).run P w = .ok (.slice A' (n + m) cap') w' ∧ w'.ownsRow base e size (.slice A' (n + m) cap') (n + m) (xs ++ news) ∧
      w.grownBy w' (Value.slice A n cap).ownBlock ∧ (A' = A ∨ ∃ g, A' = some ⟨g, 0, none⟩ ∧ w.heap.size ≤ g) := by
  by_cases hc : cap < n + m
  · rcases hown.2 with ⟨hv, hn⟩ | ⟨g, cap0, cur, hv, hb, hh, hcap, hmx, hcs, htk⟩
    · injection hv with e1 e2 e3
      subst e1 hn e3
      obtain ⟨v', w', hr, h2, h3, _⟩ := run_append_own (P := P) w w.heap.size t ty e i z size bytes ht hi hz hsize hby hzs hsz (.slice none 0 0) 0 [] (World.ownsRow_nil _ _ _ _) a m c news hl hnews h1 h63 hbytes (Nat.le_refl _)
      obtain ⟨A', c', rfl⟩ := own_slice h2
      have hx : xs = [] := by have := hown.1; simpa using this
      subst hx
      refine ⟨A', c', w', hr, own_base h2 hbase, h3, ?_⟩
      rcases h2.2 with ⟨_, h0⟩ | ⟨g', _, _, hv', hb', _⟩
      · omega
      · injection hv' with e1 _ _
        exact .inr ⟨g', e1, hb'⟩
    · injection hv with e1 e2 e3
      subst e1 e3
      have hcl := hown.cells (g := g) rfl
      obtain ⟨v', w', hr, h2, h3⟩ := run_append_arg_grows (P := P) w t ty e i z size bytes ht hi hz hsize hby hzs hsz ⟨g, 0, none⟩ n cap xs hown.1 hcl a m c news hl hnews hc h63 hbytes
      obtain ⟨A', c', rfl⟩ := own_slice h2
      refine ⟨A', c', w', hr, own_base h2 hbase, ⟨h3.os, h3.tape, h3.output, h3.size, fun k hk _ => h3.block k hk (by simp)⟩, ?_⟩
      rcases h2.2 with ⟨_, h0⟩ | ⟨g', _, _, hv', hb', _⟩
      · omega
      · injection hv' with e1 _ _
        exact .inr ⟨g', e1, hb'⟩
  · obtain ⟨v', w', hr, h2, h3, _⟩ := run_append_own (P := P) w base t ty e i z size bytes ht hi hz hsize hby hzs hsz _ n xs hown a m c news hl hnews h1 h63 hbytes hbase
    rcases hown.2 with ⟨hv, hn⟩ | ⟨g, cap0, cur, hv, hb, hh, hcap, hmx, hcs, htk⟩
    · injection hv with e1 e2 e3
      omega
    · injection hv with e1 e2 e3
      subst e1 e3
      have hfit : n * i.size + news.length ≤ cur.size := by
        rw [hl, hcs, hsize]
        have : (n + m) * size ≤ cap * size := Nat.mul_le_mul_right _ (by omega)
        rw [Nat.add_mul] at this
        exact this
      have hr2 := run_append_room (P := P) w t ty e i ht hi g n cap cur hh a m c news (by rw [hsize]; exact hl) hnews h1 (by omega) hfit
      rw [hr2] at hr
      injection hr with e1 e2
      subst e1 e2
      exact ⟨_, _, _, hr2, h2, h3, .inl rfl⟩
theorem step_put (t e : TypeId) (z : Value) (size bytes : Nat) (ht : Tryd.prog.underlying t = some (.slice e)) (hinfo : (Tryd.prog.info? e).map (fun i => (i.zero, i.size, i.bytes)) = some (some z, size, bytes)) (hzs : z.cells.size = size) (hsz : 0 < size) (hby : bytes ≤ 100)
    (w : World) {ops : Array Oper} {o : Oper} {a : Act} {K : Act → World → Prop} {Q : Exit → Act → World → Prop} {E : Prop} (hgd : o.guard = none) (s x : Operand)
    (ho : o.op = .call { callee := .builtin .append, args := #[s, x], argTypes := #[t, t] }) (hty : o.type = t) (base : Nat) (A : Option Addr) (n cap : Nat) (xs : List Value) (hs : a.eval s = .slice A n cap) (hown : w.ownsRow base e size (.slice A n cap) n xs)
    (ad : Addr) (m c : Nat) (news : List Value) (hx : a.eval x = .slice (some ad) m c) (hl : news.length = m * size) (hm : 0 < m) (hnews : ∀ j u, news[j]? = some u → w.cell? (ad.add j) = some u) (h1 : ∀ u ∈ news, u.oneCell' = true)
    (hb : n + m ≤ 1000000000) (hbase : base ≤ w.heap.size)
    (h : ∀ A' cap' w', w'.ownsRow base e size (.slice A' (n + m) cap') (n + m) (xs ++ news) → w.grownBy w' (Value.slice A n cap).ownBlock → (A' = A ∨ ∃ g, A' = some ⟨g, 0, none⟩ ∧ w.heap.size ≤ g) → K (a.put o.dst (.slice A' (n + m) cap')) w') :
    if Region.wanted o (yielded ops a.tmps) = true then Oper.wp Tryd.prog o a w K Q else E := by
  have hw : Region.wanted o (yielded ops a.tmps) = true := by simp [Region.wanted, hgd]
  rw [if_pos hw]
  obtain ⟨i0, hi, hz0, hz1, hz2⟩ := info_parts hinfo
  obtain ⟨A', cap', w', hr, h2, h3, h4⟩ := run_put (P := Tryd.prog) w base t t e i0 z size bytes ht hi hz0 hz1 hz2 hzs hsz A n cap xs hown ad m c news hl hm hnews h1 (by unfold maxLen; omega) (by
    have : (n + m) * bytes ≤ 1000000000 * 100 := Nat.mul_le_mul hb hby
    omega) hbase
  unfold Oper.wp execOp
  simp only [ho, hty, resolve, invoke, builtin, Sem.run_bind, Sem.run_pure, Result.andThen_ok, List.map_toArray, List.map_cons, List.map_nil, hs, hx, hr]
  exact h A' cap' w' h2 h3 h4
theorem wl_put (t e : TypeId) (z : Value) (size bytes : Nat) (ht : Tryd.prog.underlying t = some (.slice e)) (hinfo : (Tryd.prog.info? e).map (fun i => (i.zero, i.size, i.bytes)) = some (some z, size, bytes)) (hzs : z.cells.size = size) (hsz : 0 < size) (hby : bytes ≤ 100)
    (w : World) {ops : Array Oper} {rest : List Oper} {o : Oper} {a : Act} {Q : Exit → Act → World → Prop} (hgd : o.guard = none) (s x : Operand)
    (ho : o.op = .call { callee := .builtin .append, args := #[s, x], argTypes := #[t, t] }) (base : Nat) (A : Option Addr) (n cap : Nat) (xs : List Value) (hs : a.eval s = .slice A n cap) (hown : w.ownsRow base e size (.slice A n cap) n xs)
    (ad : Addr) (m c : Nat) (news : List Value) (hx : a.eval x = .slice (some ad) m c) (hl : news.length = m * size) (hm : 0 < m) (hnews : ∀ j u, news[j]? = some u → w.cell? (ad.add j) = some u) (h1 : ∀ u ∈ news, u.oneCell' = true)
    (hb : n + m ≤ 1000000000) (hbase : base ≤ w.heap.size)
    (h : ∀ A' cap' w', w'.ownsRow base e size (.slice A' (n + m) cap') (n + m) (xs ++ news) → w.grownBy w' (Value.slice A n cap).ownBlock → (A' = A ∨ ∃ g, A' = some ⟨g, 0, none⟩ ∧ w.heap.size ≤ g) → wpList Tryd.prog ops Q rest (a.put o.dst (.slice A' (n + m) cap')) w') :
    wpList Tryd.prog ops Q (o :: rest) a w := by
  refine wpList_plain hgd fun K hK => ?_
  obtain ⟨i0, hi, hz0, hz1, hz2⟩ := info_parts hinfo
  obtain ⟨A', cap', w', hr, h2, h3, h4⟩ := run_put (P := Tryd.prog) w base t o.type e i0 z size bytes ht hi hz0 hz1 hz2 hzs hsz A n cap xs hown ad m c news hl hm hnews h1 (by unfold maxLen; omega) (by
    have : (n + m) * bytes ≤ 1000000000 * 100 := Nat.mul_le_mul hb hby
    omega) hbase
  unfold Oper.wp execOp
  simp only [ho, resolve, invoke, builtin, Sem.run_bind, Sem.run_pure, Result.andThen_ok, List.map_toArray, List.map_cons, List.map_nil, hs, hx, hr]
  exact hK _ _ (h A' cap' w' h2 h3 h4)
theorem info74 : (Tryd.prog.info? 74).map (fun i => (i.zero, i.size, i.bytes)) = some (some (.agg #[.pointer none, .int .i64 0]), 2, 16) := by kernel_rfl
theorem info52 : (Tryd.prog.info? 52).map (fun i => (i.zero, i.size, i.bytes)) = some (some (.agg #[.pointer none, .pointer none]), 2, 16) := by kernel_rfl
theorem info50 : (Tryd.prog.info? 50).map (fun i => (i.zero, i.size, i.bytes)) = some (some (.pointer none), 1, 8) := by kernel_rfl
/-- What is put: the row's box, the row; what else there is stays. -/
structure Put (w w' : World) (bx : Nat) (T e size : Nat) (base : Nat) (A : Option Addr) (n cap : Nat) (xs : List Value) (A' : Option Addr) (cap' : Nat) (news : List Value) : Prop where
  box : Boxed w' bx T (.slice A' (n + 1) cap')
  own : w'.ownsRow base e size (.slice A' (n + 1) cap') (n + 1) (xs ++ news)
  keep : Keep (fun k => k ≠ bx ∧ some k ≠ (Value.slice A n cap).ownBlock) w w'
  lies : A' = A ∨ ∃ g, A' = some ⟨g, 0, none⟩ ∧ w.heap.size ≤ g
theorem put_fin {w w1 w2 : World} {bx T e size base n cap cap' : Nat} {A A' : Option Addr} {xs news : List Value} (hT : T ≠ e)
    (h1 : Keep (fun _ => True) w w1) (hbox : Boxed w bx T (.slice A n cap)) (hown : w.ownsRow base e size (.slice A n cap) n xs)
    (hown' : w2.ownsRow base e size (.slice A' (n + 1) cap') (n + 1) (xs ++ news)) (hg : w1.grownBy w2 (Value.slice A n cap).ownBlock) (hl : A' = A ∨ ∃ g, A' = some ⟨g, 0, none⟩ ∧ w1.heap.size ≤ g) :
    Put w (w2.setCell ⟨bx, 0, none⟩ (.slice A' (n + 1) cap')) bx T e size base A n cap xs A' cap' news := by
  have hb1 : Boxed w1 bx T (.slice A n cap) := h1.heap trivial hbox
  have hne : some bx ≠ (Value.slice A n cap).ownBlock := hbox.not_row hT hown
  have hb2 : Boxed w2 bx T (.slice A n cap) := hb1.kept hg hne
  have hne2 : (Value.slice A' (n + 1) cap').ownBlock ≠ some bx := fun e => (hb2.not_row hT hown') e.symm
  refine ⟨hb2.set _, ownsRow_setCell_other hown' hne2 _, ?_, ?_⟩
  · have k1 : Keep (fun k => k ≠ bx ∧ some k ≠ (Value.slice A n cap).ownBlock) w w2 := (h1.mono (fun _ _ _ => trivial)).grown hg (fun k e => .inl (fun h => h.2 e.symm))
    exact k1.setCell (p := ⟨bx, 0, none⟩) _ (.inl (fun h => h.1 rfl))
  · rcases hl with h | ⟨g, h, hg'⟩
    · exact .inl h
    · exact .inr ⟨g, h, Nat.le_trans h1.size hg'⟩
set_option maxHeartbeats 1600000 in
theorem put74_any (bx base : Nat) (A : Option Addr) (n cap : Nat) (xs : List Value) (p : Addr) (lvl : Int) (w : World) (hbox : Boxed w bx 76 (.slice A n cap)) (hown : w.ownsRow base 74 2 (.slice A n cap) n xs) (hn : n ≤ 1000000) (hbase : base ≤ w.heap.size) :
    Calls Tryd.prog 48 #[.pointer (some ⟨bx, 0, none⟩), .agg #[.pointer (some p), .int .i64 lvl]] w fun e w' => (∃ v, e = .returned v) ∧ ∃ A' cap', Put w w' bx 76 74 2 base A n cap xs A' cap' [.pointer (some p), .int .i64 lvl] := by
  obtain ⟨W, hW⟩ : ∃ W, W = w.alloc (.cells #[.pointer (some p), .int .i64 lvl] 74) := ⟨_, rfl⟩
  have kW : Keep (fun _ => True) w W := by rw [hW]; exact (Keep.refl _ _).alloc _
  have hWs : W.heap.size = w.heap.size + 1 := by rw [hW]; simp
  have hX : W.heap[w.heap.size]? = some (.cells #[.pointer (some p), .int .i64 lvl] 74 (0, 0)) := by rw [hW]; exact heap_alloc_new _ _
  have oW : W.ownsRow base 74 2 (.slice A n cap) n xs := by rw [hW]; exact hown.alloc _
  have bW : Boxed W bx 76 (.slice A n cap) := kW.heap trivial hbox
  have c0 := bW.cell
  have x0 : W.cell? ⟨w.heap.size, 0, none⟩ = some (.pointer (some p)) := by simp [World.cell?, hX]
  have x1 : W.cell? ⟨w.heap.size, 1, none⟩ = some (.int .i64 lvl) := by simp [World.cell?, hX]
  have ltb := bW.lt
  go_enter Tryd.func48, Tryd.ntmps48
  go_wp2_with fail
  rw [← hW]
  have HW := Lib.hid hW
  have HWS := Lib.hid hWs
  clear hW hWs

  have kN : Keep (fun _ => True) W (W.drew.alloc (.cells #[.pointer (some p), .int .i64 lvl] 74)) := ((Keep.refl _ _).drew).alloc _
  have oN : (W.drew.alloc (.cells #[.pointer (some p), .int .i64 lvl] 74)).ownsRow base 74 2 (.slice A n cap) n xs := (oW.drew).alloc _
  have bN : base ≤ (W.drew.alloc (.cells #[.pointer (some p), .int .i64 lvl] 74)).heap.size := by have := kN.size; have := kW.size; omega
  have nN : ∀ j u, ([.pointer (some p), .int .i64 lvl] : List Value)[j]? = some u → (W.drew.alloc (.cells #[.pointer (some p), .int .i64 lvl] 74)).cell? ((⟨W.heap.size, 0, none⟩ : Addr).add j) = some u := by
    intro j u hj
    have hh := heap_alloc_new W.drew (.cells #[.pointer (some p), .int .i64 lvl] 74)
    have hj' : j < 2 := by
      have := (List.getElem?_eq_some_iff.1 hj).1
      simpa using this
    have hh' : (W.drew.alloc (.cells #[.pointer (some p), .int .i64 lvl] 74)).heap[W.heap.size]? = some (.cells #[.pointer (some p), .int .i64 lvl] 74 (0, 0)) := hh
    rw [add_none, Nat.zero_add]
    simp only [World.cell?, hh']
    simpa using hj
  have ltN : w.heap.size < (W.drew.alloc (.cells #[.pointer (some p), .int .i64 lvl] 74)).heap.size := by have := kN.size; have := HWS.out; omega
  have oneN : ∀ u ∈ ([.pointer (some p), .int .i64 lvl] : List Value), u.oneCell' = true := by simp [Value.oneCell']
  have FIN := Lib.hid (fun (w2 : World) (A' : Option Addr) (cap' : Nat) (h1 : w2.ownsRow base 74 2 (.slice A' (n + 1) cap') (n + 1) (xs ++ [.pointer (some p), .int .i64 lvl])) (h2 : (W.drew.alloc (.cells #[.pointer (some p), .int .i64 lvl] 74)).grownBy w2 (Value.slice A n cap).ownBlock) (h3 : A' = A ∨ ∃ g, A' = some ⟨g, 0, none⟩ ∧ (W.drew.alloc (.cells #[.pointer (some p), .int .i64 lvl] 74)).heap.size ≤ g) =>
    put_fin (by decide) (kW.trans kN) hbox hown h1 h2 h3)
  have HNR := Lib.hid (bW.not_row (by decide) oW)
  go_region_law (first | (refine step_put 76 74 _ 2 16 Tryd.underlying76 info74 (by decide) (by decide) (by decide) _ rfl _ _ rfl rfl base A n cap xs (by rfl) oN ⟨W.heap.size, 0, none⟩ 1 1 [.pointer (some p), .int .i64 lvl] (by rfl) (by simp) (by decide) nN oneN (by omega) bN ?_; intro A' cap' w1 ho hg hl; have HF := Lib.hid (FIN.out w1 A' cap' ho hg hl); have bx1 : Boxed w1 bx 76 (.slice A n cap) := Boxed.kept (kN.heap trivial bW) hg HNR.out; have cb1 := bx1.cell; have fb1 := bx1.frozen; have y0 : w1.cell? ⟨w.heap.size, 0, none⟩ = some (.pointer (some p)) := (World.cell?_of_block (hg.block w.heap.size ltN (fun ee => by have := (hown.lt w.heap.size ee.symm).2; omega))).trans ((kN.cell (p := ⟨w.heap.size, 0, none⟩) trivial x0)); have y1 : w1.cell? ⟨w.heap.size, 1, none⟩ = some (.int .i64 lvl) := (World.cell?_of_block (hg.block w.heap.size ltN (fun ee => by have := (hown.lt w.heap.size ee.symm).2; omega))).trans ((kN.cell (p := ⟨w.heap.size, 1, none⟩) trivial x1)); clear hl) | fail)
  all_goals
    refine bodyPost_end (results_none rfl _ _ _) rfl ?_
    exact ⟨⟨_, rfl⟩, A', cap', HF.out⟩
set_option maxHeartbeats 1600000 in
theorem put52_any (bx base : Nat) (A : Option Addr) (n cap : Nat) (xs : List Value) (p q : Addr) (w : World) (hbox : Boxed w bx 54 (.slice A n cap)) (hown : w.ownsRow base 52 2 (.slice A n cap) n xs) (hn : n ≤ 1000000) (hbase : base ≤ w.heap.size) :
    Calls Tryd.prog 39 #[.pointer (some ⟨bx, 0, none⟩), .agg #[.pointer (some p), .pointer (some q)]] w fun e w' => (∃ v, e = .returned v) ∧ ∃ A' cap', Put w w' bx 54 52 2 base A n cap xs A' cap' [.pointer (some p), .pointer (some q)] := by
  obtain ⟨W, hW⟩ : ∃ W, W = w.alloc (.cells #[.pointer (some p), .pointer (some q)] 52) := ⟨_, rfl⟩
  have kW : Keep (fun _ => True) w W := by rw [hW]; exact (Keep.refl _ _).alloc _
  have hWs : W.heap.size = w.heap.size + 1 := by rw [hW]; simp
  have hX : W.heap[w.heap.size]? = some (.cells #[.pointer (some p), .pointer (some q)] 52 (0, 0)) := by rw [hW]; exact heap_alloc_new _ _
  have oW : W.ownsRow base 52 2 (.slice A n cap) n xs := by rw [hW]; exact hown.alloc _
  have bW : Boxed W bx 54 (.slice A n cap) := kW.heap trivial hbox
  have c0 := bW.cell
  have x0 : W.cell? ⟨w.heap.size, 0, none⟩ = some (.pointer (some p)) := by simp [World.cell?, hX]
  have x1 : W.cell? ⟨w.heap.size, 1, none⟩ = some (.pointer (some q)) := by simp [World.cell?, hX]
  have ltb := bW.lt
  go_enter Tryd.func39, Tryd.ntmps39
  go_wp2_with fail
  rw [← hW]
  have HW := Lib.hid hW
  have HWS := Lib.hid hWs
  clear hW hWs

  have kN : Keep (fun _ => True) W (W.drew.alloc (.cells #[.pointer (some p), .pointer (some q)] 52)) := ((Keep.refl _ _).drew).alloc _
  have oN : (W.drew.alloc (.cells #[.pointer (some p), .pointer (some q)] 52)).ownsRow base 52 2 (.slice A n cap) n xs := (oW.drew).alloc _
  have bN : base ≤ (W.drew.alloc (.cells #[.pointer (some p), .pointer (some q)] 52)).heap.size := by have := kN.size; have := kW.size; omega
  have nN : ∀ j u, ([.pointer (some p), .pointer (some q)] : List Value)[j]? = some u → (W.drew.alloc (.cells #[.pointer (some p), .pointer (some q)] 52)).cell? ((⟨W.heap.size, 0, none⟩ : Addr).add j) = some u := by
    intro j u hj
    have hh := heap_alloc_new W.drew (.cells #[.pointer (some p), .pointer (some q)] 52)
    have hj' : j < 2 := by
      have := (List.getElem?_eq_some_iff.1 hj).1
      simpa using this
    have hh' : (W.drew.alloc (.cells #[.pointer (some p), .pointer (some q)] 52)).heap[W.heap.size]? = some (.cells #[.pointer (some p), .pointer (some q)] 52 (0, 0)) := hh
    rw [add_none, Nat.zero_add]
    simp only [World.cell?, hh']
    simpa using hj
  have ltN : w.heap.size < (W.drew.alloc (.cells #[.pointer (some p), .pointer (some q)] 52)).heap.size := by have := kN.size; have := HWS.out; omega
  have oneN : ∀ u ∈ ([.pointer (some p), .pointer (some q)] : List Value), u.oneCell' = true := by simp [Value.oneCell']
  have FIN := Lib.hid (fun (w2 : World) (A' : Option Addr) (cap' : Nat) (h1 : w2.ownsRow base 52 2 (.slice A' (n + 1) cap') (n + 1) (xs ++ [.pointer (some p), .pointer (some q)])) (h2 : (W.drew.alloc (.cells #[.pointer (some p), .pointer (some q)] 52)).grownBy w2 (Value.slice A n cap).ownBlock) (h3 : A' = A ∨ ∃ g, A' = some ⟨g, 0, none⟩ ∧ (W.drew.alloc (.cells #[.pointer (some p), .pointer (some q)] 52)).heap.size ≤ g) =>
    put_fin (by decide) (kW.trans kN) hbox hown h1 h2 h3)
  have HNR := Lib.hid (bW.not_row (by decide) oW)
  go_region_law (first | (refine step_put 54 52 _ 2 16 Tryd.underlying54 info52 (by decide) (by decide) (by decide) _ rfl _ _ rfl rfl base A n cap xs (by rfl) oN ⟨W.heap.size, 0, none⟩ 1 1 [.pointer (some p), .pointer (some q)] (by rfl) (by simp) (by decide) nN oneN (by omega) bN ?_; intro A' cap' w1 ho hg hl; have HF := Lib.hid (FIN.out w1 A' cap' ho hg hl); have bx1 : Boxed w1 bx 54 (.slice A n cap) := Boxed.kept (kN.heap trivial bW) hg HNR.out; have cb1 := bx1.cell; have fb1 := bx1.frozen; have y0 : w1.cell? ⟨w.heap.size, 0, none⟩ = some (.pointer (some p)) := (World.cell?_of_block (hg.block w.heap.size ltN (fun ee => by have := (hown.lt w.heap.size ee.symm).2; omega))).trans ((kN.cell (p := ⟨w.heap.size, 0, none⟩) trivial x0)); have y1 : w1.cell? ⟨w.heap.size, 1, none⟩ = some (.pointer (some q)) := (World.cell?_of_block (hg.block w.heap.size ltN (fun ee => by have := (hown.lt w.heap.size ee.symm).2; omega))).trans ((kN.cell (p := ⟨w.heap.size, 1, none⟩) trivial x1)); clear hl) | fail)
  all_goals
    refine bodyPost_end (results_none rfl _ _ _) rfl ?_
    exact ⟨⟨_, rfl⟩, A', cap', HF.out⟩
set_option maxHeartbeats 1600000 in
theorem put50_any (bx base : Nat) (A : Option Addr) (n cap : Nat) (xs : List Value) (p : Addr) (w : World) (hbox : Boxed w bx 93 (.slice A n cap)) (hown : w.ownsRow base 50 1 (.slice A n cap) n xs) (hn : n ≤ 1000000) (hbase : base ≤ w.heap.size) :
    Calls Tryd.prog 64 #[.pointer (some ⟨bx, 0, none⟩), .pointer (some p)] w fun e w' => (∃ v, e = .returned v) ∧ ∃ A' cap', Put w w' bx 93 50 1 base A n cap xs A' cap' [.pointer (some p)] := by
  have kW : Keep (fun _ => True) w w := Keep.refl _ _
  have oW := hown
  have hWs : w.heap.size ≤ w.heap.size := Nat.le_refl _
  have bW : Boxed w bx 93 (.slice A n cap) := kW.heap trivial hbox
  have c0 := bW.cell
  have ltb := bW.lt
  go_enter Tryd.func64, Tryd.ntmps64

  have kN : Keep (fun _ => True) w (w.alloc (.cells #[.pointer (some p)] 50)) := (Keep.refl _ _).alloc _
  have oN : (w.alloc (.cells #[.pointer (some p)] 50)).ownsRow base 50 1 (.slice A n cap) n xs := oW.alloc _
  have bN : base ≤ (w.alloc (.cells #[.pointer (some p)] 50)).heap.size := by have := kN.size; have := kW.size; omega
  have nN : ∀ j u, ([.pointer (some p)] : List Value)[j]? = some u → (w.alloc (.cells #[.pointer (some p)] 50)).cell? ((⟨w.heap.size, 0, none⟩ : Addr).add j) = some u := by
    intro j u hj
    have hh := heap_alloc_new w (.cells #[.pointer (some p)] 50)
    have hj' : j < 1 := by
      have := (List.getElem?_eq_some_iff.1 hj).1
      simpa using this
    have hh' : (w.alloc (.cells #[.pointer (some p)] 50)).heap[w.heap.size]? = some (.cells #[.pointer (some p)] 50 (0, 0)) := hh
    rw [add_none, Nat.zero_add]
    simp only [World.cell?, hh']
    simpa using hj
  have oneN : ∀ u ∈ ([.pointer (some p)] : List Value), u.oneCell' = true := by simp [Value.oneCell']
  have FIN := Lib.hid (fun (w2 : World) (A' : Option Addr) (cap' : Nat) (h1 : w2.ownsRow base 50 1 (.slice A' (n + 1) cap') (n + 1) (xs ++ [.pointer (some p)])) (h2 : (w.alloc (.cells #[.pointer (some p)] 50)).grownBy w2 (Value.slice A n cap).ownBlock) (h3 : A' = A ∨ ∃ g, A' = some ⟨g, 0, none⟩ ∧ (w.alloc (.cells #[.pointer (some p)] 50)).heap.size ≤ g) =>
    put_fin (by decide) (kW.trans kN) hbox hown h1 h2 h3)
  have HNR := Lib.hid (bW.not_row (by decide) oW)
  go_wp2_with ((at_builtin; refine wl_put 93 50 _ 1 8 Tryd.underlying93 info50 (by decide) (by decide) (by decide) _ rfl _ _ rfl base A n cap xs (by rfl) oN ⟨w.heap.size, 0, none⟩ 1 1 [.pointer (some p)] (by rfl) (by simp) (by decide) nN oneN (by omega) bN ?_; intro A' cap' w1 ho hg hl; have HF := Lib.hid (FIN.out w1 A' cap' ho hg hl); have bx1 : Boxed w1 bx 93 (.slice A n cap) := Boxed.kept (kN.heap trivial bW) hg HNR.out; have cb1 := bx1.cell; have fb1 := bx1.frozen; clear hl))
  refine bodyPost_end (results_none rfl _ _ _) rfl ?_
  exact ⟨⟨_, rfl⟩, A', cap', HF.out⟩
end Go.Proofs.YtkffojipgphneaaDoor
