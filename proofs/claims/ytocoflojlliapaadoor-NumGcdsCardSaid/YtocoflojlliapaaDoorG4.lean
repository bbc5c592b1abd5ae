/- Rows of numbers, and of values, of one's own; what lies in blocks of another type stays. -/
import Derived.Test.YtocoflojlliapaaDoorG3
set_option linter.unusedVariables false
namespace Go.Proofs.YtocoflojlliapaaDoor
open Go.RowKit
/-- what is there lies in a block of a type -/
def El (w : World) (t : TypeId) (B : Option Addr) (n : Nat) : Prop := 0 < n → ∃ ad cur fz, B = some ad ∧ w.heap[ad.block]? = some (.cells cur t fz)
theorem El.of_own {w : World} {base e n c : Nat} {A : Option Addr} {xs : List Value} (h : w.ownsRow base e 1 (.slice A n c) n xs) : El w e A n := fun h0 => by
  rcases h.2 with ⟨hv, hn⟩ | ⟨g, cap, cur, hv, hb, hg, _⟩
  · omega
  · injection hv with hA _ _
    exact ⟨⟨g, 0, none⟩, cur, _, hA, hg⟩
theorem El.cut {w : World} {t : TypeId} {B : Option Addr} {n m : Nat} (h : El w t B n) (hm : m ≤ n) : El w t B m := fun h0 => h (by omega)
theorem El.below {w w' : World} {t : TypeId} {B : Option Addr} {n : Nat} (h : El w t B n) (hb : Below w.heap.size w w') : El w' t B n := fun h0 => by
  obtain ⟨ad, cur, fz, h1, h2⟩ := h h0
  have hlt : ad.block < w.heap.size := (Array.getElem?_eq_some_iff.1 h2).1
  exact ⟨ad, cur, fz, h1, (hb.block _ hlt).trans h2⟩
/-- a row of one's own, of another type -/
def Far (w : World) (t : TypeId) (v : Value) : Prop := ∀ g, v.ownBlock = some g → ∃ cur fz e, w.heap[g]? = some (.cells cur e fz) ∧ e ≠ t
theorem Far.of_own {w : World} {base e s n : Nat} {t : TypeId} {v : Value} {xs : List Value} (h : w.ownsRow base e s v n xs) (he : e ≠ t) : Far w t v := by
  intro g hg
  rcases h.2 with ⟨rfl, _⟩ | ⟨g', cap, cur, rfl, hb, hh, _⟩
  · simp [Value.ownBlock] at hg
  · have : g' = g := by simpa [Value.ownBlock] using hg
    subst this
    exact ⟨cur, _, e, hh, he⟩
theorem El.grown {w w' : World} {t : TypeId} {B : Option Addr} {n : Nat} {v : Value} (h : El w t B n) (hf : Far w t v) (hg : w.grownBy w' v.ownBlock) : El w' t B n := fun h0 => by
  obtain ⟨ad, cur, fz, h1, h2⟩ := h h0
  have hlt : ad.block < w.heap.size := (Array.getElem?_eq_some_iff.1 h2).1
  refine ⟨ad, cur, fz, h1, (hg.block _ hlt fun he => ?_).trans h2⟩
  obtain ⟨c2, f2, e2, k1, k2⟩ := hf _ he.symm
  rw [h2] at k1
  injection k1 with k1
  injection k1 with _ k1 _
  exact k2 k1.symm
theorem Lim.grownE {k : IntKind} {w w' : World} {t : TypeId} {A : Option Addr} {xs : List Nat} {v : Value} (h : Lim k w.heap.size w A xs) (he : El w t A xs.length) (hf : Far w t v) (hg : w.grownBy w' v.ownBlock) : Lim k w'.heap.size w' A xs := by
  intro h0
  obtain ⟨ad, hA, hb, hc⟩ := h h0
  obtain ⟨ad', cur, fz, h1, h2⟩ := he (List.length_pos_iff.2 h0)
  rw [hA] at h1
  injection h1 with h1
  subst h1
  refine ⟨ad, hA, Nat.lt_of_lt_of_le hb hg.size, fun i hi => hg.cell (hc i hi) fun e => ?_⟩
  rw [add_block] at e
  obtain ⟨c2, f2, e2, k1, k2⟩ := hf _ e.symm
  rw [h2] at k1
  injection k1 with k1
  injection k1 with _ k1 _
  exact k2 k1.symm
theorem Limbs.grownE {w w' : World} {t : TypeId} {A : Option Addr} {n c : Nat} {xs : List Nat} {v : Value} (h : Limbs w A n c xs) (he : El w t A n) (hf : Far w t v) (hg : w.grownBy w' v.ownBlock) : Limbs w' A n c xs :=
  ⟨h.1.grownE (by rw [h.2.2.1]; exact he) hf hg, h.2⟩
theorem Bit.grownE {w w' : World} {t : TypeId} {A : Option Addr} {n c N : Nat} {v : Value} (h : Bit w A n c N) (he : El w t A n) (hf : Far w t v) (hg : w.grownBy w' v.ownBlock) : Bit w' A n c N := by
  obtain ⟨xs, h1, h2, h3, h4, h5⟩ := h
  exact ⟨xs, h1.grownE (by rw [h3]; exact he) hf hg, h2, h3, h4, h5⟩
theorem own2_kept {w w' : World} {base e e2 n s : Nat} {v u : Value} {xs : List Value} (h : w.ownsRow base e s v n xs) (hu : Far w e u) (hg : w.grownBy w' u.ownBlock) : w'.ownsRow base e s v n xs := by
  refine h.kept hg ?_
  rcases h.2 with ⟨rfl, _⟩ | ⟨g, cap, cur, rfl, hb, hh, _⟩
  · exact .inl rfl
  · refine .inr fun he => ?_
    obtain ⟨c2, f2, e3, k1, k2⟩ := hu g (by simpa [Value.ownBlock] using he.symm)
    rw [hh] at k1
    injection k1 with k1
    injection k1 with _ k1 _
    exact k2 k1.symm
theorem own2_below {w w' : World} {base e n s : Nat} {v : Value} {xs : List Value} (h : w.ownsRow base e s v n xs) (hb : Below w.heap.size w w') : w'.ownsRow base e s v n xs := by
  have hg : w.grownBy w' none := ⟨hb.os, hb.tape, hb.output, hb.size, fun k hk _ => hb.block k hk⟩
  refine h.kept hg ?_
  cases hob : v.ownBlock
  · exact .inl rfl
  · exact .inr (by simp)
abbrev E2 := Bool × Option Addr × Nat × Nat
def cells2 : List E2 → List Value
  | [] => []
  | (r, B, n, c) :: l => .bool r :: .slice B n c :: cells2 l
theorem cells2_len : ∀ l, (cells2 l).length = l.length * 2
  | [] => rfl
  | (r, B, n, c) :: l => by simp [cells2, cells2_len l]; omega
theorem cells2_app : ∀ l m, cells2 (l ++ m) = cells2 l ++ cells2 m
  | [], m => rfl
  | (r, B, n, c) :: l, m => by simp [cells2, cells2_app l m]
theorem cells2_at : ∀ (l : List E2) (i : Nat) (h : i < l.length), (cells2 l)[i * 2]? = some (.bool (l[i]).1) ∧ (cells2 l)[i * 2 + 1]? = some (.slice (l[i]).2.1 (l[i]).2.2.1 (l[i]).2.2.2)
  | (r, B, n, c) :: l, 0, _ => ⟨rfl, rfl⟩
  | (r, B, n, c) :: l, i + 1, h => by
    have := cells2_at l i (by simpa using h)
    have e : (i + 1) * 2 = i * 2 + 1 + 1 := by omega
    rw [e]
    simpa [cells2] using this
/-- the cells of an own row of pairs -/
theorem own2_at {w : World} {base e n : Nat} {A : Option Addr} {c : Nat} {l : List E2} (h : w.ownsRow base e 2 (.slice A n c) n (cells2 l)) {i : Nat} (hi : i < l.length) :
    ∃ ad p q, A = some ad ∧ ad.add (i * 2) = p ∧ p.add 1 = q ∧ ad.block < w.heap.size ∧ w.cell? p = some (.bool (l[i]).1) ∧ w.cell? q = some (.slice (l[i]).2.1 (l[i]).2.2.1 (l[i]).2.2.2) := by
  have hl : (cells2 l).length = n * 2 := h.1
  rw [cells2_len] at hl
  rcases h.2 with ⟨hv, hn⟩ | ⟨g, cap, cur, hv, hb, hh, _⟩
  · omega
  · injection hv with hA _ _
    subst hA
    have hc := h.cells (g := g) rfl
    have h2 := cells2_at l i hi
    refine ⟨⟨g, 0, none⟩, _, _, rfl, rfl, rfl, (Array.getElem?_eq_some_iff.1 hh).1, hc _ _ h2.1, ?_⟩
    rw [Go.Deep.add_add]
    exact hc _ _ h2.2
set_option maxHeartbeats 1600000 in
theorem copy_rowE (r : Bool) (A : Option Addr) (n c : Nat) (xs : List Nat) (w : World) (h : Limbs w A n c xs) (hl : n ≤ 1000) :
    Calls Tryd.prog 19 #[.agg #[.bool r, .slice A n c]] w fun e w' => ∃ B d, e = .returned (.agg #[.bool r, .slice B n d]) ∧ Limbs w' B n d xs ∧ El w' 43 B n ∧ Below w.heap.size w w' := by
  obtain ⟨W, hW⟩ : ∃ W, W = (w.alloc (.cells #[.bool r, .slice A n c] 24)).alloc (.cells #[.bool false, .slice none 0 0] 24) := ⟨_, rfl⟩
  obtain ⟨t1, t2, hbW, hWs⟩ := boxes24 w _ _ _ _ W hW
  have R := h.below hbW
  have HL := Lib.hid R.2.2.1
  have HLo := Lib.hid R.2.1
  have LM := R.1
  have k1 := t1.fst
  have k2 := t1.snd
  go_enter Tryd.func19, Tryd.ntmps19
  go_wp2_with fail
  rw [← hW]
  have HW := Lib.hid hW
  have HWS := Lib.hid hWs
  clear hW hWs h R
  have BL : Below W.heap.size W (W.drew.alloc (.cells #[] 43)) := below_al (Below.refl _ _).drew _
  have BO : (W.drew.alloc (.cells #[] 43)).ownsRow W.heap.size 43 1 (.slice (some ⟨W.heap.size, 0, none⟩) 0 0) 0 (cl .u32 []) :=
    World.ownsRow_lit (base := W.heap.size) (e := 43) (size := 1) W.drew #[] 0 (Nat.le_refl _) (by unfold maxLen; omega) rfl
  have LB := LM.below BL
  have SB : W.heap.size ≤ (W.drew.alloc (.cells #[] 43)).heap.size := BL.size
  go_region_held3 (fun V => V.cell? ⟨w.heap.size, 0, none⟩ = some (.bool r) ∧ V.cell? ⟨w.heap.size, 1, none⟩ = some (.slice A n c)) (first | go_keep | exact ⟨hk0, hk1⟩)
    ((refine step_app_any (k := .u32) 22 43 4 Tryd.underlying22 u32_info (by decide) _ rfl _ _ rfl rfl W.heap.size (.slice (some ⟨W.heap.size, 0, none⟩) 0 0) 0 [] (by rfl) BO W.heap.size A n c xs (by rfl) LB HL (by omega) SB ?_; intro v1 w1 hown hgr; obtain ⟨B, d, rfl⟩ := own_slice hown; have hb1 : Below W.heap.size W w1 := BL.grown hgr SB (by simp [Value.ownBlock]); have hk0 := (t1.below' hb1).fst; have hk1 := (t1.below' hb1).snd; have hk2 := (t2.below' hb1).fst; have hk3 := (t2.below' hb1).snd; have hk4 := (t2.below' hb1).free 0; have hk5 := (t2.below' hb1).free 1))
  rw [List.nil_append] at hown
  go_wp2
  have hf := (t2.below' hb1).set2 (a' := .bool r) (b' := .slice B n d)
  have f0 := hf.fst
  have f1 := hf.snd
  have HO : Hid (w1.ownsRow W.heap.size 43 1 (.slice B n d) n (cl .u32 xs)) := Lib.hid (by simpa using hown)
  refine bodyPost_ret (v := .agg #[.bool r, .slice B n d]) (by simp [results, Tryd.results19, go_sem, f0, f1]) rfl ⟨B, d, rfl, ⟨?_, HLo.out, HL.out, own_cap HO.out⟩, El.of_own (own_two (g := w.heap.size + 1) (a := .bool r) (b := .slice B n d) (own_mono HO.out (by have := HWS.out; omega))), below_two (g := w.heap.size + 1) (below_then hbW hb1) (by omega)⟩
  have ho := own_two (g := w.heap.size + 1) (a := .bool r) (b := .slice B n d) (own_mono HO.out (by have := HWS.out; omega))
  have := Lim.of_own (k := .u32) (xs := xs) (by rw [HL.out]; exact ho)
  exact this
set_option maxHeartbeats 3200000 in
theorem refValueE (neg : Bool) (A : Option Addr) (n c N : Nat) (w : World) (h : Mag w A n c N) (hl : n ≤ 1000) :
    Calls Tryd.prog 20 #[.agg #[.bool neg, .slice A n c]] w fun e w' => ∃ B d, e = .returned (.agg #[.bool (signB neg N), .slice B (bl N) d]) ∧ Bit w' B (bl N) d N ∧ El w' 5 B (bl N) ∧ Below w.heap.size w w' := by
  obtain ⟨W, hW⟩ : ∃ W, W = (w.alloc (.cells #[.bool neg, .slice A n c] 24)).alloc (.cells #[.bool false, .slice none 0 0] 30) := ⟨_, rfl⟩
  obtain ⟨t1, t2, hbW, hWs⟩ := boxes30 w _ _ _ _ W hW
  obtain ⟨xs, x1, x2, x3, x4, x5⟩ := h.below hbW
  have HX2 := Lib.hid x2
  have HX3 := Lib.hid x3
  have HX4 := Lib.hid x4
  clear x2 x3 x4 x5
  go_enter Tryd.func20, Tryd.ntmps20
  go_wp2_with fail
  rw [← hW]
  have HW := Lib.hid hW
  have HWS := Lib.hid hWs
  clear hW hWs h
  go_loopw [3, 4, 5] (fun bv iv _ wr => ∃ (i : Nat) (bs : List Nat) (B : Option Addr) (d : Nat), i ≤ n ∧ iv = .int .i64 i ∧ bv = .slice B bs.length d ∧ wr.ownsRow W.heap.size 5 1 (.slice B bs.length d) bs.length (cl .u8 bs) ∧ Hid (Bv xs i 0 bs) ∧ Below W.heap.size W wr) (fun _ iv _ _ => n - (intOf iv).toNat)
  case atStart => exact ⟨0, [], none, 0, Nat.zero_le _, rfl, rfl, own_nil, Lib.hid (Bv.zero xs), Below.refl _ _⟩
  case round =>
    obtain ⟨i, bs, B, d, hi, rfl, rfl, hown, hB, hbel⟩ := hrel
    have k1 := (t1.below' hbel).fst
    have k2 := (t1.below' hbel).snd
    by_cases hlt : i < n
    · have hxl : i < xs.length := by rw [HX3.out]; exact hlt
      obtain ⟨ad, rfl, hab, cell⟩ := x1.at hxl
      have hx : xs[i] < 4294967296 := HX2.out.at hxl
      obtain ⟨X, hX⟩ : ∃ X, X = xs[i] := ⟨_, rfl⟩
      rw [← hX] at cell hx
      have KX := Lib.hid ((lmb_in hxl).trans hX.symm)
      clear hX
      obtain ⟨wo, hwo⟩ : ∃ wo : World, wo = wr := ⟨_, rfl⟩
      subst hwo
      go_wp2_with fail
      go_loopw [3, 5] (fun bv kv wr => ∃ (k : Nat) (bs : List Nat) (B : Option Addr) (d : Nat), k ≤ 32 ∧ kv = .int .i64 k ∧ bv = .slice B bs.length d ∧ wr.ownsRow W.heap.size 5 1 (.slice B bs.length d) bs.length (cl .u8 bs) ∧ Hid (Bv xs i k bs) ∧ Below W.heap.size W wr) (fun _ kv _ => 32 - (intOf kv).toNat)
      case atStart => exact ⟨0, bs, B, d, by omega, rfl, rfl, hown, hB, hbel⟩
      case round =>
        obtain ⟨k, bs2, B2, d2, hk, rfl, rfl, hown2, hB2, hbel2⟩ := hrel
        have p1 := (t1.below' hbel2).fst
        have p2 := (t1.below' hbel2).snd
        have p3 := (hbel2.cell (p := ad.add i) (by rw [add_block]; exact hab)).trans cell
        have hbl : bs2.length ≤ 40000 := by
          have := hB2.out.1
          omega
        by_cases hk32 : k < 32
        · obtain ⟨D, hD⟩ : ∃ D, D = X / 2 ^ k % 2 := ⟨_, rfl⟩
          have hbit := bit_of X k hx
          rw [← hD] at hbit
          have hD2 : D < 2 := by rw [hD]; exact Nat.mod_lt _ (by decide)
          have h256 : bits .and .u32 ((X : Int) / 2 ^ k) 1 % 256 = (D : Int) := by rw [hbit]; omega
          have HN : Hid (Bv xs i (k + 1) (bs2 ++ [D])) := Lib.hid (by
            have := hB2.out.next
            rwa [KX.out, ← hD] at this)
          clear hD hbit
          go_wp2_with (at_builtin; refine app_any (k := .u8) 28 5 1 Tryd.underlying28 u8_info (by decide) _ rfl _ _ rfl rfl W.heap.size (.slice B2 bs2.length d2) bs2.length _ rfl (hown2.alloc _) _ (some ⟨wr.heap.size, 0, none⟩) 1 1 [D] rfl (one_lim .u8 wr 5 D) (Lib.hid rfl) (by omega) (by have := hbel2.size; simp; omega) ?_; intro v3 w3 hown3 hgr3; refine Hid.out ?_)
          refine Lib.hid ?_
          obtain ⟨B3, d3, rfl⟩ := own_slice hown3
          have hb3 : Below W.heap.size W w3 := (below_al hbel2 _).grown hgr3 (below_al hbel2 _).size (own_ge hown2)
          clear p1 p2 p3 hgr3 h256
          go_wp2
          go_roundw
          case rel => exact ⟨k + 1, bs2 ++ [D], B3, d3, by omega, by go_num, by simp, by simpa using hown3, HN, hb3⟩
          case measure => simp [intOf]; omega
        · obtain rfl : k = 32 := by omega
          have HT : Hid (Bv xs (i + 1) 0 bs2) := Lib.hid (hB2.out.turn (by rw [KX.out]; exact hx))
          go_wp2
          go_roundw
          case rel => exact ⟨i + 1, bs2, B2, d2, by omega, by go_num, rfl, hown2, HT, hbel2⟩
          case measure => simp [intOf]; omega
    · obtain rfl : n = i := by omega
      have hNv : Hid (val 2 bs = N) := Lib.hid (by
        rw [hB.out.2.2, ← HX4.out, lmb_out (by rw [HX3.out]; exact Nat.le_refl _), List.take_of_length_le (by rw [HX3.out]; exact Nat.le_refl _)]
        simp)
      have hbits : Bit wr B bs.length d N := by
        rw [← hNv.out]
        exact Bit.of_own hown hB.out.2.1
      have hlen : bs.length ≤ 40000 := by
        have := hB.out.1
        omega
      have p2 := t2.below' hbel
      have q0 := p2.fst
      have q1 := p2.snd
      have f0 := p2.free 0
      have f1 := p2.free 1
      go_wp2_with (go_at_call 51; refine (value_any neg B bs.length d N _ hbits (by omega)).mono ?_; rintro e w4 ⟨rfl, hb4⟩; have r0 := (p2.below' hb4).fst; have r1 := (p2.below' hb4).snd; have r2 := (p2.below' hb4).free 0; have r3 := (p2.below' hb4).free 1)
      refine bodyPost_ret (v := .agg #[.bool (signB neg N), .slice B (bl N) d]) (by simp [results, Tryd.results20, go_sem, r0, r1]) rfl ⟨B, d, rfl, ?_, (El.of_own (own_two (g := w.heap.size + 1) (a := .bool (signB neg N)) (b := .slice B (bl N) d) (own_mono (own_belowR hown hb4) (by have := HWS.out; omega)))).cut hbits.le, below_two (g := w.heap.size + 1) (below_then hbW (below_then hbel hb4)) (by omega)⟩
      have ho := own_two (g := w.heap.size + 1) (a := .bool (signB neg N)) (b := .slice B (bl N) d) (own_mono (own_belowR hown hb4) (by have := HWS.out; omega))
      have := (Bit.of_own ho hB.out.2.1).trim
      rw [hNv.out] at this
      exact this
theorem refvalE {r : Bool} {A : Option Addr} {n c : Nat} {xs : List Nat} {z : Int} (w : World) (h : Limbs w A n c xs) (hz : sg r (val 4294967296 xs) = z) (hl : n ≤ 60) :
    Calls Tryd.prog 20 #[.agg #[.bool r, .slice A n c]] w fun e w' => ∃ r' B m d, e = .returned (.agg #[.bool r', .slice B m d]) ∧ BV 1920 w' r' B m d z ∧ El w' 5 B m ∧ Below w.heap.size w w' := by
  have hd := Nat.le_trans (h.dl hz) hl
  refine (refValueE r A n c _ w h.mag (by omega)).mono fun e w' hq => ?_
  obtain ⟨B, d, rfl, hb, hf, hbel⟩ := hq
  rw [signB_sg hz]
  rw [sg_abs hz] at hb hf ⊢
  exact ⟨_, B, _, d, rfl, ⟨⟨rfl, rfl, hb⟩, bl_of_dl hd rfl⟩, hf, hbel⟩
end Go.Proofs.YtocoflojlliapaaDoor
