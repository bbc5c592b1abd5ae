/- NumGcds: THE LAW's WALK, AND THE STATEMENT. -/
import Derived.Test.YtocoflojlliapaaDoorG5
import Derived.Deep.RegionHeld3
import Derived.Deep.SlicePairs
set_option linter.unusedVariables false
namespace Go.Proofs.YtocoflojlliapaaDoor.numGcds
open Go.ChangeShapes Go.WideShapes Go.ChangeAt Go.RowKit Go.Proofs.YtocoflojlliapaaDoor
theorem num_cells {H : Type} {enc : TypeId × Value → H} {W : World} {n : Nat} {v0 v1 : Value} {y0 y1 : DataW H × List MemPlace} (t0 : DataW.trod enc Tryd.prog W 0 (fun _ => true) true n 4 [v0] = some y0) (t1 : DataW.trod enc Tryd.prog W 0 (fun _ => true) true n 22 [v1] = some y1) :
    ∃ r B m c xs, v0 = .bool r ∧ v1 = .slice B m c ∧ Limbs W B m c xs := by
  obtain ⟨b, hb, _⟩ := DataW.trod_bool Tryd.underlying4 t0
  have key : ∃ B m c N, v1 = .slice B m c ∧ Mag W B m c N := by
    rcases open_ints Tryd.underlying22 Tryd.underlying43 (by kernel_rfl) t1 with ⟨hcs, hx⟩ | ⟨a, len, cap, zs, hcs, _, hl, hm, hz, hx, hc, hw⟩
    · simp at hcs
      subst hcs
      exact ⟨none, 0, 0, 0, rfl, Mag.none_ W⟩
    · simp at hcs
      subst hcs
      exact ⟨some a, len, cap, _, rfl, lim_of hl (by simpa using hz) hc hw⟩
  obtain ⟨B, m, c, N, rfl, ⟨xs, h1, h2, h3, h4, h5⟩⟩ := key
  simp at hb
  subst hb
  exact ⟨b, B, m, c, xs, rfl, rfl, h1, h2, h3, h5⟩
set_option maxRecDepth 100000 in
theorem open_nums {H : Type} {enc : TypeId × Value → H} {W : World} {b0 : Nat} {v : Value} {d : DataW H} {p : List MemPlace} (hv : Value.okWide Tryd.prog W .any b0 51 v) (h : DataW.Trod enc Tryd.prog W 0 (fun _ => true) true 51 v d p) :
    ∃ A n c rs As ns cs xss, v = .slice A n c ∧ Src rs As ns cs xss W A n := by
  obtain ⟨a, len, cap, rfl⟩ := okWide_slice Tryd.underlying51 hv
  obtain ⟨fuel, hf⟩ := h
  rcases Go.Deep.open_slice_pairs Tryd.underlying51 Tryd.underlying24 (by kernel_rfl) rfl rfl (by kernel_rfl) (by kernel_rfl) hf with ⟨hcs, _⟩ | ⟨a', len', cap', m, n, V0, V1, D0, D1, P0, P1, hcs, _, hl, _, hm, _, hx⟩
  · refine ⟨a, len, cap, fun _ => false, fun _ => none, fun _ => 0, fun _ => 0, fun _ => [], rfl, fun i hi => ?_⟩
    simp [Value.cells] at hcs
    omega
  · simp [Value.cells] at hcs
    obtain ⟨rfl, rfl, rfl⟩ := hcs
    have hlm : len ≤ m := by rw [hm]; split <;> omega
    have each : ∀ i, i < len → ∃ q : Bool × Option Addr × Nat × Nat × List Nat, V0 i = .bool q.1 ∧ V1 i = .slice q.2.1 q.2.2.1 q.2.2.2.1 ∧ Limbs W q.2.1 q.2.2.1 q.2.2.2.1 q.2.2.2.2 := fun i hi => by
      obtain ⟨_, _, t0, t1⟩ := hx i (by omega)
      obtain ⟨r, B, m', c', xs, e0, e1, hL⟩ := num_cells t0 t1
      exact ⟨(r, B, m', c', xs), e0, e1, hL⟩
    obtain ⟨f, hF⟩ : ∃ f : Nat → Bool × Option Addr × Nat × Nat × List Nat, ∀ i, i < len → V0 i = .bool (f i).1 ∧ V1 i = .slice (f i).2.1 (f i).2.2.1 (f i).2.2.2.1 ∧ Limbs W (f i).2.1 (f i).2.2.1 (f i).2.2.2.1 (f i).2.2.2.2 := by
      refine ⟨fun i => if hi : i < len then (each i hi).choose else (false, none, 0, 0, []), fun i hi => ?_⟩
      simp only [dif_pos hi]
      exact (each i hi).choose_spec
    refine ⟨some a', len, cap, fun i => (f i).1, fun i => (f i).2.1, fun i => (f i).2.2.1, fun i => (f i).2.2.2.1, fun i => (f i).2.2.2.2, rfl, fun i hi => ?_⟩
    obtain ⟨c0, c1, _, _⟩ := hx i (by omega)
    obtain ⟨e0, e1, hL⟩ := hF i hi
    rw [e0] at c0
    rw [e1] at c1
    refine ⟨a', _, _, rfl, rfl, rfl, ?_, c0, ?_, hL⟩
    · have := lt_of_cell' c0
      rwa [add_block] at this
    · rw [Go.Deep.add_add]
      exact c1
set_option maxHeartbeats 12800000 in
set_option maxRecDepth 100000 in
theorem main (A : Option Addr) (n c : Nat) (rs : Nat → Bool) (As : Nat → Option Addr) (ns cs : Nat → Nat) (xss : Nat → List Nat) (zs : Nat → Int) (w : World) (ht : Tab w) (h : Src rs As ns cs xss w A n) (hz : ∀ i, sg (rs i) (val 4294967296 (xss i)) = zs i) (hn : n ≤ 8) :
    Calls Tryd.prog 8 #[.slice A n c] w fun e w' => e = .returned (.bool true) ∧ Below w.heap.size w w' := by
  have AW : ∀ V, Below w.heap.size w V → Hid (Calls Tryd.prog 18 #[] V fun e w' => e = .returned (.bool true) ∧ Below V.heap.size V w') :=
    fun V hb => Lib.hid (awake_any V (ht.below hb))
  have HZ := Lib.hid hz
  clear hz ht
  go_enter Tryd.func8, Tryd.ntmps8
  go_wp2_with fail
  go_loopw [3, 4, 5] (fun av bv iv wr => ∃ (i : Nat) (es fs : List E2) (A1 : Option Addr) (d1 : Nat) (A2 : Option Addr) (d2 : Nat), i ≤ n ∧ iv = .int .i64 i ∧ av = .slice A1 i d1 ∧ bv = .slice A2 i d2 ∧ wr.ownsRow w.heap.size 24 2 (.slice A1 i d1) i (cells2 es) ∧ wr.ownsRow w.heap.size 30 2 (.slice A2 i d2) i (cells2 fs) ∧ Hid (es.length = i ∧ fs.length = i ∧ ∀ j, j < i → ns j ≤ 60) ∧ Was rs ns xss wr es ∧ Vals zs wr fs ∧ Below w.heap.size w wr) (fun _ _ iv _ => n - (intOf iv).toNat)
  case atStart => exact ⟨0, [], [], none, 0, none, 0, Nat.zero_le _, rfl, rfl, rfl, World.ownsRow_nil _ _ _ _, World.ownsRow_nil _ _ _ _, Lib.hid ⟨rfl, rfl, fun j hj => absurd hj (by omega)⟩, Was.nil _, Vals.nil _, Below.refl _ _⟩
  case round =>
    obtain ⟨i, es, fs, A1, d1, A2, d2, hi, rfl, rfl, rfl, o1, o2, HL, hW, hV, hbel⟩ := hrel
    by_cases hlt : i < n
    · obtain ⟨ad, ⟨pb, po, ps⟩, ⟨qb, qo, qs⟩, rfl, hp, hq, hab, k1, k2, hLm⟩ := h.below hbel i hlt
      obtain ⟨r, hr⟩ : ∃ r, rs i = r := ⟨_, rfl⟩
      obtain ⟨Ai, hAi⟩ : ∃ r, As i = r := ⟨_, rfl⟩
      obtain ⟨m, hm⟩ : ∃ r, ns i = r := ⟨_, rfl⟩
      obtain ⟨ci, hci⟩ : ∃ r, cs i = r := ⟨_, rfl⟩
      have EP : Hid ((⟨pb, po, ps⟩ : Addr).block = ad.block ∧ (⟨qb, qo, qs⟩ : Addr).block = ad.block) := Lib.hid ⟨by rw [← hp, add_block], by rw [← hq, add_block, ← hp, add_block]⟩
      rw [hr] at k1
      rw [hAi, hm, hci] at k2 hLm
      by_cases h60 : m ≤ 60
      · have LN := Lib.hid (long_no r Ai m ci h60 wr)
        have HS := Lib.hid (And.intro hr (And.intro hAi (And.intro hm hci)))
        have HI := Lib.hid hLm
        clear hr hAi hm hci hLm
        go_wp2_with fail
        refine (LN.out).mono ?_
        rintro e v1 ⟨rfl, b1⟩
        replace k1 := (b1.cell (p := ⟨pb, po, ps⟩) (by rw [EP.out.1]; exact hab)).trans k1
        replace k2 := (b1.cell (p := ⟨qb, qo, qs⟩) (by rw [EP.out.2]; exact hab)).trans k2
        replace hab := Nat.lt_of_lt_of_le hab b1.size
        have hLm := HI.out.below b1
        replace o1 := own2_below o1 b1
        replace o2 := own2_below o2 b1
        replace hW := hW.below b1
        replace hV := hV.below b1
        replace hbel := below_then hbel b1
        have CP := Lib.hid (copy_rowE r Ai m ci (xss i) v1 hLm (by omega))
        clear b1 LN HI hLm
        go_wp2_with fail
        refine (CP.out).mono ?_
        rintro e y1 ⟨B, d, rfl, P, E, b1⟩
        have ba := below_al (Below.refl y1.heap.size y1) (.cells #[.bool r, .slice B m d] 24)
        have bb := below_then b1 ba
        replace o1 := own2_below o1 bb
        replace o2 := own2_below o2 bb
        replace hW := hW.below bb
        replace hV := hV.below bb
        replace hbel := below_then hbel bb
        replace P := P.below ba
        replace E := E.below ba
        have tw := Two.made y1 24 (.bool r) (.slice B m d)
        clear b1 ba bb k1 k2 CP
        obtain ⟨Y, hY⟩ : ∃ Y, Y = y1.alloc (.cells #[.bool r, .slice B m d] 24) := ⟨_, rfl⟩
        rw [← hY] at o1 o2 hW hV hbel P E tw
        have hsz : w.heap.size ≤ Y.heap.size := hbel.size
        rw [hY] at o1 tw hsz
        go_wp2_with (at_builtin; refine app2 51 24 Tryd.underlying51 info24 _ rfl _ _ rfl w.heap.size (.slice A1 i d1) i es rfl o1 y1.heap.size 24 r B m d rfl tw (by omega) hsz ?_; intro v2 w2 o3 g3; refine Hid.out ?_)
        refine Lib.hid ?_
        rw [← hY] at o1 g3
        clear tw hsz hY
        obtain ⟨A3, d3, rfl⟩ := own2_slice o3
        have F43 : Far Y 43 (.slice A1 i d1) := Far.of_own o1 (by decide)
        have F5 : Far Y 5 (.slice A1 i d1) := Far.of_own o1 (by decide)
        have F30 : Far Y 30 (.slice A1 i d1) := Far.of_own o1 (by decide)
        have HL2 : Hid ((es ++ [(r, B, m, d)]).length = i + 1) := Lib.hid (by simp [HL.out.1])
        replace hW := hW.grown F43 g3
        replace P := P.grownE E F43 g3
        replace E := E.grown F43 g3
        replace hW : Was rs ns xss w2 (es ++ [(r, B, m, d)]) := by
          have := hW.next HL.out.1 (B := B) (d := d) (by rw [HS.out.2.2.1]; exact P) (by rw [HS.out.2.2.1]; exact E)
          rw [HS.out.1, HS.out.2.2.1] at this
          exact this
        replace hV := hV.grown F5 g3
        replace o2 := own2_kept (e2 := 24) o2 F30 g3
        replace hbel := hbel.grown g3 hbel.size (own2_ge o1)
        clear P E F43 F5 F30 g3 o1
        obtain ⟨ad2, p2, q2, had, hp2, hq2, hab2, k1, k2, hLm⟩ := h.below hbel i hlt
        injection had with had
        subst had
        rw [hp] at hp2
        subst hp2
        rw [hq] at hq2
        subst hq2
        rw [HS.out.1] at k1
        rw [HS.out.2.1, HS.out.2.2.1, HS.out.2.2.2] at k2 hLm
        have VE := Lib.hid (refvalE w2 hLm (r := r) (z := zs i) (by rw [← HS.out.1]; exact HZ.out i) h60)
        clear hLm
        go_wp2_with fail
        refine (VE.out).mono ?_
        rintro e y3 ⟨r4, B4, m4, d4, rfl, P, E, b1⟩
        have ba := below_al (Below.refl y3.heap.size y3) (.cells #[.bool r4, .slice B4 m4 d4] 30)
        have bb := below_then b1 ba
        replace o3 := own2_below o3 bb
        replace o2 := own2_below o2 bb
        replace hW := hW.below bb
        replace hV := hV.below bb
        replace hbel := below_then hbel bb
        replace P := P.below ba
        replace E := E.below ba
        have tw := Two.made y3 30 (.bool r4) (.slice B4 m4 d4)
        clear b1 ba bb k1 k2 VE
        obtain ⟨Y, hY⟩ : ∃ Y, Y = y3.alloc (.cells #[.bool r4, .slice B4 m4 d4] 30) := ⟨_, rfl⟩
        rw [← hY] at o3 o2 hW hV hbel P E tw
        have hsz : w.heap.size ≤ Y.heap.size := hbel.size
        rw [hY] at o2 tw hsz
        go_wp2_with (at_builtin; refine app2 52 30 Tryd.underlying52 info30 _ rfl _ _ rfl w.heap.size (.slice A2 i d2) i fs rfl o2 y3.heap.size 30 r4 B4 m4 d4 rfl tw (by omega) hsz ?_; intro v5 w5 o5 g5; refine Hid.out ?_)
        refine Lib.hid ?_
        rw [← hY] at o2 g5
        clear tw hsz hY
        obtain ⟨A5, d5, rfl⟩ := own2_slice o5
        have F43 : Far Y 43 (.slice A2 i d2) := Far.of_own o2 (by decide)
        have F5 : Far Y 5 (.slice A2 i d2) := Far.of_own o2 (by decide)
        have F24 : Far Y 24 (.slice A2 i d2) := Far.of_own o2 (by decide)
        replace hW := hW.grown F43 g5
        replace P : BV 1920 w5 r4 B4 m4 d4 (zs i) := ⟨⟨P.1.1, P.1.2.1, P.1.2.2.grownE E F5 g5⟩, P.2⟩
        replace E := E.grown F5 g5
        replace hV := (hV.grown F5 g5).next HL.out.2.1 P E
        replace o3 := own2_kept (e2 := 30) o3 F24 g5
        replace hbel := hbel.grown g5 hbel.size (own2_ge o2)
        have HL3 : Hid ((es ++ [(r, B, m, d)]).length = i + 1 ∧ (fs ++ [(r4, B4, m4, d4)]).length = i + 1 ∧ ∀ j, j < i + 1 → ns j ≤ 60) := Lib.hid ⟨HL2.out, by simp [HL.out.2.1], fun j hj => by
          by_cases hji : j < i
          · exact HL.out.2.2 j hji
          · have : j = i := by omega
            subst this
            rw [HS.out.2.2.1]
            exact h60⟩
        clear P E F43 F5 F24 g5 o2 HL HL2
        go_wp2_with fail
        go_roundw
        case rel => exact ⟨i + 1, _, _, A3, d3, A5, d5, by omega, by go_num, rfl, rfl, o3, o5, HL3, hW, hV, hbel⟩
        case measure => simp [intOf]; omega
      · have LN := Lib.hid (long_yes r Ai m ci (by omega) wr)
        clear hr hAi hm hci hLm
        go_wp2_with fail
        refine (LN.out).mono ?_
        rintro e v1 ⟨rfl, b1⟩
        have hb9 := below_then hbel b1
        go_wp2_with fail
        refine ((AW _ hb9).out).mono ?_
        rintro e y8 ⟨rfl, bb8⟩
        go_wp2
        go_ret
        exact ⟨rfl, below_then hb9 bb8⟩
    · obtain rfl : i = n := by omega
      obtain ⟨G, hG⟩ : ∃ G, gcdL (mags zs i) = G := ⟨_, rfl⟩
      have GC := Lib.hid (gcd_at A i c (mags zs i) wr ((h.below hbel).row24 HZ.out HL.out.2.2) (mags_len i) (by omega))
      rw [hG] at GC
      have HG := Lib.hid hG
      clear hG hlt hi
      go_wp2_with fail
      refine (GC.out).mono ?_
      intro e y6 hq
      obtain ⟨r6, A6, m6, c6, rfl, Q6, M6, l6, b1⟩ := TellsF.opened hq
      clear hq GC
      obtain ⟨X, hX⟩ : ∃ X, X = y6.alloc (.cells #[.bool r6, .slice A6 m6 c6] 24) := ⟨_, rfl⟩
      have ba : Below y6.heap.size y6 X := by rw [hX]; exact below_al (Below.refl _ _) _
      have t6 : Two X y6.heap.size 24 (.bool r6) (.slice A6 m6 c6) := by rw [hX]; exact Two.made y6 24 _ _
      replace Q6 := Q6.below ba
      replace M6 := M6.below ba
      have hs6 : wr.heap.size ≤ y6.heap.size := b1.size
      have XB := below_then b1 ba
      clear b1 ba
      have o2X := own2_below o2 XB
      have hVX := hV.below XB
      clear o2 hV
      have KS : ∀ V, Below X.heap.size X V → (Below X.heap.size X V ∧ V.cell? ⟨y6.heap.size, 0, none⟩ = some (.bool r6) ∧ V.cell? ⟨y6.heap.size, 1, none⟩ = some (.slice A6 m6 c6)) := fun V hb => ⟨hb, (t6.below' hb).fst, (t6.below' hb).snd⟩
      have BX0 : Below X.heap.size X X := Below.refl _ _
      have C1 : ∀ V, Below X.heap.size X V → Hid (Calls Tryd.prog 45 #[.slice A2 i d2] V fun e w' => ∃ r B m d, e = .returned (.agg #[.bool r, .slice B m d]) ∧ BV 1920 w' r B m d ((G : Nat) : Int) ∧ Below X.heap.size X w') := fun V hb => Lib.hid (by
        have R := (hVX.below hb).row30 (HL.out.2.1) (own2_below o2X hb)
        have D := refgcd_at A2 i d2 (mags zs i) V R (mags_len i) (by omega)
        rw [HG.out] at D
        refine D.mono fun e w' hq => ?_
        obtain ⟨r, B, m, d, he, hv, hw⟩ := hq
        exact ⟨r, B, m, d, he, hv, below_then hb hw⟩)
      have C2 : ∀ V r B m d, Below X.heap.size X V → BV 1920 V r B m d ((G : Nat) : Int) → Hid (Calls Tryd.prog 25 #[.agg #[.bool r6, .slice A6 m6 c6], .int .i64 (resV ((G : Nat) : Int)), .agg #[.bool r, .slice B m d]] V fun e w' => e = .returned (.bool true) ∧ Below X.heap.size X w') := fun V r B m d hb hv => Lib.hid ((is_can V (Q6.below hb) hv.1 (by have := hv.2; omega) _ (Lib.hid rfl)).mono fun e w' ⟨he, hw⟩ => ⟨he, below_then hb hw⟩)
      go_wp2_with fail
      rw [← hX]
      have HX := Lib.hid hX
      clear hX
      go_region_held3 (fun V => Below X.heap.size X V ∧ V.cell? ⟨y6.heap.size, 0, none⟩ = some (.bool r6) ∧ V.cell? ⟨y6.heap.size, 1, none⟩ = some (.slice A6 m6 c6)) (exact KS _ (by first | assumption | exact Below.drew (by assumption)))
        (first
          | (go_at_call 45; (with_reducible refine ((C1 _ (by first | assumption | exact Below.drew (by assumption))).out).mono ?_); rintro e f1 ⟨rg, Bg, mg, dg, rfl, QG, fl1⟩)
          | (go_at_call 25; (with_reducible refine ((C2 _ rg Bg mg dg (by first | assumption | exact Below.drew (by assumption)) (by first | exact QG | exact BV.drew QG)).out).mono ?_); rintro e f2 ⟨rfl, fl2⟩))
      have fb := (show Below X.heap.size X _ from (by first | assumption | exact Below.drew (by assumption)))
      replace t6 := t6.below' fb
      replace M6 := M6.below fb
      replace XB := below_then XB fb
      clear KS C1 C2 BX0 fb fl1 fl2 Q6 o2X hVX
      have k1 := t6.fst
      have k2 := t6.snd
      go_wp2_with fail
      have CT := Lib.hid (spoil_room r6 A6 m6 c6 _ _ _ M6 (by omega))
      refine (CT.out).mono ?_
      clear CT k1 k2
      rintro e z ⟨rfl, SS⟩
      have E8 := SS.after XB (Nat.le_refl _)
      clear SS XB t6 M6 QG
      replace o1 := own2_below o1 E8
      replace hW := hW.below E8
      replace hbel := below_then hbel E8
      have hS := h.below hbel
      clear E8 h hs6 l6
      go_wp2_with fail
      go_loopw [8] (fun iv V => ∃ (j : Nat), j ≤ i ∧ iv = .int .i64 j ∧ Below z.heap.size z V) (fun iv _ => i - (intOf iv).toNat)
      case atStart => exact ⟨0, Nat.zero_le _, rfl, Below.refl _ _⟩
      case round =>
        obtain ⟨j, hj, rfl, hzb⟩ := hrel
        by_cases hlt : j < i
        · obtain ⟨ad, ⟨pb, po, ps⟩, ⟨qb, qo, qs⟩, rfl, hp, hq, hab, k1, k2, hLm⟩ := hS j hlt
          have hje : j < es.length := by rw [HL.out.1]; exact hlt
          obtain ⟨ad2, ⟨pb2, po2, ps2⟩, ⟨qb2, qo2, qs2⟩, hA1, hp2, hq2, hab2, k3, k4⟩ := own2_at o1 hje
          subst hA1
          obtain ⟨w1, w2, w3, w4⟩ := hW j hje
          obtain ⟨ee, hee⟩ : ∃ ee, es[j] = ee := ⟨_, rfl⟩
          rw [hee] at k3 k4 w1 w2 w3 w4
          obtain ⟨re, Be, ne, de⟩ := ee
          simp only at k3 k4 w1 w2 w3 w4
          subst w1
          subst w2
          obtain ⟨r, hr⟩ : ∃ r, rs j = r := ⟨_, rfl⟩
          obtain ⟨Ai, hAi⟩ : ∃ r, As j = r := ⟨_, rfl⟩
          obtain ⟨m, hm⟩ : ∃ r, ns j = r := ⟨_, rfl⟩
          obtain ⟨ci, hci⟩ : ∃ r, cs j = r := ⟨_, rfl⟩
          rw [hr] at k1 k3
          rw [hAi, hm, hci] at k2 hLm
          rw [hm] at k4 w3
          have hm60 : m ≤ 60 := by rw [← hm]; exact HL.out.2.2 j hlt
          have EP : Hid ((⟨pb, po, ps⟩ : Addr).block = ad.block ∧ (⟨qb, qo, qs⟩ : Addr).block = ad.block ∧ (⟨pb2, po2, ps2⟩ : Addr).block = ad2.block ∧ (⟨qb2, qo2, qs2⟩ : Addr).block = ad2.block) := Lib.hid ⟨by rw [← hp, add_block], by rw [← hq, add_block, ← hp, add_block], by rw [← hp2, add_block], by rw [← hq2, add_block, ← hp2, add_block]⟩
          have KS : ∀ V, Below z.heap.size z V → (Below z.heap.size z V ∧ V.cell? ⟨pb, po, ps⟩ = some (.bool r) ∧ V.cell? ⟨qb, qo, qs⟩ = some (.slice Ai m ci) ∧ V.cell? ⟨pb2, po2, ps2⟩ = some (.bool r) ∧ V.cell? ⟨qb2, qo2, qs2⟩ = some (.slice Be m de)) := fun V hb => ⟨hb, (hb.cell (by rw [EP.out.1]; exact hab)).trans k1, (hb.cell (by rw [EP.out.2.1]; exact hab)).trans k2, (hb.cell (by rw [EP.out.2.2.1]; exact hab2)).trans k3, (hb.cell (by rw [EP.out.2.2.2]; exact hab2)).trans k4⟩
          have CS : ∀ V, Below z.heap.size z V → Hid (Calls Tryd.prog 33 #[.agg #[.bool r, .slice Ai m ci], .agg #[.bool r, .slice Be m de]] V fun e w' => e = .returned (.bool true) ∧ Below z.heap.size z w') := fun V hb => Lib.hid ((same_rows (r := r) (hLm.below hb) (w3.below hb) (by omega)).mono fun e w' ⟨he, hw⟩ => ⟨he, below_then hb hw⟩)
          have hi0 : (0 : Int) ≤ (j : Int) := by omega
          have hi1 : (j : Int) < (i : Int) := by omega
          clear k1 k2 k3 k4 hr hAi hm hci hLm w3 w4 hee hab hab2
          go_wp2_with fail
          go_region_held3 (fun V => Below z.heap.size z V ∧ V.cell? ⟨pb, po, ps⟩ = some (.bool r) ∧ V.cell? ⟨qb, qo, qs⟩ = some (.slice Ai m ci) ∧ V.cell? ⟨pb2, po2, ps2⟩ = some (.bool r) ∧ V.cell? ⟨qb2, qo2, qs2⟩ = some (.slice Be m de)) (exact KS _ (by first | assumption | exact Below.drew (by assumption)))
            (first
              | (go_at_call 33; (with_reducible refine ((CS _ (by first | assumption | exact Below.drew (by assumption))).out).mono ?_); rintro e f1 ⟨rfl, fl1⟩))
          have fb := (show Below z.heap.size z _ from (by first | assumption | exact Below.drew (by assumption)))
          go_wp2_with fail
          go_roundw
          case rel => exact ⟨j + 1, by omega, by go_num, fb⟩
          case measure => simp [intOf]; omega
        · have hb9 := below_then hbel hzb
          go_wp2_with fail
          refine ((AW _ hb9).out).mono ?_
          rintro e y8 ⟨rfl, bb8⟩
          go_wp2
          go_ret
          exact ⟨rfl, below_then hb9 bb8⟩
set_option maxHeartbeats 1600000 in
theorem long_ (A : Option Addr) (n c : Nat) (w : World) (ht : Tab w) (hn : 8 < n) :
    Calls Tryd.prog 8 #[.slice A n c] w fun e w' => e = .returned (.bool true) ∧ Below w.heap.size w w' := by
  have AW := Lib.hid (awake_any w ht)
  clear ht
  go_enter Tryd.func8, Tryd.ntmps8
  go_wp2_with fail
  refine (AW.out).mono ?_
  rintro e y8 ⟨rfl, bb8⟩
  go_wp2
  go_ret
  exact ⟨rfl, bb8⟩
theorem walk (A : Option Addr) (n c : Nat) (rs : Nat → Bool) (As : Nat → Option Addr) (ns cs : Nat → Nat) (xss : Nat → List Nat) (w : World) (ht : Tab w) (h : Src rs As ns cs xss w A n) :
    Calls Tryd.prog 8 #[.slice A n c] w fun e w' => e = .returned (.bool true) ∧ Below w.heap.size w w' := by
  by_cases hn : n ≤ 8
  · exact main A n c rs As ns cs xss _ w ht h (fun i => rfl) hn
  · exact long_ A n c w ht (by omega)
/-! The row's step. -/
set_option maxRecDepth 100000 in
theorem contract (H : Type) (enc : TypeId × Value → H) (W : World) (base : Nat) (args : Array Value) (ds gs : List (DataW H)) (before : List MemPlace)
    (hval : ∀ (j : Nat) t v, Tryd.f8.params[j]? = some t → args[j]? = some v → Value.okWide Tryd.prog W .any base t v)
    (hW : DataW.Whole enc Tryd.prog Tryd.f8.params.toList Rows.numGcdsSpec.vars false W args.toList ds gs before) (hL : laidMetH Tryd.prog Rows.numGcdsRow.laid W) :
    Calls Tryd.prog 8 args W fun e W' => ∃ v, e = .returned v ∧ Rows.numGcdsSpec.post enc Tryd.prog Tryd.f8 false true false false W args v W' := by
  have hW' := hW
  obtain ⟨p, q, hA0, hV, rfl, hfz, hnd⟩ := hW
  have hA : DataW.TrodAll enc Tryd.prog W 0 (fun _ => true) true Tryd.f8.params.toList args.toList ds p := hA0
  obtain ⟨rfl, rfl⟩ := trodVars_none hV
  simp only [List.append_nil] at hW'
  have hlt : ∀ x ∈ p, x.block < W.heap.size := fun x hx => by simpa using hW'.lt x hx
  have hAk := hA
  rw [Tryd.params8] at hA hval
  obtain ⟨v0, vs0, d0, ds0, p0, q0, hargs, rfl, rfl, h0, r0⟩ := trodAll_cons hA
  obtain ⟨rfl, rfl, rfl⟩ := trodAll_nil r0
  obtain rfl : args = #[v0] := by cases args; simp_all
  obtain ⟨A0, n0, c0, rs, As, ns, cs, xss, rfl, S0⟩ := open_nums (hval 0 51 v0 rfl rfl) h0
  refine (walk A0 n0 c0 _ _ _ _ _ W (tab_of hL) S0).mono fun e W' ⟨he, hg⟩ => ?_
  subst he
  exact ⟨_, rfl, _, _, _, [], _, [], hW', (trodAll_cons_mk (shut_bool Tryd.underlying4 _) trodAll_mk0), below_all hg (by kernel_rfl) hAk hlt, rfl, hg.frame _, fun h => by cases h⟩
theorem laid_met (os : Os) : laidMet Tryd.prog Rows.numGcdsRow.laid ((laidWorld os).forCall (fun _ _ => 0) ⟨#[], #[.slice none 0 0], []⟩).memory :=
  laidMet_laidAll _ (by kernel_rfl) (by kernel_rfl)
theorem reads (os : Os) {H : Type} (enc : TypeId × Value → H) : ∃ places, DataW.whole enc Tryd.prog ((laidWorld os).forCall (fun _ _ => 0) ⟨#[], #[.slice none 0 0], []⟩).memory Tryd.f8.params.toList Rows.numGcdsSpec.vars false (#[(Value.slice none 0 0)] : Array Value).toList 8 = some ([.nil], [], places) :=
  ⟨[], by kernel_rfl⟩
set_option maxRecDepth 100000 in
theorem lifted (os : Os) (started : os.Started) (H : Type) (enc : TypeId × Value → H) (F : Stop.Interp) :
    ReturnsInHanded {} Tryd.checked os 8 .any ((OpenSpec.ofChange Rows.numGcdsSpec).preRow enc Tryd.prog Tryd.f8 Rows.numGcdsRow.domain false Rows.numGcdsRow.laid) (((OpenSpec.ofChange Rows.numGcdsSpec).at F).post enc Tryd.prog Tryd.f8 false true false false) := by
  obtain ⟨places, hx⟩ := reads os enc
  refine returnsInHanded_of_row (C := Tryd.checked) (s := OpenSpec.ofChange Rows.numGcdsSpec) own started (by kernel_rfl) Tryd.func8
    (witness_row_at (enc := enc) (C := Tryd.checked) false (laidWorld os) #[.slice none 0 0] (laidWorld_os os) (by kernel_rfl) (by kernel_rfl) (by kernel_rfl)
      (OpenSpec.preRow_of_cond 8 hx (by kernel_rfl) (fun k hk => by cases hk) (by kernel_rfl) (laid_met os))) ?_
  intro W base args ds gs before hval hW _ _ _ hL _ _
  exact contract H enc W base args ds gs before hval hW hL
theorem said : Rows.NumGcdsSaid :=
  OpenClaim.holds_of_cond 8 Tryd.f8 rfl rfl rfl rfl rfl rfl rfl ⟨rfl, rfl, rfl, rfl, rfl⟩ rfl rfl rfl rfl rfl (by kernel_rfl) Tryd.func8 (by kernel_rfl)
    (of_decide_eq_true (by kernel_rfl)) (by unfold Func.isWrapper; first | (rw [if_pos (by decide +kernel)]; kernel_rfl) | (rw [if_neg (by decide +kernel)]; exact ⟨rfl, rfl⟩))
    (fun os started H enc _ F => by rw [OpenClaim.pre_eq_preRow]; exact lifted os started H enc F)
theorem plain (f : FuncId) (fn : Func) (hf : Tryd.pinned.checked.prog.funcNamed "moraine/morainelaw02.NumGcds" = some f) (hfn : Tryd.pinned.checked.prog.funcs[f]? = some fn) :
    false = Tryd.pinned.checked.prog.looks [] ∧ ∀ (j : Nat) t, fn.params[j]? = some t → Tryd.pinned.checked.prog.wantsStandIn t = false := by
  obtain rfl : f = 8 := Option.some.inj ((show Tryd.prog.funcNamed "moraine/morainelaw02.NumGcds" = some 8 by kernel_rfl).symm.trans hf) |>.symm
  obtain rfl : fn = Tryd.f8 := (Option.some.inj (Tryd.func8.symm.trans hfn)).symm
  refine ⟨by kernel_rfl, fun j t ht => ?_⟩
  rw [Tryd.params8] at ht
  have hm := Array.mem_of_getElem? ht
  have hall : (#[51] : Array TypeId).toList.all (fun t => !Tryd.prog.wantsStandIn t) = true := by kernel_rfl
  have := List.all_eq_true.1 hall t (by simpa using hm)
  exact (show Tryd.prog.wantsStandIn t = false by simpa using this)
/-- THE STATEMENT -/
theorem card : Rows.NumGcdsCardSaid :=
  Claim7.holds_tied_plain_at .later [] _ _ _ _ said (fun _ h => by cases h) (by kernel_rfl) (fun _ h => by cases h) Go.Proofs.YtocoflojlliapaaDoor.numGcds_row_tie rfl ⟨rfl, rfl⟩ (by kernel_rfl) rfl plain (by kernel_rfl)
#print axioms card
end Go.Proofs.YtocoflojlliapaaDoor.numGcds
