import Derived.Test.YtocoflojlliapaaDoorH6
set_option linter.unusedVariables false
namespace Go.Proofs.YtocoflojlliapaaDoor
open Go.RowKit
set_option maxHeartbeats 1600000 in
theorem fix_big (neg : Bool) (A : Option Addr) (n c N : Nat) (w : World) (h : Mag w A n c N) (hl : n ≤ 35184372088832) (h2 : 2 < dl N) :
    Calls Tryd.prog 30 #[.agg #[.bool neg, .slice A n c]] w fun e w' => e = .returned (.tuple #[.int .i64 0, .bool false]) ∧ Below w.heap.size w w' := by
  have hT := Two.made w 24 (.bool neg) (.slice A n c)
  have k1 := hT.snd
  have hm := h.alloc (.cells #[.bool neg, .slice A n c] 24)
  have TR := fun V h => Lib.hid (trim_mag A n c N V h hl)
  go_enter Tryd.func30, Tryd.ntmps30
  go_wp2_with fail
  refine ((TR _ hm).out).mono ?_
  rintro e w' ⟨rfl, rfl⟩
  go_wp2
  exact bodyPost_ret (v := .tuple #[.int .i64 0, .bool false]) (by simp [results, Tryd.results30, go_sem]) rfl ⟨rfl, below_al (Below.refl _ _) _⟩
set_option maxHeartbeats 1600000 in
set_option maxHeartbeats 1600000 in
theorem fix_t (A : Option Addr) (n c N lo hi : Nat) (w : World) (h : Mag w A n c N) (hl : n ≤ 35184372088832) (h2 : dl N ≤ 2) (hlo : Hid (lmb (digs 4294967296 N) 0 = lo)) (hhi : Hid (lmb (digs 4294967296 N) 1 = hi)) (bl : lo < 4294967296) (bh : hi < 4294967296) (hN : Hid (lo + 4294967296 * hi = N)) (hs : N ≤ 1152921504606846976) :
    Calls Tryd.prog 30 #[.agg #[.bool true, .slice A n c]] w fun e w' => e = .returned (.tuple #[.int .i64 (-(N : Int)), .bool true]) ∧ Below w.heap.size w w' := by
  have hT := Two.made w 24 (.bool true) (.slice A n c)
  have k1 := hT.snd
  have k0 := hT.fst
  have hm := h.alloc (.cells #[.bool true, .slice A n c] 24)
  have TR := fun V h => Lib.hid (trim_mag A n c N V h hl)
  go_enter Tryd.func30, Tryd.ntmps30
  go_wp2_with fail
  refine ((TR _ hm).out).mono ?_
  rintro e w' ⟨rfl, rfl⟩
  have L1 : ∀ V, Mag V A (dl N) c N → Hid (Calls Tryd.prog 56 #[.slice A (dl N) c, .int .i64 1] V fun e w' => e = .returned (.int .u32 hi) ∧ V = w') :=
    fun V hv => Lib.hid (by rw [← hhi.out]; exact limb_any A (digs 4294967296 N) c 1 V.heap.size V hv.list (by unfold dl at h2; omega) (by omega))
  have L0 : ∀ V, Mag V A (dl N) c N → Hid (Calls Tryd.prog 56 #[.slice A (dl N) c, .int .i64 0] V fun e w' => e = .returned (.int .u32 lo) ∧ V = w') :=
    fun V hv => Lib.hid (by rw [← hlo.out]; exact limb_any A (digs 4294967296 N) c 0 V.heap.size V hv.list (by unfold dl at h2; omega) (by omega))
  go_wp2_with fail
  refine ((L1 _ hm.trim).out).mono ?_
  rintro e w' ⟨rfl, rfl⟩
  go_wp2_with fail
  refine ((L0 _ hm.trim).out).mono ?_
  rintro e w' ⟨rfl, rfl⟩
  clear L1 L0 TR hm hlo hhi h
  have bN : (N : Int) ≤ 1152921504606846976 := by omega
  have e2 : bits BinOp.or IntKind.u64 ((hi : Int) * 4294967296) (lo : Int) = (N : Int) := by
    have hn := hN.out
    rw [bits_join .u64 64 (by decide) wraps_u64 32 _ _ (by omega) (by omega) (by omega) (by omega) (by omega) (by omega)]
    omega
  have bU : (N : Int) < 18446744073709551616 := by have hn := hN.out; omega
  clear hN h2 hs
  generalize dl N = dd
  go_wp2
  exact bodyPost_ret (v := .tuple #[.int .i64 (-(N : Int)), .bool true]) (by simp [results, Tryd.results30, go_sem]) rfl ⟨rfl, below_al (Below.refl _ _) _⟩
set_option maxHeartbeats 1600000 in
theorem fix_f (A : Option Addr) (n c N lo hi : Nat) (w : World) (h : Mag w A n c N) (hl : n ≤ 35184372088832) (h2 : dl N ≤ 2) (hlo : Hid (lmb (digs 4294967296 N) 0 = lo)) (hhi : Hid (lmb (digs 4294967296 N) 1 = hi)) (bl : lo < 4294967296) (bh : hi < 4294967296) (hN : Hid (lo + 4294967296 * hi = N)) (hs : N < 1152921504606846976) :
    Calls Tryd.prog 30 #[.agg #[.bool false, .slice A n c]] w fun e w' => e = .returned (.tuple #[.int .i64 (N : Int), .bool true]) ∧ Below w.heap.size w w' := by
  have hT := Two.made w 24 (.bool false) (.slice A n c)
  have k1 := hT.snd
  have k0 := hT.fst
  have hm := h.alloc (.cells #[.bool false, .slice A n c] 24)
  have TR := fun V h => Lib.hid (trim_mag A n c N V h hl)
  go_enter Tryd.func30, Tryd.ntmps30
  go_wp2_with fail
  refine ((TR _ hm).out).mono ?_
  rintro e w' ⟨rfl, rfl⟩
  have L1 : ∀ V, Mag V A (dl N) c N → Hid (Calls Tryd.prog 56 #[.slice A (dl N) c, .int .i64 1] V fun e w' => e = .returned (.int .u32 hi) ∧ V = w') :=
    fun V hv => Lib.hid (by rw [← hhi.out]; exact limb_any A (digs 4294967296 N) c 1 V.heap.size V hv.list (by unfold dl at h2; omega) (by omega))
  have L0 : ∀ V, Mag V A (dl N) c N → Hid (Calls Tryd.prog 56 #[.slice A (dl N) c, .int .i64 0] V fun e w' => e = .returned (.int .u32 lo) ∧ V = w') :=
    fun V hv => Lib.hid (by rw [← hlo.out]; exact limb_any A (digs 4294967296 N) c 0 V.heap.size V hv.list (by unfold dl at h2; omega) (by omega))
  go_wp2_with fail
  refine ((L1 _ hm.trim).out).mono ?_
  rintro e w' ⟨rfl, rfl⟩
  go_wp2_with fail
  refine ((L0 _ hm.trim).out).mono ?_
  rintro e w' ⟨rfl, rfl⟩
  clear L1 L0 TR hm hlo hhi h
  have bN : (N : Int) < 1152921504606846976 := by omega
  have e2 : bits BinOp.or IntKind.u64 ((hi : Int) * 4294967296) (lo : Int) = (N : Int) := by
    have hn := hN.out
    rw [bits_join .u64 64 (by decide) wraps_u64 32 _ _ (by omega) (by omega) (by omega) (by omega) (by omega) (by omega)]
    omega
  have bU : (N : Int) < 18446744073709551616 := by have hn := hN.out; omega
  clear hN h2 hs
  generalize dl N = dd
  go_wp2
  exact bodyPost_ret (v := .tuple #[.int .i64 (N : Int), .bool true]) (by simp [results, Tryd.results30, go_sem]) rfl ⟨rfl, below_al (Below.refl _ _) _⟩
set_option maxHeartbeats 1600000 in
theorem fix_tn (A : Option Addr) (n c N lo hi : Nat) (w : World) (h : Mag w A n c N) (hl : n ≤ 35184372088832) (h2 : dl N ≤ 2) (hlo : Hid (lmb (digs 4294967296 N) 0 = lo)) (hhi : Hid (lmb (digs 4294967296 N) 1 = hi)) (bl : lo < 4294967296) (bh : hi < 4294967296) (hN : Hid (lo + 4294967296 * hi = N)) (hs : 1152921504606846976 < N) :
    Calls Tryd.prog 30 #[.agg #[.bool true, .slice A n c]] w fun e w' => e = .returned (.tuple #[.int .i64 0, .bool false]) ∧ Below w.heap.size w w' := by
  have hT := Two.made w 24 (.bool true) (.slice A n c)
  have k1 := hT.snd
  have k0 := hT.fst
  have hm := h.alloc (.cells #[.bool true, .slice A n c] 24)
  have TR := fun V h => Lib.hid (trim_mag A n c N V h hl)
  go_enter Tryd.func30, Tryd.ntmps30
  go_wp2_with fail
  refine ((TR _ hm).out).mono ?_
  rintro e w' ⟨rfl, rfl⟩
  have L1 : ∀ V, Mag V A (dl N) c N → Hid (Calls Tryd.prog 56 #[.slice A (dl N) c, .int .i64 1] V fun e w' => e = .returned (.int .u32 hi) ∧ V = w') :=
    fun V hv => Lib.hid (by rw [← hhi.out]; exact limb_any A (digs 4294967296 N) c 1 V.heap.size V hv.list (by unfold dl at h2; omega) (by omega))
  have L0 : ∀ V, Mag V A (dl N) c N → Hid (Calls Tryd.prog 56 #[.slice A (dl N) c, .int .i64 0] V fun e w' => e = .returned (.int .u32 lo) ∧ V = w') :=
    fun V hv => Lib.hid (by rw [← hlo.out]; exact limb_any A (digs 4294967296 N) c 0 V.heap.size V hv.list (by unfold dl at h2; omega) (by omega))
  go_wp2_with fail
  refine ((L1 _ hm.trim).out).mono ?_
  rintro e w' ⟨rfl, rfl⟩
  go_wp2_with fail
  refine ((L0 _ hm.trim).out).mono ?_
  rintro e w' ⟨rfl, rfl⟩
  clear L1 L0 TR hm hlo hhi h
  have bN : 1152921504606846976 < (N : Int) := by omega
  have e2 : bits BinOp.or IntKind.u64 ((hi : Int) * 4294967296) (lo : Int) = (N : Int) := by
    have hn := hN.out
    rw [bits_join .u64 64 (by decide) wraps_u64 32 _ _ (by omega) (by omega) (by omega) (by omega) (by omega) (by omega)]
    omega
  have bU : (N : Int) < 18446744073709551616 := by have hn := hN.out; omega
  have bF1 : ((N : Int) ≤ 1152921504606846976) = False := by simp; omega
  have bF2 : ((N : Int) < 1152921504606846976) = False := by simp; omega
  clear hN h2 hs bN
  generalize dl N = dd
  go_wp2
  exact bodyPost_ret (v := .tuple #[.int .i64 0, .bool false]) (by simp [results, Tryd.results30, go_sem]) rfl ⟨rfl, below_al (Below.refl _ _) _⟩
set_option maxHeartbeats 1600000 in
theorem fix_fn (A : Option Addr) (n c N lo hi : Nat) (w : World) (h : Mag w A n c N) (hl : n ≤ 35184372088832) (h2 : dl N ≤ 2) (hlo : Hid (lmb (digs 4294967296 N) 0 = lo)) (hhi : Hid (lmb (digs 4294967296 N) 1 = hi)) (bl : lo < 4294967296) (bh : hi < 4294967296) (hN : Hid (lo + 4294967296 * hi = N)) (hs : 1152921504606846976 ≤ N) :
    Calls Tryd.prog 30 #[.agg #[.bool false, .slice A n c]] w fun e w' => e = .returned (.tuple #[.int .i64 0, .bool false]) ∧ Below w.heap.size w w' := by
  have hT := Two.made w 24 (.bool false) (.slice A n c)
  have k1 := hT.snd
  have k0 := hT.fst
  have hm := h.alloc (.cells #[.bool false, .slice A n c] 24)
  have TR := fun V h => Lib.hid (trim_mag A n c N V h hl)
  go_enter Tryd.func30, Tryd.ntmps30
  go_wp2_with fail
  refine ((TR _ hm).out).mono ?_
  rintro e w' ⟨rfl, rfl⟩
  have L1 : ∀ V, Mag V A (dl N) c N → Hid (Calls Tryd.prog 56 #[.slice A (dl N) c, .int .i64 1] V fun e w' => e = .returned (.int .u32 hi) ∧ V = w') :=
    fun V hv => Lib.hid (by rw [← hhi.out]; exact limb_any A (digs 4294967296 N) c 1 V.heap.size V hv.list (by unfold dl at h2; omega) (by omega))
  have L0 : ∀ V, Mag V A (dl N) c N → Hid (Calls Tryd.prog 56 #[.slice A (dl N) c, .int .i64 0] V fun e w' => e = .returned (.int .u32 lo) ∧ V = w') :=
    fun V hv => Lib.hid (by rw [← hlo.out]; exact limb_any A (digs 4294967296 N) c 0 V.heap.size V hv.list (by unfold dl at h2; omega) (by omega))
  go_wp2_with fail
  refine ((L1 _ hm.trim).out).mono ?_
  rintro e w' ⟨rfl, rfl⟩
  go_wp2_with fail
  refine ((L0 _ hm.trim).out).mono ?_
  rintro e w' ⟨rfl, rfl⟩
  clear L1 L0 TR hm hlo hhi h
  have bN : 1152921504606846976 ≤ (N : Int) := by omega
  have e2 : bits BinOp.or IntKind.u64 ((hi : Int) * 4294967296) (lo : Int) = (N : Int) := by
    have hn := hN.out
    rw [bits_join .u64 64 (by decide) wraps_u64 32 _ _ (by omega) (by omega) (by omega) (by omega) (by omega) (by omega)]
    omega
  have bU : (N : Int) < 18446744073709551616 := by have hn := hN.out; omega
  have bF2 : ((N : Int) < 1152921504606846976) = False := by simp; omega
  clear hN h2 hs bN
  generalize dl N = dd
  go_wp2
  exact bodyPost_ret (v := .tuple #[.int .i64 0, .bool false]) (by simp [results, Tryd.results30, go_sem]) rfl ⟨rfl, below_al (Below.refl _ _) _⟩
def fixB (z : Int) : Bool := decide (-1152921504606846976 ≤ z ∧ z < 1152921504606846976)
def fixV (z : Int) : Int := if fixB z = true then z else 0
theorem fix_at {r : Bool} {A : Option Addr} {n c : Nat} {z : Int} (w : World) (h : NumAt w r A n c z) (hl : n ≤ 35184372088832) :
    Calls Tryd.prog 30 #[.agg #[.bool r, .slice A n c]] w fun e w' => e = .returned (.tuple #[.int .i64 (fixV z), .bool (fixB z)]) ∧ Below w.heap.size w w' := by
  obtain ⟨N, hm, rfl⟩ := h
  by_cases h2 : dl N ≤ 2
  · have hlow := digs_low (b := 4294967296) (by decide) N
    have hv := digs_val (b := 4294967296) (by decide) N
    have hval : lmb (digs 4294967296 N) 0 + 4294967296 * lmb (digs 4294967296 N) 1 = N := by
      unfold dl at h2
      rcases hd : digs 4294967296 N with _ | ⟨x, _ | ⟨y, _ | ⟨u, l⟩⟩⟩
      · rw [hd] at hv; simpa [lmb, val] using hv
      · rw [hd] at hv; simpa [lmb, val] using hv
      · rw [hd] at hv; simpa [lmb, val] using hv
      · rw [hd] at h2; simp at h2
    have b0 : lmb (digs 4294967296 N) 0 < 4294967296 := Low.getD hlow (by decide) 0
    have b1 : lmb (digs 4294967296 N) 1 < 4294967296 := Low.getD hlow (by decide) 1
    cases r
    · by_cases hs : N < 1152921504606846976
      · have e : fixB (sg false N) = true := by rw [sg_false]; unfold fixB; simp; omega
        rw [fixV, if_pos e, e, sg_false]
        exact fix_f A n c N _ _ w hm hl h2 (Lib.hid rfl) (Lib.hid rfl) b0 b1 (Lib.hid hval) hs
      · have e : fixB (sg false N) = false := by rw [sg_false]; unfold fixB; simp; omega
        rw [fixV, if_neg (by rw [e]; decide), e]
        exact fix_fn A n c N _ _ w hm hl h2 (Lib.hid rfl) (Lib.hid rfl) b0 b1 (Lib.hid hval) (by omega)
    · by_cases hs : N ≤ 1152921504606846976
      · have e : fixB (sg true N) = true := by rw [sg_true]; unfold fixB; simp; omega
        rw [fixV, if_pos e, e, sg_true]
        exact fix_t A n c N _ _ w hm hl h2 (Lib.hid rfl) (Lib.hid rfl) b0 b1 (Lib.hid hval) hs
      · have e : fixB (sg true N) = false := by rw [sg_true]; unfold fixB; simp; omega
        rw [fixV, if_neg (by rw [e]; decide), e]
        exact fix_tn A n c N _ _ w hm hl h2 (Lib.hid rfl) (Lib.hid rfl) b0 b1 (Lib.hid hval) (by omega)
  · have hbig : 18446744073709551616 ≤ N := by
      rcases Nat.lt_or_ge N 18446744073709551616 with h | h
      · exact absurd ((dl_le N 2).2 (by omega)) h2
      · exact h
    have e : fixB (sg r N) = false := by
      unfold fixB
      cases r
      · rw [sg_false]; simp; omega
      · rw [sg_true]; simp; omega
    rw [fixV, if_neg (by rw [e]; decide), e]
    exact fix_big r A n c N w hm hl (by omega)
end Go.Proofs.YtocoflojlliapaaDoor
