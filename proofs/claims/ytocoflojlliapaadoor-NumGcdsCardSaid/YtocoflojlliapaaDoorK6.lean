import Derived.Test.YtocoflojlliapaaDoorK3
import Derived.Test.YtocoflojlliapaaDoorK5
import Derived.Test.YtocoflojlliapaaDoorCards
import Derived.Test.YtocoflojlliapaaDoorTie
import Derived.WalkKit
import Derived.ProofKit
import Derived.OpenShut
import Derived.Deep.DeepHandedRow
import Derived.Lib.LaidTab
import Derived.MakeChecks
import Derived.Stop.LaidErr
import Derived.Lay
set_option linter.unusedVariables false
namespace Go.Proofs.YtocoflojlliapaaDoor
open Go.RowKit
/-- a quotient and what is left, trimmed -/
def DivPost (w : World) (a b : Nat) (e : Ending) (w' : World) : Prop := ∃ A1 c1 A2 c2, e = .returned (.tuple #[.slice A1 (dl (a / b)) c1, .slice A2 (dl (a % b)) c2]) ∧ Mag w' A1 (dl (a / b)) c1 (a / b) ∧ Mag w' A2 (dl (a % b)) c2 (a % b) ∧ Below w.heap.size w w'
/-- what divideLong answers -/
def LongSaid (a b : Nat) : Prop := ∀ (A1 A2 : Option Addr) (c1 c2 : Nat) (w : World), Mag w A1 (dl a) c1 a → Mag w A2 (dl b) c2 b → Calls Tryd.prog 81 #[.slice A1 (dl a) c1, .slice A2 (dl b) c2] w (DivPost w a b)
def DivSaid (a b : Nat) : Prop := ∀ (A1 A2 : Option Addr) (c1 c2 : Nat) (w : World), Mag w A1 (dl a) c1 a → Mag w A2 (dl b) c2 b → Calls Tryd.prog 62 #[.slice A1 (dl a) c1, .slice A2 (dl b) c2] w (DivPost w a b)
set_option maxHeartbeats 1600000 in
theorem divide_less (a b : Nat) (hab : a < b) (l1 : dl a ≤ 1000) (l2 : dl b ≤ 1000) : DivSaid a b := by
  intro A1 A2 c1 c2 w h1 h2
  have F : Hid (cmpN a b = -1) := Lib.hid (cmpN_lt hab)
  have HC := fun w h1 h2 => Lib.hid (compare_mag A1 A2 c1 c2 a b w h1 h2 (by omega) (by omega))
  rw [F.out] at HC
  have hq : Hid (a / b = 0) := Lib.hid (Nat.div_eq_of_lt hab)
  have hr : Hid (a % b = a) := Lib.hid (Nat.mod_eq_of_lt hab)
  clear hab
  go_enter Tryd.func62, Tryd.ntmps62
  go_wp2_with (go_at_call 57; refine ((HC _ h1 h2).out).mono ?_; rintro e w' ⟨rfl, m, rfl⟩)
  go_ret2
  unfold DivPost
  rw [hq.out, hr.out]
  exact ⟨none, 0, A1, c1, rfl, Mag.none_ _, h1.drewN m, below_drewN (Below.refl _ _) m⟩
set_option maxHeartbeats 1600000 in
theorem divide_limb (a b : Nat) (hab : b ≤ a) (hb : b ≠ 0) (l1 : dl a ≤ 1000) (l2 : dl b = 1) : DivSaid a b := by
  intro A1 A2 c1 c2 w h1 h2
  have HC := fun w h1 h2 => Lib.hid (compare_mag A1 A2 c1 c2 a b w h1 h2 (by omega) (by omega))
  have hc0 : 0 ≤ cmpN a b := by
    rcases Nat.lt_or_ge b a with h | h
    · rw [cmpN_gt h]; decide
    · have : a = b := by omega
      subst this
      rw [cmpN_self]
      exact Int.le_refl 0
  have hb1 : b < 4294967296 := by
    have := (dl_le b 1).1 (by omega)
    simpa using this
  have hd : digs 4294967296 b = [b] := by
    rw [digs_pos (by decide) hb, Nat.mod_eq_of_lt hb1, Nat.div_eq_of_lt hb1]
    rfl
  have hlist := h2.list
  rw [hd] at hlist
  obtain ⟨ad, rfl, _, hcell⟩ := hlist.at (i := 0) (by simp)
  have e0 : ad.add 0 = ad := by simp [Addr.add]
  rw [e0] at hcell
  simp only [List.getElem_cons_zero] at hcell
  have h2' := h2
  rw [l2] at HC h2 ⊢
  clear h2'
  have HCC := fun (w : World) h1 h2 => (HC w h1 h2)
  have hbl := fun w h => Lib.hid (byLimb_mag A1 (dl a) c1 a b w h (by omega) (by omega) hb1)
  have hmod : a % b < 4294967296 := Nat.lt_trans (Nat.mod_lt _ (by omega)) hb1
  have L2 := Lib.hid l2
  clear l2 hd e0 hlist
  obtain ⟨R, hR⟩ : ∃ R, R = a % b := ⟨_, rfl⟩
  rw [← hR] at hmod
  have hbl2 : ∀ (w : World), Mag w A1 (dl a) c1 a → Hid (Calls Tryd.prog 66 #[.slice A1 (dl a) c1, .int .u32 b] w fun e w' => e = .returned (.tuple #[.slice (some ⟨w.heap.size, 0, none⟩) (dl (a / b)) (dl a), .int .u32 (R : Nat)]) ∧ Mag w' (some ⟨w.heap.size, 0, none⟩) (dl (a / b)) (dl a) (a / b) ∧ Below w.heap.size w w') := fun w h => by rw [hR]; exact hbl w h
  have KR := Lib.hid hR
  clear hR hbl HC
  go_enter Tryd.func62, Tryd.ntmps62
  go_wp2_with (first
    | (go_at_call 57; refine ((HCC _ h1 h2).out).mono ?_; rintro e w' ⟨rfl, m, rfl⟩)
    | (go_at_call 66; refine ((hbl2 _ (h1.drewN m)).out).mono ?_; rintro e w1 ⟨rfl, hm1, hb1⟩)
    | (go_at_call 54; refine (trim_mag _ 1 1 R _ (Mag.one w1 R hmod) (by omega)).mono ?_; rintro e w2 ⟨rfl, rfl⟩))
  go_ret2
  unfold DivPost
  rw [← KR.out]
  exact ⟨_, _, _, _, rfl, (hm1.alloc _), (Mag.one w1 R hmod).trim, below_al (below_then (below_drewN (Below.refl _ _) m) hb1) _⟩
set_option maxHeartbeats 1600000 in
theorem divide_long (a b : Nat) (hab : b ≤ a) (l1 : dl a ≤ 1000) (l2 : 2 ≤ dl b) (hL : LongSaid a b) : DivSaid a b := by
  intro A1 A2 c1 c2 w h1 h2
  have l3 : dl b ≤ dl a := dl_mono hab
  have HC := fun w h1 h2 => Lib.hid (compare_mag A1 A2 c1 c2 a b w h1 h2 (by omega) (by omega))
  have hc0 : 0 ≤ cmpN a b := by
    rcases Nat.lt_or_ge b a with h | h
    · rw [cmpN_gt h]; decide
    · have : a = b := by omega
      subst this
      rw [cmpN_self]
      exact Int.le_refl 0
  have hne : ((dl b : Int) == 1) = false := beq_eq_false_iff_ne.2 (by omega)
  have HL := fun w h1 h2 => Lib.hid (hL A1 A2 c1 c2 w h1 h2)
  clear hL
  go_enter Tryd.func62, Tryd.ntmps62
  go_wp2_with (first
    | (go_at_call 57; refine ((HC _ h1 h2).out).mono ?_; rintro e w' ⟨rfl, m, rfl⟩)
    | (go_at_call 81; refine ((HL _ (h1.drewN m) (h2.drewN m)).out).mono ?_; rintro e w1 ⟨B1, d1, B2, d2, rfl, hm1, hm2, hb1⟩))
  go_ret2
  exact ⟨B1, d1, B2, d2, rfl, hm1, hm2, below_then (below_drewN (Below.refl _ _) m) hb1⟩
end Go.Proofs.YtocoflojlliapaaDoor
set_option linter.unusedVariables false
namespace Go.Proofs.YtocoflojlliapaaDoor
open Go.RowKit
def modN (na nb : Bool) (a b : Nat) : Nat := if na ≠ nb ∧ a % b ≠ 0 then b - a % b else a % b
theorem boxes3 (w : World) (a b a' b' a'' b'' : Value) : ∀ W, W = ((w.alloc (.cells #[a, b] 24)).alloc (.cells #[a', b'] 24)).alloc (.cells #[a'', b''] 24) →
    Two W w.heap.size 24 a b ∧ Two W (w.heap.size + 1) 24 a' b' ∧ Two W (w.heap.size + 2) 24 a'' b'' ∧ Below w.heap.size w W ∧ W.heap.size = w.heap.size + 3 := by
  rintro W rfl
  refine ⟨((Two.made w 24 a b).alloc _).alloc _, ?_, ?_, below_al (below_al (below_al (Below.refl _ _) _) _) _, by simp⟩
  · have := (Two.made (w.alloc (.cells #[a, b] 24)) 24 a' b').alloc (.cells #[a'', b''] 24)
    simpa using this
  · have := Two.made ((w.alloc (.cells #[a, b] 24)).alloc (.cells #[a', b'] 24)) 24 a'' b''
    simpa using this
theorem sign_nz {nb : Bool} {b : Nat} (hb : b ≠ 0) : (cmpI (sg nb b) 0 == 0) = false := by
  rw [beq_eq_false_iff_ne]
  rcases cmpI_sign (sg nb b) with ⟨h, _⟩ | ⟨_, h⟩ | ⟨h, _⟩
  · rw [h]; decide
  · cases nb
    · rw [sg_false] at h; omega
    · rw [sg_true] at h; omega
  · rw [h]; decide
theorem sign_z (nb : Bool) : cmpI (sg nb 0) 0 = 0 := cmpI_eq (sg_zero nb)
/-- the zero and its error, where b is 0 -/
def ZeroSaid (f : FuncId) : Prop := ∀ (na nb : Bool) (A1 A2 : Option Addr) (n1 c1 n2 c2 : Nat) (w : World), Mag w A2 n2 c2 0 → n2 ≤ 1000 →
    Calls Tryd.prog f #[.agg #[.bool na, .slice A1 n1 c1], .agg #[.bool nb, .slice A2 n2 c2]] w fun e w' => e = .returned (.tuple #[.agg #[.bool false, .slice none 0 0], .int .i64 13]) ∧ Below w.heap.size w w'
set_option maxHeartbeats 1600000 in
theorem quo_zero : ZeroSaid 40 := by
  intro na nb A1 A2 n1 c1 n2 c2 w h2 l2
  have S2 := fun W h => sign_any nb A2 n2 c2 0 W h (by omega)
  rw [sign_z] at S2
  have HS := fun W h => Lib.hid (S2 W h)
  clear S2
  have hm := ((h2.alloc (.cells #[.bool na, .slice A1 n1 c1] 24)).alloc (.cells #[.bool nb, .slice A2 n2 c2] 24)).alloc (.cells #[.bool false, .slice none 0 0] 24)
  go_enter Tryd.func40, Tryd.ntmps40
  go_wp2_with (go_at_call 27; refine ((HS _ hm).out).mono ?_; rintro e w' ⟨rfl, rfl⟩)
  exact bodyPost_ret (v := .tuple #[.agg #[.bool false, .slice none 0 0], .int .i64 13]) (by simp [results, Tryd.results40, go_sem]) rfl ⟨rfl, below_al (below_al (below_al (below_al (Below.refl _ _) _) _) _) _⟩
set_option maxHeartbeats 1600000 in
theorem rem_zero : ZeroSaid 41 := by
  intro na nb A1 A2 n1 c1 n2 c2 w h2 l2
  have S2 := fun W h => sign_any nb A2 n2 c2 0 W h (by omega)
  rw [sign_z] at S2
  have HS := fun W h => Lib.hid (S2 W h)
  clear S2
  have hm := ((h2.alloc (.cells #[.bool na, .slice A1 n1 c1] 24)).alloc (.cells #[.bool nb, .slice A2 n2 c2] 24)).alloc (.cells #[.bool false, .slice none 0 0] 24)
  go_enter Tryd.func41, Tryd.ntmps41
  go_wp2_with (go_at_call 27; refine ((HS _ hm).out).mono ?_; rintro e w' ⟨rfl, rfl⟩)
  exact bodyPost_ret (v := .tuple #[.agg #[.bool false, .slice none 0 0], .int .i64 13]) (by simp [results, Tryd.results41, go_sem]) rfl ⟨rfl, below_al (below_al (below_al (below_al (Below.refl _ _) _) _) _) _⟩
set_option maxHeartbeats 1600000 in
theorem mod_zero : ZeroSaid 42 := by
  intro na nb A1 A2 n1 c1 n2 c2 w h2 l2
  have S2 := fun W h => sign_any nb A2 n2 c2 0 W h (by omega)
  rw [sign_z] at S2
  have HS := fun W h => Lib.hid (S2 W h)
  clear S2
  have hm := ((h2.alloc (.cells #[.bool na, .slice A1 n1 c1] 24)).alloc (.cells #[.bool nb, .slice A2 n2 c2] 24)).alloc (.cells #[.bool false, .slice none 0 0] 24)
  go_enter Tryd.func42, Tryd.ntmps42
  go_wp2_with (go_at_call 27; refine ((HS _ hm).out).mono ?_; rintro e w' ⟨rfl, rfl⟩)
  exact bodyPost_ret (v := .tuple #[.agg #[.bool false, .slice none 0 0], .int .i64 13]) (by simp [results, Tryd.results42, go_sem]) rfl ⟨rfl, below_al (below_al (below_al (below_al (Below.refl _ _) _) _) _) _⟩
end Go.Proofs.YtocoflojlliapaaDoor
set_option linter.unusedVariables false
namespace Go.Proofs.YtocoflojlliapaaDoor
open Go.RowKit
set_option maxHeartbeats 3200000 in
theorem mod_same_tt (A1 A2 : Option Addr) (n1 c1 a n2 c2 b R : Nat) (w : World) (h1 : Mag w A1 n1 c1 a) (h2 : Mag w A2 n2 c2 b) (l1 : n1 ≤ 1000) (l2 : n2 ≤ 1000) (hb : b ≠ 0) (hD : DivSaid a b) (hR : Hid (a % b = R))
     (hfit : dl (R) ≤ 48) :
    Calls Tryd.prog 42 #[.agg #[.bool true, .slice A1 n1 c1], .agg #[.bool true, .slice A2 n2 c2]] w fun e w' => Num w w' e true (R) := by
  have HS := fun W h => Lib.hid (sign_any true A2 n2 c2 b W h (by omega))
  have hz := sign_nz (nb := true) hb
  obtain ⟨W, hW⟩ : ∃ W, W = ((w.alloc (.cells #[.bool true, .slice A1 n1 c1] 24)).alloc (.cells #[.bool true, .slice A2 n2 c2] 24)).alloc (.cells #[.bool false, .slice none 0 0] 24) := ⟨_, rfl⟩
  obtain ⟨t1, t2, t3, hbW, hWs⟩ := boxes3 w _ _ _ _ _ _ W hW
  obtain ⟨V, hV⟩ : ∃ V, V = W.alloc (.cells #[.bool true, .slice A2 n2 c2] 24) := ⟨_, rfl⟩
  have hbV : Below w.heap.size w V := by rw [hV]; exact below_al hbW _
  have u1 : Two V w.heap.size 24 (.bool true) (.slice A1 n1 c1) := by rw [hV]; exact t1.alloc _
  have u2 : Two V (w.heap.size + 1) 24 (.bool true) (.slice A2 n2 c2) := by rw [hV]; exact t2.alloc _
  have u3 : Two V (w.heap.size + 2) 24 (.bool false) (.slice none 0 0) := by rw [hV]; exact t3.alloc _
  have hVs : V.heap.size = w.heap.size + 4 := by rw [hV]; simp [hWs]
  have HM2 := h2.below hbW
  have m1 := h1.below hbV
  have m2 := h2.below hbV
  have k1 := u1.fst
  have k2 := u1.snd
  have k3 := u2.fst
  have k4 := u2.snd
  have hbr : Hid (R < b) := Lib.hid (by rw [← hR.out]; exact Nat.mod_lt _ (by omega))
  have dlr : dl R ≤ dl b := dl_mono (Nat.le_of_lt hbr.out)
  have dlb : dl b ≤ 1000 := Nat.le_trans h2.le l2
  have dla : dl a ≤ 1000 := Nat.le_trans h1.le l1
  have HDP : ∀ W, Mag W A1 (dl a) c1 a → Mag W A2 (dl b) c2 b → Hid (Calls Tryd.prog 62 #[.slice A1 (dl a) c1, .slice A2 (dl b) c2] W fun e w' => ∃ B1 d1 B2 d2, e = .returned (.tuple #[.slice B1 (dl (a / b)) d1, .slice B2 (dl R) d2]) ∧ Mag w' B2 (dl R) d2 R ∧ Below W.heap.size W w') := fun W h h' => Lib.hid ((hD A1 A2 c1 c2 W h h').mono fun e w' ⟨B1, d1, B2, d2, he, _, hm, hb⟩ => ⟨B1, d1, B2, d2, by rw [← hR.out]; exact he, by rw [← hR.out]; exact hm, hb⟩)
  have HVS := Lib.hid hVs
  clear hVs hWs t1 t2 t3 hb hD
  have T2 := fun W h => Lib.hid (trim_mag A2 n2 c2 b W h (by omega))
  have T1 := fun W h => Lib.hid (trim_mag A1 n1 c1 a W h (by omega))
  go_enter Tryd.func42, Tryd.ntmps42
  go_wp2_with fail
  rw [← hW]
  refine ((HS _ HM2).out).mono ?_
  rintro e w' ⟨rfl, rfl⟩
  rw [← hV]
  have HWW := Lib.hid hW
  have HVV := Lib.hid hV
  clear hW hV
  go_wp2_with (first | (go_at_call 54; (first | (with_reducible refine ((T2 _ m2).out).mono ?_) | (with_reducible refine ((T1 _ m1).out).mono ?_)); rintro e w' ⟨rfl, rfl⟩) | (go_at_call 62; refine ((HDP _ m1.trim m2.trim).out).mono ?_; rintro e w1 ⟨B1, d1, B2, d2, rfl, hm, hb1⟩; have p1 := (u1.below' hb1).fst; have p2 := (u2.below' hb1).fst) | (go_at_call 52; refine (signed_any true _).mono ?_; rintro e w' ⟨rfl, rfl⟩) | (go_at_call 79; refine (signed1_yes w1.heap.size true B2 (dl R) d2 R _ (one_made _ _ _) (hm.alloc _) (by omega) hfit).mono ?_; rintro e w9 ⟨A', c', rfl, hf⟩; have hb9 : Below V.heap.size V w9 := below_then hb1 (below_then (below_al (Below.refl _ _) _) hf.2); have q0 := (u3.below' hb9).fst; have q1 := (u3.below' hb9).snd; have q2 := (u3.below' hb9).free 0; have q3 := (u3.below' hb9).free 1))
  exact bodyPost_ret (v := .tuple #[.agg #[.bool (signB true (R)), .slice A' (dl (R)) c'], .int .i64 0]) (by simp [results, Tryd.results42, go_sem, q0, q1]) rfl
    ⟨A', c', rfl, hf.two (g := w.heap.size + 1 + 1) (below_al (below_then hbV hb1) _) (by omega) (by have := HVS.out; have := hb1.size; simp; omega)⟩
set_option maxHeartbeats 3200000 in
theorem mod_same_ff (A1 A2 : Option Addr) (n1 c1 a n2 c2 b R : Nat) (w : World) (h1 : Mag w A1 n1 c1 a) (h2 : Mag w A2 n2 c2 b) (l1 : n1 ≤ 1000) (l2 : n2 ≤ 1000) (hb : b ≠ 0) (hD : DivSaid a b) (hR : Hid (a % b = R))
     (hfit : dl (R) ≤ 48) :
    Calls Tryd.prog 42 #[.agg #[.bool false, .slice A1 n1 c1], .agg #[.bool false, .slice A2 n2 c2]] w fun e w' => Num w w' e false (R) := by
  have HS := fun W h => Lib.hid (sign_any false A2 n2 c2 b W h (by omega))
  have hz := sign_nz (nb := false) hb
  obtain ⟨W, hW⟩ : ∃ W, W = ((w.alloc (.cells #[.bool false, .slice A1 n1 c1] 24)).alloc (.cells #[.bool false, .slice A2 n2 c2] 24)).alloc (.cells #[.bool false, .slice none 0 0] 24) := ⟨_, rfl⟩
  obtain ⟨t1, t2, t3, hbW, hWs⟩ := boxes3 w _ _ _ _ _ _ W hW
  obtain ⟨V, hV⟩ : ∃ V, V = W.alloc (.cells #[.bool false, .slice A2 n2 c2] 24) := ⟨_, rfl⟩
  have hbV : Below w.heap.size w V := by rw [hV]; exact below_al hbW _
  have u1 : Two V w.heap.size 24 (.bool false) (.slice A1 n1 c1) := by rw [hV]; exact t1.alloc _
  have u2 : Two V (w.heap.size + 1) 24 (.bool false) (.slice A2 n2 c2) := by rw [hV]; exact t2.alloc _
  have u3 : Two V (w.heap.size + 2) 24 (.bool false) (.slice none 0 0) := by rw [hV]; exact t3.alloc _
  have hVs : V.heap.size = w.heap.size + 4 := by rw [hV]; simp [hWs]
  have HM2 := h2.below hbW
  have m1 := h1.below hbV
  have m2 := h2.below hbV
  have k1 := u1.fst
  have k2 := u1.snd
  have k3 := u2.fst
  have k4 := u2.snd
  have hbr : Hid (R < b) := Lib.hid (by rw [← hR.out]; exact Nat.mod_lt _ (by omega))
  have dlr : dl R ≤ dl b := dl_mono (Nat.le_of_lt hbr.out)
  have dlb : dl b ≤ 1000 := Nat.le_trans h2.le l2
  have dla : dl a ≤ 1000 := Nat.le_trans h1.le l1
  have HDP : ∀ W, Mag W A1 (dl a) c1 a → Mag W A2 (dl b) c2 b → Hid (Calls Tryd.prog 62 #[.slice A1 (dl a) c1, .slice A2 (dl b) c2] W fun e w' => ∃ B1 d1 B2 d2, e = .returned (.tuple #[.slice B1 (dl (a / b)) d1, .slice B2 (dl R) d2]) ∧ Mag w' B2 (dl R) d2 R ∧ Below W.heap.size W w') := fun W h h' => Lib.hid ((hD A1 A2 c1 c2 W h h').mono fun e w' ⟨B1, d1, B2, d2, he, _, hm, hb⟩ => ⟨B1, d1, B2, d2, by rw [← hR.out]; exact he, by rw [← hR.out]; exact hm, hb⟩)
  have HVS := Lib.hid hVs
  clear hVs hWs t1 t2 t3 hb hD
  have T2 := fun W h => Lib.hid (trim_mag A2 n2 c2 b W h (by omega))
  have T1 := fun W h => Lib.hid (trim_mag A1 n1 c1 a W h (by omega))
  go_enter Tryd.func42, Tryd.ntmps42
  go_wp2_with fail
  rw [← hW]
  refine ((HS _ HM2).out).mono ?_
  rintro e w' ⟨rfl, rfl⟩
  rw [← hV]
  have HWW := Lib.hid hW
  have HVV := Lib.hid hV
  clear hW hV
  go_wp2_with (first | (go_at_call 54; (first | (with_reducible refine ((T2 _ m2).out).mono ?_) | (with_reducible refine ((T1 _ m1).out).mono ?_)); rintro e w' ⟨rfl, rfl⟩) | (go_at_call 62; refine ((HDP _ m1.trim m2.trim).out).mono ?_; rintro e w1 ⟨B1, d1, B2, d2, rfl, hm, hb1⟩; have p1 := (u1.below' hb1).fst; have p2 := (u2.below' hb1).fst) | (go_at_call 52; refine (signed_any false _).mono ?_; rintro e w' ⟨rfl, rfl⟩) | (go_at_call 79; refine (signed1_yes w1.heap.size false B2 (dl R) d2 R _ (one_made _ _ _) (hm.alloc _) (by omega) hfit).mono ?_; rintro e w9 ⟨A', c', rfl, hf⟩; have hb9 : Below V.heap.size V w9 := below_then hb1 (below_then (below_al (Below.refl _ _) _) hf.2); have q0 := (u3.below' hb9).fst; have q1 := (u3.below' hb9).snd; have q2 := (u3.below' hb9).free 0; have q3 := (u3.below' hb9).free 1))
  exact bodyPost_ret (v := .tuple #[.agg #[.bool (signB false (R)), .slice A' (dl (R)) c'], .int .i64 0]) (by simp [results, Tryd.results42, go_sem, q0, q1]) rfl
    ⟨A', c', rfl, hf.two (g := w.heap.size + 1 + 1) (below_al (below_then hbV hb1) _) (by omega) (by have := HVS.out; have := hb1.size; simp; omega)⟩
set_option maxHeartbeats 3200000 in
theorem mod_none_tf (A1 A2 : Option Addr) (n1 c1 a n2 c2 b R : Nat) (w : World) (h1 : Mag w A1 n1 c1 a) (h2 : Mag w A2 n2 c2 b) (l1 : n1 ≤ 1000) (l2 : n2 ≤ 1000) (hb : b ≠ 0) (hD : DivSaid a b) (hR : Hid (a % b = R))
     (hr0 : Hid (R = 0)) (hfit : dl (R) ≤ 48) :
    Calls Tryd.prog 42 #[.agg #[.bool true, .slice A1 n1 c1], .agg #[.bool false, .slice A2 n2 c2]] w fun e w' => Num w w' e false (R) := by
  have HS := fun W h => Lib.hid (sign_any false A2 n2 c2 b W h (by omega))
  have hz := sign_nz (nb := false) hb
  obtain ⟨W, hW⟩ : ∃ W, W = ((w.alloc (.cells #[.bool true, .slice A1 n1 c1] 24)).alloc (.cells #[.bool false, .slice A2 n2 c2] 24)).alloc (.cells #[.bool false, .slice none 0 0] 24) := ⟨_, rfl⟩
  obtain ⟨t1, t2, t3, hbW, hWs⟩ := boxes3 w _ _ _ _ _ _ W hW
  obtain ⟨V, hV⟩ : ∃ V, V = W.alloc (.cells #[.bool false, .slice A2 n2 c2] 24) := ⟨_, rfl⟩
  have hbV : Below w.heap.size w V := by rw [hV]; exact below_al hbW _
  have u1 : Two V w.heap.size 24 (.bool true) (.slice A1 n1 c1) := by rw [hV]; exact t1.alloc _
  have u2 : Two V (w.heap.size + 1) 24 (.bool false) (.slice A2 n2 c2) := by rw [hV]; exact t2.alloc _
  have u3 : Two V (w.heap.size + 2) 24 (.bool false) (.slice none 0 0) := by rw [hV]; exact t3.alloc _
  have hVs : V.heap.size = w.heap.size + 4 := by rw [hV]; simp [hWs]
  have HM2 := h2.below hbW
  have m1 := h1.below hbV
  have m2 := h2.below hbV
  have k1 := u1.fst
  have k2 := u1.snd
  have k3 := u2.fst
  have k4 := u2.snd
  have hbr : Hid (R < b) := Lib.hid (by rw [← hR.out]; exact Nat.mod_lt _ (by omega))
  have dlr : dl R ≤ dl b := dl_mono (Nat.le_of_lt hbr.out)
  have dlb : dl b ≤ 1000 := Nat.le_trans h2.le l2
  have dla : dl a ≤ 1000 := Nat.le_trans h1.le l1
  have HDP : ∀ W, Mag W A1 (dl a) c1 a → Mag W A2 (dl b) c2 b → Hid (Calls Tryd.prog 62 #[.slice A1 (dl a) c1, .slice A2 (dl b) c2] W fun e w' => ∃ B1 d1 B2 d2, e = .returned (.tuple #[.slice B1 (dl (a / b)) d1, .slice B2 (dl R) d2]) ∧ Mag w' B2 (dl R) d2 R ∧ Below W.heap.size W w') := fun W h h' => Lib.hid ((hD A1 A2 c1 c2 W h h').mono fun e w' ⟨B1, d1, B2, d2, he, _, hm, hb⟩ => ⟨B1, d1, B2, d2, by rw [← hR.out]; exact he, by rw [← hR.out]; exact hm, hb⟩)
  have HVS := Lib.hid hVs
  clear hVs hWs t1 t2 t3 hb hD
  have T2 := fun W h => Lib.hid (trim_mag A2 n2 c2 b W h (by omega))
  have T1 := fun W h => Lib.hid (trim_mag A1 n1 c1 a W h (by omega))
  have hd0 : (dl R : Int) ≤ 0 := by rw [hr0.out, dl_zero]; exact Int.le_refl 0
  go_enter Tryd.func42, Tryd.ntmps42
  go_wp2_with fail
  rw [← hW]
  refine ((HS _ HM2).out).mono ?_
  rintro e w' ⟨rfl, rfl⟩
  rw [← hV]
  have HWW := Lib.hid hW
  have HVV := Lib.hid hV
  clear hW hV
  go_wp2_with (first | (go_at_call 54; (first | (with_reducible refine ((T2 _ m2).out).mono ?_) | (with_reducible refine ((T1 _ m1).out).mono ?_)); rintro e w' ⟨rfl, rfl⟩) | (go_at_call 62; refine ((HDP _ m1.trim m2.trim).out).mono ?_; rintro e w1 ⟨B1, d1, B2, d2, rfl, hm, hb1⟩; have p1 := (u1.below' hb1).fst; have p2 := (u2.below' hb1).fst) | (go_at_call 52; refine (signed_any false _).mono ?_; rintro e w' ⟨rfl, rfl⟩) | (go_at_call 79; refine (signed1_yes w1.heap.size false B2 (dl R) d2 R _ (one_made _ _ _) (hm.alloc _) (by omega) hfit).mono ?_; rintro e w9 ⟨A', c', rfl, hf⟩; have hb9 : Below V.heap.size V w9 := below_then hb1 (below_then (below_al (Below.refl _ _) _) hf.2); have q0 := (u3.below' hb9).fst; have q1 := (u3.below' hb9).snd; have q2 := (u3.below' hb9).free 0; have q3 := (u3.below' hb9).free 1))
  exact bodyPost_ret (v := .tuple #[.agg #[.bool (signB false (R)), .slice A' (dl (R)) c'], .int .i64 0]) (by simp [results, Tryd.results42, go_sem, q0, q1]) rfl
    ⟨A', c', rfl, hf.two (g := w.heap.size + 1 + 1) (below_al (below_then hbV hb1) _) (by omega) (by have := HVS.out; have := hb1.size; simp; omega)⟩
set_option maxHeartbeats 3200000 in
theorem mod_none_ft (A1 A2 : Option Addr) (n1 c1 a n2 c2 b R : Nat) (w : World) (h1 : Mag w A1 n1 c1 a) (h2 : Mag w A2 n2 c2 b) (l1 : n1 ≤ 1000) (l2 : n2 ≤ 1000) (hb : b ≠ 0) (hD : DivSaid a b) (hR : Hid (a % b = R))
     (hr0 : Hid (R = 0)) (hfit : dl (R) ≤ 48) :
    Calls Tryd.prog 42 #[.agg #[.bool false, .slice A1 n1 c1], .agg #[.bool true, .slice A2 n2 c2]] w fun e w' => Num w w' e true (R) := by
  have HS := fun W h => Lib.hid (sign_any true A2 n2 c2 b W h (by omega))
  have hz := sign_nz (nb := true) hb
  obtain ⟨W, hW⟩ : ∃ W, W = ((w.alloc (.cells #[.bool false, .slice A1 n1 c1] 24)).alloc (.cells #[.bool true, .slice A2 n2 c2] 24)).alloc (.cells #[.bool false, .slice none 0 0] 24) := ⟨_, rfl⟩
  obtain ⟨t1, t2, t3, hbW, hWs⟩ := boxes3 w _ _ _ _ _ _ W hW
  obtain ⟨V, hV⟩ : ∃ V, V = W.alloc (.cells #[.bool true, .slice A2 n2 c2] 24) := ⟨_, rfl⟩
  have hbV : Below w.heap.size w V := by rw [hV]; exact below_al hbW _
  have u1 : Two V w.heap.size 24 (.bool false) (.slice A1 n1 c1) := by rw [hV]; exact t1.alloc _
  have u2 : Two V (w.heap.size + 1) 24 (.bool true) (.slice A2 n2 c2) := by rw [hV]; exact t2.alloc _
  have u3 : Two V (w.heap.size + 2) 24 (.bool false) (.slice none 0 0) := by rw [hV]; exact t3.alloc _
  have hVs : V.heap.size = w.heap.size + 4 := by rw [hV]; simp [hWs]
  have HM2 := h2.below hbW
  have m1 := h1.below hbV
  have m2 := h2.below hbV
  have k1 := u1.fst
  have k2 := u1.snd
  have k3 := u2.fst
  have k4 := u2.snd
  have hbr : Hid (R < b) := Lib.hid (by rw [← hR.out]; exact Nat.mod_lt _ (by omega))
  have dlr : dl R ≤ dl b := dl_mono (Nat.le_of_lt hbr.out)
  have dlb : dl b ≤ 1000 := Nat.le_trans h2.le l2
  have dla : dl a ≤ 1000 := Nat.le_trans h1.le l1
  have HDP : ∀ W, Mag W A1 (dl a) c1 a → Mag W A2 (dl b) c2 b → Hid (Calls Tryd.prog 62 #[.slice A1 (dl a) c1, .slice A2 (dl b) c2] W fun e w' => ∃ B1 d1 B2 d2, e = .returned (.tuple #[.slice B1 (dl (a / b)) d1, .slice B2 (dl R) d2]) ∧ Mag w' B2 (dl R) d2 R ∧ Below W.heap.size W w') := fun W h h' => Lib.hid ((hD A1 A2 c1 c2 W h h').mono fun e w' ⟨B1, d1, B2, d2, he, _, hm, hb⟩ => ⟨B1, d1, B2, d2, by rw [← hR.out]; exact he, by rw [← hR.out]; exact hm, hb⟩)
  have HVS := Lib.hid hVs
  clear hVs hWs t1 t2 t3 hb hD
  have T2 := fun W h => Lib.hid (trim_mag A2 n2 c2 b W h (by omega))
  have T1 := fun W h => Lib.hid (trim_mag A1 n1 c1 a W h (by omega))
  have hd0 : (dl R : Int) ≤ 0 := by rw [hr0.out, dl_zero]; exact Int.le_refl 0
  go_enter Tryd.func42, Tryd.ntmps42
  go_wp2_with fail
  rw [← hW]
  refine ((HS _ HM2).out).mono ?_
  rintro e w' ⟨rfl, rfl⟩
  rw [← hV]
  have HWW := Lib.hid hW
  have HVV := Lib.hid hV
  clear hW hV
  go_wp2_with (first | (go_at_call 54; (first | (with_reducible refine ((T2 _ m2).out).mono ?_) | (with_reducible refine ((T1 _ m1).out).mono ?_)); rintro e w' ⟨rfl, rfl⟩) | (go_at_call 62; refine ((HDP _ m1.trim m2.trim).out).mono ?_; rintro e w1 ⟨B1, d1, B2, d2, rfl, hm, hb1⟩; have p1 := (u1.below' hb1).fst; have p2 := (u2.below' hb1).fst) | (go_at_call 52; refine (signed_any true _).mono ?_; rintro e w' ⟨rfl, rfl⟩) | (go_at_call 79; refine (signed1_yes w1.heap.size true B2 (dl R) d2 R _ (one_made _ _ _) (hm.alloc _) (by omega) hfit).mono ?_; rintro e w9 ⟨A', c', rfl, hf⟩; have hb9 : Below V.heap.size V w9 := below_then hb1 (below_then (below_al (Below.refl _ _) _) hf.2); have q0 := (u3.below' hb9).fst; have q1 := (u3.below' hb9).snd; have q2 := (u3.below' hb9).free 0; have q3 := (u3.below' hb9).free 1))
  exact bodyPost_ret (v := .tuple #[.agg #[.bool (signB true (R)), .slice A' (dl (R)) c'], .int .i64 0]) (by simp [results, Tryd.results42, go_sem, q0, q1]) rfl
    ⟨A', c', rfl, hf.two (g := w.heap.size + 1 + 1) (below_al (below_then hbV hb1) _) (by omega) (by have := HVS.out; have := hb1.size; simp; omega)⟩
set_option maxHeartbeats 3200000 in
theorem mod_turn_tf (A1 A2 : Option Addr) (n1 c1 a n2 c2 b R : Nat) (w : World) (h1 : Mag w A1 n1 c1 a) (h2 : Mag w A2 n2 c2 b) (l1 : n1 ≤ 1000) (l2 : n2 ≤ 1000) (hb : b ≠ 0) (hD : DivSaid a b) (hR : Hid (a % b = R))
     (hr0 : Hid (R ≠ 0)) (hfit : dl (b - R) ≤ 48) :
    Calls Tryd.prog 42 #[.agg #[.bool true, .slice A1 n1 c1], .agg #[.bool false, .slice A2 n2 c2]] w fun e w' => Num w w' e false (b - R) := by
  have HS := fun W h => Lib.hid (sign_any false A2 n2 c2 b W h (by omega))
  have hz := sign_nz (nb := false) hb
  obtain ⟨W, hW⟩ : ∃ W, W = ((w.alloc (.cells #[.bool true, .slice A1 n1 c1] 24)).alloc (.cells #[.bool false, .slice A2 n2 c2] 24)).alloc (.cells #[.bool false, .slice none 0 0] 24) := ⟨_, rfl⟩
  obtain ⟨t1, t2, t3, hbW, hWs⟩ := boxes3 w _ _ _ _ _ _ W hW
  obtain ⟨V, hV⟩ : ∃ V, V = W.alloc (.cells #[.bool false, .slice A2 n2 c2] 24) := ⟨_, rfl⟩
  have hbV : Below w.heap.size w V := by rw [hV]; exact below_al hbW _
  have u1 : Two V w.heap.size 24 (.bool true) (.slice A1 n1 c1) := by rw [hV]; exact t1.alloc _
  have u2 : Two V (w.heap.size + 1) 24 (.bool false) (.slice A2 n2 c2) := by rw [hV]; exact t2.alloc _
  have u3 : Two V (w.heap.size + 2) 24 (.bool false) (.slice none 0 0) := by rw [hV]; exact t3.alloc _
  have hVs : V.heap.size = w.heap.size + 4 := by rw [hV]; simp [hWs]
  have HM2 := h2.below hbW
  have m1 := h1.below hbV
  have m2 := h2.below hbV
  have k1 := u1.fst
  have k2 := u1.snd
  have k3 := u2.fst
  have k4 := u2.snd
  have hbr : Hid (R < b) := Lib.hid (by rw [← hR.out]; exact Nat.mod_lt _ (by omega))
  have dlr : dl R ≤ dl b := dl_mono (Nat.le_of_lt hbr.out)
  have dlb : dl b ≤ 1000 := Nat.le_trans h2.le l2
  have dla : dl a ≤ 1000 := Nat.le_trans h1.le l1
  have HDP : ∀ W, Mag W A1 (dl a) c1 a → Mag W A2 (dl b) c2 b → Hid (Calls Tryd.prog 62 #[.slice A1 (dl a) c1, .slice A2 (dl b) c2] W fun e w' => ∃ B1 d1 B2 d2, e = .returned (.tuple #[.slice B1 (dl (a / b)) d1, .slice B2 (dl R) d2]) ∧ Mag w' B2 (dl R) d2 R ∧ Below W.heap.size W w') := fun W h h' => Lib.hid ((hD A1 A2 c1 c2 W h h').mono fun e w' ⟨B1, d1, B2, d2, he, _, hm, hb⟩ => ⟨B1, d1, B2, d2, by rw [← hR.out]; exact he, by rw [← hR.out]; exact hm, hb⟩)
  have HVS := Lib.hid hVs
  clear hVs hWs t1 t2 t3 hb hD
  have T2 := fun W h => Lib.hid (trim_mag A2 n2 c2 b W h (by omega))
  have T1 := fun W h => Lib.hid (trim_mag A1 n1 c1 a W h (by omega))
  have hd0 : 0 < (dl R : Int) := by have := dl_pos hr0.out; omega
  have hle : Hid (R ≤ b) := Lib.hid (Nat.le_of_lt hbr.out)
  go_enter Tryd.func42, Tryd.ntmps42
  go_wp2_with fail
  rw [← hW]
  refine ((HS _ HM2).out).mono ?_
  rintro e w' ⟨rfl, rfl⟩
  rw [← hV]
  have HWW := Lib.hid hW
  have HVV := Lib.hid hV
  clear hW hV
  go_wp2_with (first | (go_at_call 54; (first | (with_reducible refine ((T2 _ m2).out).mono ?_) | (with_reducible refine ((T1 _ m1).out).mono ?_)); rintro e w' ⟨rfl, rfl⟩) | (go_at_call 62; refine ((HDP _ m1.trim m2.trim).out).mono ?_; rintro e w1 ⟨B1, d1, B2, d2, rfl, hm, hb1⟩; have p1 := (u1.below' hb1).fst; have p2 := (u2.below' hb1).fst) | (go_at_call 52; refine (signed_any false _).mono ?_; rintro e w' ⟨rfl, rfl⟩)| (go_at_call 63; refine (minus_mag A2 B2 (dl b) (dl R) c2 d2 b R _ (m2.trim.below hb1) hm (by omega) dlr hle).mono ?_; rintro e w3 ⟨rfl, hm3, hb3⟩; have r1 := ((u1.below' hb1).below' hb3).fst; have r2 := ((u2.below' hb1).below' hb3).fst; have hb13 : Below V.heap.size V w3 := below_then hb1 hb3) | (go_at_call 79; refine (signed1_yes w3.heap.size false (some ⟨w1.heap.size, 0, none⟩) (dl b) (dl b) (b - R) _ (one_made _ _ _) (hm3.alloc _) (by omega) hfit).mono ?_; rintro e w9 ⟨A', c', rfl, hf⟩; have hb9 : Below V.heap.size V w9 := below_then hb13 (below_then (below_al (Below.refl _ _) _) hf.2); have q0 := (u3.below' hb9).fst; have q1 := (u3.below' hb9).snd; have q2 := (u3.below' hb9).free 0; have q3 := (u3.below' hb9).free 1))
  exact bodyPost_ret (v := .tuple #[.agg #[.bool (signB false (b - R)), .slice A' (dl (b - R)) c'], .int .i64 0]) (by simp [results, Tryd.results42, go_sem, q0, q1]) rfl
    ⟨A', c', rfl, hf.two (g := w.heap.size + 1 + 1) (below_al (below_then hbV hb13) _) (by omega) (by have := HVS.out; have := hb13.size; simp; omega)⟩
set_option maxHeartbeats 3200000 in
theorem mod_turn_ft (A1 A2 : Option Addr) (n1 c1 a n2 c2 b R : Nat) (w : World) (h1 : Mag w A1 n1 c1 a) (h2 : Mag w A2 n2 c2 b) (l1 : n1 ≤ 1000) (l2 : n2 ≤ 1000) (hb : b ≠ 0) (hD : DivSaid a b) (hR : Hid (a % b = R))
     (hr0 : Hid (R ≠ 0)) (hfit : dl (b - R) ≤ 48) :
    Calls Tryd.prog 42 #[.agg #[.bool false, .slice A1 n1 c1], .agg #[.bool true, .slice A2 n2 c2]] w fun e w' => Num w w' e true (b - R) := by
  have HS := fun W h => Lib.hid (sign_any true A2 n2 c2 b W h (by omega))
  have hz := sign_nz (nb := true) hb
  obtain ⟨W, hW⟩ : ∃ W, W = ((w.alloc (.cells #[.bool false, .slice A1 n1 c1] 24)).alloc (.cells #[.bool true, .slice A2 n2 c2] 24)).alloc (.cells #[.bool false, .slice none 0 0] 24) := ⟨_, rfl⟩
  obtain ⟨t1, t2, t3, hbW, hWs⟩ := boxes3 w _ _ _ _ _ _ W hW
  obtain ⟨V, hV⟩ : ∃ V, V = W.alloc (.cells #[.bool true, .slice A2 n2 c2] 24) := ⟨_, rfl⟩
  have hbV : Below w.heap.size w V := by rw [hV]; exact below_al hbW _
  have u1 : Two V w.heap.size 24 (.bool false) (.slice A1 n1 c1) := by rw [hV]; exact t1.alloc _
  have u2 : Two V (w.heap.size + 1) 24 (.bool true) (.slice A2 n2 c2) := by rw [hV]; exact t2.alloc _
  have u3 : Two V (w.heap.size + 2) 24 (.bool false) (.slice none 0 0) := by rw [hV]; exact t3.alloc _
  have hVs : V.heap.size = w.heap.size + 4 := by rw [hV]; simp [hWs]
  have HM2 := h2.below hbW
  have m1 := h1.below hbV
  have m2 := h2.below hbV
  have k1 := u1.fst
  have k2 := u1.snd
  have k3 := u2.fst
  have k4 := u2.snd
  have hbr : Hid (R < b) := Lib.hid (by rw [← hR.out]; exact Nat.mod_lt _ (by omega))
  have dlr : dl R ≤ dl b := dl_mono (Nat.le_of_lt hbr.out)
  have dlb : dl b ≤ 1000 := Nat.le_trans h2.le l2
  have dla : dl a ≤ 1000 := Nat.le_trans h1.le l1
  have HDP : ∀ W, Mag W A1 (dl a) c1 a → Mag W A2 (dl b) c2 b → Hid (Calls Tryd.prog 62 #[.slice A1 (dl a) c1, .slice A2 (dl b) c2] W fun e w' => ∃ B1 d1 B2 d2, e = .returned (.tuple #[.slice B1 (dl (a / b)) d1, .slice B2 (dl R) d2]) ∧ Mag w' B2 (dl R) d2 R ∧ Below W.heap.size W w') := fun W h h' => Lib.hid ((hD A1 A2 c1 c2 W h h').mono fun e w' ⟨B1, d1, B2, d2, he, _, hm, hb⟩ => ⟨B1, d1, B2, d2, by rw [← hR.out]; exact he, by rw [← hR.out]; exact hm, hb⟩)
  have HVS := Lib.hid hVs
  clear hVs hWs t1 t2 t3 hb hD
  have T2 := fun W h => Lib.hid (trim_mag A2 n2 c2 b W h (by omega))
  have T1 := fun W h => Lib.hid (trim_mag A1 n1 c1 a W h (by omega))
  have hd0 : 0 < (dl R : Int) := by have := dl_pos hr0.out; omega
  have hle : Hid (R ≤ b) := Lib.hid (Nat.le_of_lt hbr.out)
  go_enter Tryd.func42, Tryd.ntmps42
  go_wp2_with fail
  rw [← hW]
  refine ((HS _ HM2).out).mono ?_
  rintro e w' ⟨rfl, rfl⟩
  rw [← hV]
  have HWW := Lib.hid hW
  have HVV := Lib.hid hV
  clear hW hV
  go_wp2_with (first | (go_at_call 54; (first | (with_reducible refine ((T2 _ m2).out).mono ?_) | (with_reducible refine ((T1 _ m1).out).mono ?_)); rintro e w' ⟨rfl, rfl⟩) | (go_at_call 62; refine ((HDP _ m1.trim m2.trim).out).mono ?_; rintro e w1 ⟨B1, d1, B2, d2, rfl, hm, hb1⟩; have p1 := (u1.below' hb1).fst; have p2 := (u2.below' hb1).fst) | (go_at_call 52; refine (signed_any true _).mono ?_; rintro e w' ⟨rfl, rfl⟩)| (go_at_call 63; refine (minus_mag A2 B2 (dl b) (dl R) c2 d2 b R _ (m2.trim.below hb1) hm (by omega) dlr hle).mono ?_; rintro e w3 ⟨rfl, hm3, hb3⟩; have r1 := ((u1.below' hb1).below' hb3).fst; have r2 := ((u2.below' hb1).below' hb3).fst; have hb13 : Below V.heap.size V w3 := below_then hb1 hb3) | (go_at_call 79; refine (signed1_yes w3.heap.size true (some ⟨w1.heap.size, 0, none⟩) (dl b) (dl b) (b - R) _ (one_made _ _ _) (hm3.alloc _) (by omega) hfit).mono ?_; rintro e w9 ⟨A', c', rfl, hf⟩; have hb9 : Below V.heap.size V w9 := below_then hb13 (below_then (below_al (Below.refl _ _) _) hf.2); have q0 := (u3.below' hb9).fst; have q1 := (u3.below' hb9).snd; have q2 := (u3.below' hb9).free 0; have q3 := (u3.below' hb9).free 1))
  exact bodyPost_ret (v := .tuple #[.agg #[.bool (signB true (b - R)), .slice A' (dl (b - R)) c'], .int .i64 0]) (by simp [results, Tryd.results42, go_sem, q0, q1]) rfl
    ⟨A', c', rfl, hf.two (g := w.heap.size + 1 + 1) (below_al (below_then hbV hb13) _) (by omega) (by have := HVS.out; have := hb13.size; simp; omega)⟩
theorem mod_any (na nb : Bool) (A1 A2 : Option Addr) (n1 c1 a n2 c2 b : Nat) (w : World) (h1 : Mag w A1 n1 c1 a) (h2 : Mag w A2 n2 c2 b) (l1 : n1 ≤ 1000) (l2 : n2 ≤ 1000) (hb : b ≠ 0) (hD : DivSaid a b) (hfit : dl (modN na nb a b) ≤ 48) :
    Calls Tryd.prog 42 #[.agg #[.bool na, .slice A1 n1 c1], .agg #[.bool nb, .slice A2 n2 c2]] w fun e w' => Num w w' e nb (modN na nb a b) := by
  by_cases hx : na = nb
  · have e : modN na nb a b = a % b := by unfold modN; rw [if_neg]; exact fun h => h.1 hx
    rw [e] at hfit ⊢
    subst hx
    cases na
    · exact mod_same_ff A1 A2 n1 c1 a n2 c2 b _ w h1 h2 l1 l2 hb hD (Lib.hid rfl) hfit
    · exact mod_same_tt A1 A2 n1 c1 a n2 c2 b _ w h1 h2 l1 l2 hb hD (Lib.hid rfl) hfit
  · by_cases hr : a % b = 0
    · have e : modN na nb a b = a % b := by unfold modN; rw [if_neg]; exact fun h => h.2 hr
      rw [e] at hfit ⊢
      cases na <;> cases nb <;> first | exact absurd rfl hx | exact mod_none_ft A1 A2 n1 c1 a n2 c2 b _ w h1 h2 l1 l2 hb hD (Lib.hid rfl) (Lib.hid hr) hfit | exact mod_none_tf A1 A2 n1 c1 a n2 c2 b _ w h1 h2 l1 l2 hb hD (Lib.hid rfl) (Lib.hid hr) hfit
    · have e : modN na nb a b = b - a % b := by unfold modN; rw [if_pos ⟨hx, hr⟩]
      rw [e] at hfit ⊢
      cases na <;> cases nb <;> first | exact absurd rfl hx | exact mod_turn_ft A1 A2 n1 c1 a n2 c2 b _ w h1 h2 l1 l2 hb hD (Lib.hid rfl) (Lib.hid hr) hfit | exact mod_turn_tf A1 A2 n1 c1 a n2 c2 b _ w h1 h2 l1 l2 hb hD (Lib.hid rfl) (Lib.hid hr) hfit
end Go.Proofs.YtocoflojlliapaaDoor
set_option linter.unusedVariables false
namespace Go.Proofs.YtocoflojlliapaaDoor
open Go.RowKit
theorem dec_7 : Lib.decDigits 7 = [55] := by rw [dec_small (by decide)]; rfl
theorem dec_1 : Lib.decDigits 1 = [49] := by rw [dec_small (by decide)]; rfl
theorem dec_4294967296 : Lib.decDigits 4294967296 = [52, 50, 57, 52, 57, 54, 55, 50, 57, 54] := by
  rw [dec_big (by decide), dec_big (by decide), dec_big (by decide), dec_big (by decide), dec_big (by decide), dec_big (by decide), dec_big (by decide), dec_big (by decide), dec_big (by decide), dec_small (by decide)]
  decide
theorem dl_7 : dl 7 = 1 := by decide
theorem dl_2 : dl 2 = 1 := by decide
/-- a number in memory is answered -/
def Ans (w : World) (neg : Bool) (N : Nat) (e : Ending) (w' : World) : Prop := ∃ A c, e = .returned (.tuple #[.agg #[.bool neg, .slice A (dl N) c], .int .i64 0]) ∧ Mag w' A (dl N) c N ∧ Below w.heap.size w w'
def Ans1 (w : World) (neg : Bool) (N : Nat) (e : Ending) (w' : World) : Prop := ∃ A c, e = .returned (.agg #[.bool neg, .slice A (dl N) c]) ∧ Mag w' A (dl N) c N ∧ Below w.heap.size w w'
theorem Num.ans {w w' : World} {e : Ending} {neg : Bool} {N : Nat} (h : Num w w' e neg N) : Ans w (signB neg N) N e w' := by
  obtain ⟨A, c, he, hf⟩ := h
  exact ⟨A, c, he, (Mag.of_fresh hf).1, (Mag.of_fresh hf).2⟩
theorem aw_parse (w : World) : Calls Tryd.prog 48 #[.string ⟨#[45, 48, 48, 55]⟩] w (Ans w true 7) := by
  have hd : ((⟨#[45, 48, 48, 55]⟩ : ByteArray).extract 1 (⟨#[45, 48, 48, 55]⟩ : ByteArray).size).data.toList = [48, 48, 55] := by rw [Lib.extract_data]; rfl
  refine (parse_ok ⟨#[45, 48, 48, 55]⟩ true _ w (by decide) (.inl ⟨rfl, rfl, rfl⟩) (by rw [hd]; simp) (by rw [hd]; intro c hc; simp at hc; rcases hc with rfl | rfl <;> decide) 7 (Lib.hid (by rw [hd]; rfl)) (by decide)).mono fun e w' h => ?_
  exact h.ans
theorem aw_plus (w : World) : Calls Tryd.prog 48 #[.string ⟨#[43]⟩] w fun e w' => e = .returned (.tuple #[.agg #[.bool false, .slice none 0 0], .int .i64 9]) ∧ Below w.heap.size w w' := by
  have hd : ((⟨#[43]⟩ : ByteArray).extract 1 (⟨#[43]⟩ : ByteArray).size).data.toList = [] := by rw [Lib.extract_data]; rfl
  exact parse_form ⟨#[43]⟩ false _ w (by decide) (.inr (.inl ⟨rfl, rfl, rfl⟩)) (Lib.hid (by rw [hd]; exact fun h => h.1 rfl))
theorem aw_of7n (w : World) : Calls Tryd.prog 32 #[.int .i64 (-7)] w (Ans1 w true 7) := by
  refine (of_neg 7 (by decide) (by decide) w).mono fun e w' ⟨A, c, he, hf⟩ => ⟨A, c, he, (Mag.of_fresh hf).1, (Mag.of_fresh hf).2⟩
theorem aw_of (x : Nat) (hx : x ≤ 9223372036854775807) (w : World) : Calls Tryd.prog 32 #[.int .i64 x] w (Ans1 w false x) := by
  refine (of_pos x hx w).mono fun e w' ⟨A, c, he, hf⟩ => ⟨A, c, ?_, (Mag.of_fresh hf).1, (Mag.of_fresh hf).2⟩
  rw [he]
  simp [signB]
theorem div_7_2 : DivSaid 7 2 := divide_limb 7 2 (by decide) (by decide) (by decide) dl_2
theorem aw_mod (A1 A2 : Option Addr) (c1 c2 : Nat) (w : World) (h1 : Mag w A1 (dl 7) c1 7) (h2 : Mag w A2 (dl 2) c2 2) :
    Calls Tryd.prog 42 #[.agg #[.bool true, .slice A1 (dl 7) c1], .agg #[.bool false, .slice A2 (dl 2) c2]] w (Ans w false 1) := by
  have e : modN true false 7 2 = 1 := by decide
  have := mod_any true false A1 A2 (dl 7) c1 7 (dl 2) c2 2 w h1 h2 (by decide) (by decide) (by decide) div_7_2 (by decide)
  rw [e] at this
  exact this.mono fun e w' h => h.ans
theorem aw_text7 (A : Option Addr) (c : Nat) (w : World) (h : Mag w A (dl 7) c 7) (ht : Tab w) : Calls Tryd.prog 46 #[.agg #[.bool true, .slice A (dl 7) c]] w fun e w' => e = .returned (.string ⟨#[45, 55]⟩) ∧ Below w.heap.size w w' := by
  have := text_groups true A (dl 7) c 7 w h (by decide) (by decide) ht
  have e : textL true 7 = [45, 55] := by simp [textL, dec_7]
  rw [e] at this
  exact this
theorem aw_text1 (A : Option Addr) (c : Nat) (w : World) (h : Mag w A (dl 1) c 1) (ht : Tab w) : Calls Tryd.prog 46 #[.agg #[.bool false, .slice A (dl 1) c]] w fun e w' => e = .returned (.string ⟨#[49]⟩) ∧ Below w.heap.size w w' := by
  have := text_groups false A (dl 1) c 1 w h (by decide) (by decide) ht
  have e : textL false 1 = [49] := by simp [textL, dec_1]
  rw [e] at this
  exact this
theorem aw_text4 (w : World) (ht : Tab w) : Calls Tryd.prog 46 #[.agg #[.bool false, .slice (some ⟨w.heap.size, 0, none⟩) 2 2]] (w.alloc (.cells #[.int .u32 0, .int .u32 1] 43)) fun e w' => e = .returned (.string ⟨#[52, 50, 57, 52, 57, 54, 55, 50, 57, 54]⟩) ∧ Below w.heap.size w w' := by
  have hm := Mag.pair w 0 1 (by decide) (by decide)
  have := text_groups false _ 2 2 _ _ hm (by decide) (by decide) (ht.alloc _)
  have e : textL false (0 + 4294967296 * 1) = [52, 50, 57, 52, 57, 54, 55, 50, 57, 54] := by simp [textL, dec_4294967296]
  rw [e] at this
  exact this.mono fun e w' ⟨he, hb⟩ => ⟨he, below_then (below_al (Below.refl _ _) _) hb⟩
theorem aw_quo (A1 A2 : Option Addr) (c1 c2 : Nat) (w : World) (h2 : Mag w A2 (dl 0) c2 0) :
    Calls Tryd.prog 40 #[.agg #[.bool false, .slice A1 (dl 7) c1], .agg #[.bool false, .slice A2 (dl 0) c2]] w fun e w' => e = .returned (.tuple #[.agg #[.bool false, .slice none 0 0], .int .i64 13]) ∧ Below w.heap.size w w' :=
  quo_zero false false A1 A2 (dl 7) c1 (dl 0) c2 w h2 (by decide)
end Go.Proofs.YtocoflojlliapaaDoor
set_option linter.unusedVariables false
namespace Go.Proofs.YtocoflojlliapaaDoor
open Go.RowKit
set_option maxHeartbeats 3200000 in
theorem awake_any (w : World) (ht : Tab w) : Calls Tryd.prog 18 #[] w fun e w' => e = .returned (.bool true) ∧ Below w.heap.size w w' := by
  go_enter Tryd.func18, Tryd.ntmps18
  go_wp2_with (first
    | (go_at_call 48; (first | ((with_reducible refine (aw_parse _).mono ?_); rintro e w1 ⟨A1, c1, rfl, m1, b1⟩) | ((with_reducible refine (aw_plus _).mono ?_); rintro e w2 ⟨rfl, b2⟩)))
    | (go_at_call 32; refine (aw_of7n _).mono ?_; rintro e w3 ⟨A3, c3, rfl, m3, b3⟩; refine Hid.out ?_))
  refine Lib.hid ?_
  have HB2 : Below w.heap.size w w2 := below_then (below_al b1 _) b2
  have t1 : Two w2 w1.heap.size 24 (.bool true) (.slice A1 (dl 7) c1) := (Two.made w1 24 _ _).below' b2
  have n1 : Mag w2 A1 (dl 7) c1 7 := (m1.alloc _).below b2
  have HB3 : Below w.heap.size w w3 := below_then (below_al HB2 _) b3
  have t2 := (t1.alloc (.cells #[.bool false, .slice none 0 0] 24)).below' b3
  have n2 := (n1.alloc (.cells #[.bool false, .slice none 0 0] 24)).below b3
  clear b1 b2 m1 t1 n1 HB2 b3
  go_wp2_with (go_at_call 32; refine (aw_of 2 (by decide) _).mono ?_; rintro e w4 ⟨A4, c4, rfl, m4, b4⟩; refine Hid.out ?_)
  refine Lib.hid ?_
  go_wp2_with (first
    | (go_at_call 42; refine (aw_mod A3 A4 c3 c4 _ (m3.below b4) m4).mono ?_; rintro e w5 ⟨A5, c5, rfl, m5, b5⟩)
    | (go_at_call 32; refine (aw_of 7 (by decide) _).mono ?_; rintro e w6 ⟨A6, c6, rfl, m6, b6⟩; refine Hid.out ?_))
  refine Lib.hid ?_
  have HB4 : Below w.heap.size w w6 := below_then (below_al (below_then (below_then HB3 b4) b5) _) b6
  have t3 := (((t2.below' b4).below' b5).alloc (.cells #[.bool false, .slice A5 (dl 1) c5] 24)).below' b6
  have n3 := (((n2.below b4).below b5).alloc (.cells #[.bool false, .slice A5 (dl 1) c5] 24)).below b6
  have t4 : Two w6 w5.heap.size 24 (.bool false) (.slice A5 (dl 1) c5) := (Two.made w5 24 _ _).below' b6
  have n4 : Mag w6 A5 (dl 1) c5 1 := (m5.alloc _).below b6
  clear b4 b5 b6 HB3 t2 n2 m3 m4 m5 m6
  go_wp2_with (go_at_call 32; refine (aw_of 0 (by decide) _).mono ?_; rintro e w7 ⟨A7, c7, rfl, m7, b7⟩; refine Hid.out ?_)
  refine Lib.hid ?_
  go_wp2_with (go_at_call 40; refine (aw_quo A6 A7 c6 c7 _ m7).mono ?_; rintro e w8 ⟨rfl, b8⟩; refine Hid.out ?_)
  refine Lib.hid ?_
  have HB8 : Below w.heap.size w w8 := below_then (below_then HB4 b7) b8
  have t5 := (t3.below' b7).below' b8
  have n5 := (n3.below b7).below b8
  have t6 := (t4.below' b7).below' b8
  have n6 := (n4.below b7).below b8
  clear b7 b8 HB4 t3 n3 t4 n4 m7
  have k0 := fun o => (t5.alloc o).fst
  have k1 := fun o => (t5.alloc o).snd
  have hT8 : ∀ o, Tab (w8.alloc o) := fun o => (ht.below HB8).alloc o
  go_wp2_with (go_at_call 46; refine (aw_text7 A1 c1 _ (n5.alloc _) (hT8 _)).mono ?_; rintro e w9 ⟨rfl, b9⟩; refine Hid.out ?_)
  refine Lib.hid ?_
  have HB9 : Below w.heap.size w w9 := below_then (below_al HB8 _) b9
  have t7 := (t6.alloc (.cells #[.bool false, .slice none 0 0] 24)).below' b9
  have n7 := (n6.alloc (.cells #[.bool false, .slice none 0 0] 24)).below b9
  have k2 := t7.fst
  have k3 := t7.snd
  have hT9 : Tab w9 := ht.below HB9
  clear k0 k1 t5 n5 t6 n6 b9 HB8 hT8
  go_wp2_with (go_at_call 46; refine (aw_text1 A5 c5 _ n7 hT9).mono ?_; rintro e w10 ⟨rfl, b10⟩; refine Hid.out ?_)
  refine Lib.hid ?_
  have HB10 : Below w.heap.size w w10 := below_then HB9 b10
  have hT10 : Tab w10 := ht.below HB10
  clear k2 k3 t7 n7 HB9 b10 hT9
  go_wp2_with (go_at_call 46; refine (aw_text4 _ hT10).mono ?_; rintro e w11 ⟨rfl, b11⟩)
  go_ret
  exact ⟨rfl, below_then HB10 b11⟩
end Go.Proofs.YtocoflojlliapaaDoor
/- WHAT EVERY ROW OF THIS PACKAGE's LAWS ASKS: the tables that it lists, a world that holds them, and the walk's end. -/
set_option linter.unusedVariables false
namespace Go.Proofs.YtocoflojlliapaaDoor
open Go.ChangeShapes Go.WideShapes Go.ChangeAt Go.RowKit
theorem own : ownKnob Tryd.prog.godebug = none := by kernel_rfl
theorem gTab : Tryd.prog.globalNamed "internal/strconv.uint64pow10" = some 1 := by kernel_rfl
theorem gTabType : (Tryd.prog.globals[1]?).map (·.type) = some 125 := by kernel_rfl
theorem cells125 : Tryd.prog.cellsOf 125 = 20 := by kernel_rfl
theorem tabRow : (Rows.laid_internal_strconv_uint64pow10 : DataW Unit) = Lib.tabData .u64 Lib.pow10Tab := by kernel_rfl
def laid0 : List (String × DataW Unit) := [("math/bits.deBruijn32tab", Rows.laid_math_bits_deBruijn32tab), ("math/bits.deBruijn64tab", Rows.laid_math_bits_deBruijn64tab), ("internal/strconv.uint64pow10", Rows.laid_internal_strconv_uint64pow10)]
theorem laid0_plain (W : World) : laidMetH Tryd.prog laid0 W = laidMet Tryd.prog laid0 W := Go.MakeChecks.laidMetH_plain _ _ _ (by kernel_rfl)
theorem tab_of {W : World} (h : laidMetH Tryd.prog laid0 W) : Tab W := by
  rw [laid0_plain] at h
  have h2 : laidMet Tryd.prog [("internal/strconv.uint64pow10", Lib.tabData .u64 Lib.pow10Tab)] W := tabRow ▸ laidMet.tail (laidMet.tail h)
  exact Lib.tabIs_of_head (e := 70) (rest := []) gTab gTabType (by kernel_rfl) (by kernel_rfl) (by kernel_rfl) cells125 h2
/-- a world for the witness: the settled one, the listed tables laid -/
noncomputable def laidWorld (os : Os) : World := World.laidAll Tryd.prog os laid0
theorem laidWorld_os (os : Os) : (laidWorld os).os = os := World.laidAll_os _ _ _
end Go.Proofs.YtocoflojlliapaaDoor
