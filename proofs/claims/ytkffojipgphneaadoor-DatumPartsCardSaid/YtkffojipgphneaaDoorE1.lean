/- slices.Equal of rows of numbers; datum.alike. -/
import Derived.Test.YtkffojipgphneaaDoorQ2
set_option linter.unusedVariables false
set_option linter.unusedSimpArgs false
namespace Go.Proofs.YtkffojipgphneaaDoor
open Go Go.RowKit
theorem MagAt.get {G : Nat → Prop} {w : World} {A : Option Addr} {xs : List Nat} (h : MagAt G w A xs) {i : Nat} (hi : i < xs.length) : ∃ ad, A = some ad ∧ w.cell? (ad.add i) = some (.int .u32 (xs[i] : Nat)) := by
  obtain ⟨ad, e, _, hc⟩ := h i hi
  exact ⟨ad, e, hc⟩
set_option maxHeartbeats 1600000 in
theorem equal_ne (A1 A2 : Option Addr) (n m c1 c2 : Nat) (w : World) (hne : n ≠ m) (h1 : n ≤ 35184372088832) (h2 : m ≤ 35184372088832) :
    Calls Tryd.prog 58 #[.slice A1 n c1, .slice A2 m c2] w fun e w' => e = .returned (.bool false) ∧ ∃ k, w.drewN k = w' := by
  have hb : ((n : Int) != (m : Int)) = true := by rw [bne_iff_ne]; omega
  clear hne
  go_enter Tryd.func58, Tryd.ntmps58
  go_wp2
  go_ret
  exact ⟨rfl, 0, rfl⟩
set_option maxHeartbeats 1600000 in
theorem equal_eq (G G' : Nat → Prop) (A1 A2 : Option Addr) (n c1 c2 : Nat) (xs ys : List Nat) (w : World) (hn1 : Hid (xs.length = n)) (hn2 : Hid (ys.length = n)) (m1 : MagAt G w A1 xs) (m2 : MagAt G' w A2 ys) (h1 : n ≤ 35184372088832) (B : Bool) (hB : Hid (decide (xs = ys) = B)) :
    Calls Tryd.prog 58 #[.slice A1 n c1, .slice A2 n c2] w fun e w' => e = .returned (.bool B) ∧ ∃ k, w.drewN k = w' := by
  have hb : ((n : Int) != (n : Int)) = false := by simp
  go_enter Tryd.func58, Tryd.ntmps58
  go_wp2
  go_loopw [13] (fun i wr => ∃ k nd : Nat, k ≤ n ∧ i = .int .i64 (k : Nat) ∧ Hid (∀ j, j < k → xs[j]? = ys[j]?) ∧ w.drewN nd = wr) (fun i _ => n - (intOf i).toNat)
  case atStart => exact ⟨0, 0, Nat.zero_le _, rfl, fun j hj => absurd hj (by omega), rfl⟩
  case round =>
    obtain ⟨k, nd, hk, rfl, hE, hw⟩ := hrel
    obtain ⟨W, hW⟩ : ∃ W, W = wr := ⟨_, rfl⟩
    rw [← hW] at hw ⊢
    have HW := Lib.hid hw
    have HWR := Lib.hid hW
    clear hw hW
    by_cases hlt : k < n
    · obtain ⟨a1, rfl, q1⟩ := m1.get (i := k) (by rw [hn1.out]; exact hlt)
      obtain ⟨a2, rfl, q2⟩ := m2.get (i := k) (by rw [hn2.out]; exact hlt)
      have p1 : W.cell? (a1.add k) = some (.int .u32 (xs[k]'(by rw [hn1.out]; exact hlt) : Nat)) := by rw [← HW.out]; exact q1
      have p2 : W.cell? (a2.add k) = some (.int .u32 (ys[k]'(by rw [hn2.out]; exact hlt) : Nat)) := by rw [← HW.out]; exact q2
      have hg : Hid (xs[k]? = ys[k]? ↔ (xs[k]'(by rw [hn1.out]; exact hlt) : Nat) = (ys[k]'(by rw [hn2.out]; exact hlt) : Nat)) := Lib.hid (by rw [List.getElem?_eq_getElem (by rw [hn1.out]; exact hlt), List.getElem?_eq_getElem (by rw [hn2.out]; exact hlt)]; simp)
      generalize (xs[k]'(by rw [hn1.out]; exact hlt) : Nat) = u at *
      generalize (ys[k]'(by rw [hn2.out]; exact hlt) : Nat) = v at *
      clear q1 q2
      by_cases huv : u = v
      · subst huv
        have hbb : ((u : Int) != (u : Int)) = false := by simp
        go_wp2_with fail
        go_quiet (fail)
        go_wp2
        go_roundw
        case rel => exact ⟨k + 1, nd + nq, by omega, by go_num, fun j hj => by
          rcases Nat.lt_or_ge j k with h | h
          · exact hE.out j h
          · obtain rfl : j = k := by omega
            exact hg.out.2 trivial, by rw [← HW.out, World.drewN_drewN]⟩
        case measure => simp [intOf]; omega
      · have hbb : ((u : Int) != (v : Int)) = true := by rw [bne_iff_ne]; omega
        have hBf : Hid (B = false) := Lib.hid (by
          rw [← hB.out, decide_eq_false_iff_not]
          intro e
          exact huv (hg.out.1 (by rw [e])))
        clear huv hg
        go_wp2_with fail
        go_quiet (fail)
        go_wp2
        go_ret
        exact ⟨by rw [hBf.out]; rfl, nd + nq, by rw [← HW.out, World.drewN_drewN]⟩
    · obtain rfl : k = n := by omega
      have hBt : Hid (B = true) := Lib.hid (by
        rw [← hB.out, decide_eq_true_eq]
        apply List.ext_getElem?
        intro j
        rcases Nat.lt_or_ge j k with h | h
        · exact hE.out j h
        · rw [List.getElem?_eq_none (by rw [hn1.out]; exact h), List.getElem?_eq_none (by rw [hn2.out]; exact h)])
      go_wp2
      go_ret
      exact ⟨by rw [hBt.out]; rfl, nd, HW.out⟩
theorem equal_any (G G' : Nat → Prop) (A1 A2 : Option Addr) (n m c1 c2 : Nat) (xs ys : List Nat) (w : World) (hn1 : Hid (xs.length = n)) (hn2 : Hid (ys.length = m)) (m1 : MagAt G w A1 xs) (m2 : MagAt G' w A2 ys) (h1 : n ≤ 35184372088832) (h2 : m ≤ 35184372088832) (B : Bool) (hB : Hid (decide (xs = ys) = B)) :
    Calls Tryd.prog 58 #[.slice A1 n c1, .slice A2 m c2] w fun e w' => e = .returned (.bool B) ∧ ∃ k, w.drewN k = w' := by
  by_cases hnm : n = m
  · subst hnm
    exact equal_eq G G' A1 A2 n c1 c2 xs ys w hn1 hn2 m1 m2 h1 B hB
  · have : B = false := by
      rw [← hB.out, decide_eq_false_iff_not]
      rintro rfl
      exact hnm (hn1.out.symm.trans hn2.out)
    subst this
    exact equal_ne A1 A2 n m c1 c2 w hnm h1 h2
theorem bytes_inj {a b : ByteArray} (h : a.toList = b.toList) : a = b := by
  rw [ByteArray.toList_eq, ByteArray.toList_eq] at h
  exact Go.WideShapes.bytes_inj h
def alR (k1 k2 c1 c2 : Int) (g1 g2 : Bool) (t1 t2 : ByteArray) (m n : Nat) (xs ys : List Nat) : Bool := decide (k1 = k2 ∧ c1 = c2 ∧ t1 = t2 ∧ m = n ∧ g1 = g2 ∧ xs = ys)
set_option maxHeartbeats 3200000 in
theorem alike_raw (k1 k2 c1 c2 : Int) (g1 g2 : Bool) (t1 t2 : ByteArray) (m n n1 n2 p1 p2 q1 q2 : Nat) (A1 A2 B1 B2 : Option Addr) (xs ys : List Nat) (w : World) (hn1 : Hid (xs.length = n1)) (hn2 : Hid (ys.length = n2)) (G G' : Nat → Prop) (m1 : MagAt G w A1 xs) (m2 : MagAt G' w A2 ys)
    (l1 : n1 ≤ 35184372088832) (l2 : n2 ≤ 35184372088832) (hm : m ≤ 140737488355328) (hn : n ≤ 140737488355328) (B : Bool) (hB : Hid (alR k1 k2 c1 c2 g1 g2 t1 t2 m n xs ys = B)) :
    Calls Tryd.prog 37 #[.agg #[.int .i64 k1, .int .i32 c1, .bool g1, .slice A1 n1 p1, .string t1, .slice B1 m q1], .agg #[.int .i64 k2, .int .i32 c2, .bool g2, .slice A2 n2 p2, .string t2, .slice B2 n q2]] w
      fun x w' => x = .returned (.bool B) ∧ Below w.heap.size w w' := by
  obtain ⟨W, hW⟩ : ∃ W, W = (w.alloc (.cells #[.int .i64 k1, .int .i32 c1, .bool g1, .slice A1 n1 p1, .string t1, .slice B1 m q1] 27)).alloc (.cells #[.int .i64 k2, .int .i32 c2, .bool g2, .slice A2 n2 p2, .string t2, .slice B2 n q2] 27) := ⟨_, rfl⟩
  have hbW : Below w.heap.size w W := by rw [hW]; exact ((Below.refl _ _).alloc (Nat.le_refl _) _).alloc (by simp) _
  have kW : Keep (fun _ => True) w W := by rw [hW]; exact ((Keep.refl _ _).alloc _).alloc _
  have hE := fun B hB => equal_any G G' A1 A2 n1 n2 p1 p2 xs ys W hn1 hn2 (m1.keep (kW.mono fun _ _ _ => trivial)) (m2.keep (kW.mono fun _ _ _ => trivial)) l1 l2 B hB
  have HE := Lib.hid hE
  clear hE m1 m2 kW
  by_cases c : k1 = k2
  rotate_left
  · have hz : Hid (B = false) := Lib.hid (by rw [← hB.out]; simp [alR, c])
    have b : (k1 == k2) = false := by simpa using c
    have HW := Lib.hid hW
    clear hW c
    go_enter Tryd.func37, Tryd.ntmps37
    go_wp2_with fail
    go_ret
    exact ⟨by rw [hz.out]; rfl, by have := hbW; rw [HW.out] at this; exact this⟩
  subst c
  by_cases c : c1 = c2
  rotate_left
  · have hz : Hid (B = false) := Lib.hid (by rw [← hB.out]; simp [alR, c])
    have b : (c1 == c2) = false := by simpa using c
    have HW := Lib.hid hW
    clear hW c
    go_enter Tryd.func37, Tryd.ntmps37
    go_wp2_with fail
    go_ret
    exact ⟨by rw [hz.out]; rfl, by have := hbW; rw [HW.out] at this; exact this⟩
  subst c
  by_cases c : t1 = t2
  rotate_left
  · have hz : Hid (B = false) := Lib.hid (by rw [← hB.out]; simp [alR, c])
    have b : (t1.toList == t2.toList) = false := by rw [beq_eq_false_iff_ne]; exact fun e => c (bytes_inj e)
    have HW := Lib.hid hW
    clear hW c
    go_enter Tryd.func37, Tryd.ntmps37
    go_wp2_with fail
    go_ret
    exact ⟨by rw [hz.out]; rfl, by have := hbW; rw [HW.out] at this; exact this⟩
  subst c
  by_cases c : m = n
  rotate_left
  · have hz : Hid (B = false) := Lib.hid (by rw [← hB.out]; simp [alR, c])
    have b : ((m : Int) == (n : Int)) = false := by simp; omega
    have HW := Lib.hid hW
    clear hW c
    go_enter Tryd.func37, Tryd.ntmps37
    go_wp2_with fail
    go_ret
    exact ⟨by rw [hz.out]; rfl, by have := hbW; rw [HW.out] at this; exact this⟩
  subst c
  by_cases c : g1 = g2
  rotate_left
  · have hz : Hid (B = false) := Lib.hid (by rw [← hB.out]; simp [alR, c])
    have b : (g1 == g2) = false := by simpa using c
    have HW := Lib.hid hW
    have hne := c
    clear hW c b
    cases g1 <;> cases g2
    · exact absurd rfl hne
    rotate_right
    · exact absurd rfl hne
    all_goals
      go_enter Tryd.func37, Tryd.ntmps37
      go_wp2_with fail
      go_ret
      exact ⟨by rw [hz.out]; rfl, by have := hbW; rw [HW.out] at this; exact this⟩
  subst c
  have hz : Hid (B = decide (xs = ys)) := Lib.hid (by rw [← hB.out]; simp [alR])
  have HW := Lib.hid hW
  clear hW
  go_enter Tryd.func37, Tryd.ntmps37
  go_wp2_with fail
  rw [← show W = _ from HW.out]
  refine (HE.out _ (Lib.hid rfl)).mono ?_
  rintro x w' ⟨rfl, nd, rfl⟩
  go_wp2
  go_ret
  exact ⟨by rw [hz.out]; rfl, ⟨hbW.os, hbW.tape, hbW.output, hbW.size, hbW.block⟩⟩
def alB (d e : D) (m n : Nat) : Bool := alR d.k e.k d.c e.c d.neg e.neg d.t e.t m n d.mag e.mag
theorem alike_any (d e : D) (m n : Nat) (G G' : Nat → Prop) (w : World) (o1 : d.Ok m) (o2 : e.Ok n) (m1 : MagAt G w d.mA d.mag) (m2 : MagAt G' w e.mA e.mag) :
    Calls Tryd.prog 37 #[.agg #[.int .i64 d.k, .int .i32 d.c, .bool d.neg, .slice d.mA d.mag.length d.mcap, .string d.t, .slice d.lA m d.lcap], .agg #[.int .i64 e.k, .int .i32 e.c, .bool e.neg, .slice e.mA e.mag.length e.mcap, .string e.t, .slice e.lA n e.lcap]] w
      fun x w' => x = .returned (.bool (alB d e m n)) ∧ Below w.heap.size w w' :=
  alike_raw _ _ _ _ _ _ _ _ _ _ _ _ _ _ _ _ _ _ _ _ _ _ w (Lib.hid rfl) (Lib.hid rfl) G G' m1 m2 o1.magc o2.magc o1.kidc o2.kidc _ (Lib.hid rfl)
end Go.Proofs.YtkffojipgphneaaDoor
