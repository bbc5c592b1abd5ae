import Derived.Test.YtocoflojlliapaaDoorK4
import Derived.Test.YtocoflojlliapaaDoorK3
set_option linter.unusedVariables false
namespace Go.Proofs.YtocoflojlliapaaDoor
open Go.RowKit
theorem toList_full (s : ByteArray) (h : 0 < s.size) : s.toList.isEmpty = false := by
  rw [Lib.toList_data]
  have : s.data.toList.length = s.size := (Lib.size_eq s).symm
  cases hd : s.data.toList
  · rw [hd] at this
    simp at this
    omega
  · rfl
theorem toList_void (s : ByteArray) (h : s.size = 0) : s.toList.isEmpty = true := by
  rw [Lib.toList_data]
  have : s.data.toList.length = s.size := (Lib.size_eq s).symm
  rw [List.isEmpty_iff]
  exact List.length_eq_zero_iff.1 (by omega)
def dg1 (c : UInt8) : Prop := 48 ≤ c.toNat ∧ c.toNat ≤ 57
set_option maxHeartbeats 800000 in
theorem areDigits_yes (s : ByteArray) (w : World) (hs : s.size ≤ 1000000) (h0 : 0 < s.size) (hd : isDig s.data.toList) :
    Calls Tryd.prog 76 #[.string s] w fun e w' => e = .returned (.bool true) ∧ w = w' := by
  have HD := Lib.hid hd
  clear hd
  go_enter Tryd.func76, Tryd.ntmps76
  go_wp2
  go_loop [6] (fun i => ∃ k : Nat, k ≤ s.size ∧ i = .int .i64 k) (fun i => s.size - (intOf i).toNat)
  case atStart => exact ⟨0, Nat.zero_le _, rfl⟩
  case round =>
    obtain ⟨k, hk, rfl⟩ := hrel
    by_cases hlt : k < s.size
    · have h1 : 48 ≤ (s[k]).toNat ∧ (s[k]).toNat ≤ 57 := HD.out _ (by simp [ByteArray.getElem_eq_getElem_data])
      have h2 := h1.1
      have h3 := h1.2
      go_wp2
      all_goals
        go_round
        case rel => exact ⟨k + 1, by omega, by go_num⟩
        case measure => simp [intOf]; omega
    · go_wp2
      go_ret
      rw [toList_full s h0]
      exact ⟨rfl, rfl⟩
set_option maxHeartbeats 800000 in
theorem areDigits_no (s : ByteArray) (w : World) (hs : s.size ≤ 1000000) (hd : Hid (¬ (s.data.toList ≠ [] ∧ isDig s.data.toList))) :
    Calls Tryd.prog 76 #[.string s] w fun e w' => e = .returned (.bool false) ∧ w = w' := by
  go_enter Tryd.func76, Tryd.ntmps76
  go_wp2
  go_loop [6] (fun i => ∃ k : Nat, k ≤ s.size ∧ i = .int .i64 k ∧ Hid (∀ (j : Nat) (h : j < s.size), j < k → dg1 (s[j]))) (fun i => s.size - (intOf i).toNat)
  case atStart => exact ⟨0, Nat.zero_le _, rfl, Lib.hid (fun j _ h => absurd h (by omega))⟩
  case round =>
    obtain ⟨k, hk, rfl, hF⟩ := hrel
    by_cases hlt : k < s.size
    · by_cases hg : dg1 (s[k])
      · have h2 := hg.1
        have h3 := hg.2
        have HF : Hid (∀ (j : Nat) (h : j < s.size), j < k + 1 → dg1 (s[j])) := Lib.hid (fun j h hj => by
          by_cases e : j = k
          · subst e
            exact hg
          · exact hF.out j h (by omega))
        clear hg
        go_wp2
        all_goals
          go_round
          case rel => exact ⟨k + 1, by omega, by go_num, HF⟩
          case measure => simp [intOf]; omega
      · have HG := Lib.hid hg
        clear hg
        by_cases h48 : 48 ≤ (s[k]).toNat
        · have h57 : 57 < (s[k]).toNat := by
            have := HG.out
            unfold dg1 at this
            omega
          go_wp2
          go_ret
          exact ⟨rfl, rfl⟩
        · have h48' : (s[k]).toNat < 48 := by omega
          clear h48
          go_wp2
          go_ret
          exact ⟨rfl, rfl⟩
    · have hz : s.size = 0 := by
        rcases Nat.eq_zero_or_pos s.size with h0 | h0
        · exact h0
        · exfalso
          refine hd.out ⟨fun e => ?_, fun c hc => ?_⟩
          · have := Lib.size_eq s
            rw [e] at this
            simp only [List.length_nil] at this
            omega
          · obtain ⟨j, hj, rfl⟩ := List.getElem_of_mem hc
            have hj' : j < s.size := by rw [Lib.size_eq]; exact hj
            have := hF.out j hj' (by omega)
            unfold dg1 at this
            simpa [ByteArray.getElem_eq_getElem_data] using this
      have HZ := Lib.hid hz
      clear hz
      go_wp2
      go_ret
      rw [toList_void s HZ.out]
      exact ⟨rfl, rfl⟩
end Go.Proofs.YtocoflojlliapaaDoor
set_option linter.unusedVariables false
namespace Go.Proofs.YtocoflojlliapaaDoor
open Go.RowKit
theorem Mag.one (w : World) (a : Nat) (ha : a < 4294967296) : Mag (w.alloc (.cells #[.int .u32 a] 43)) (some ⟨w.heap.size, 0, none⟩) 1 1 a := by
  refine ⟨[a], Nums.lim (t := 43) ?_, Low.cons ha Low.nil, rfl, by simp [val], Nat.le_refl _⟩
  exact Nums.made w 43 .u32 [a]
theorem plus_short (A1 A2 : Option Addr) (n1 n2 c1 c2 a b : Nat) (w : World) (h1 : Mag w A1 n1 c1 a) (h2 : Mag w A2 n2 c2 b) (l1 : n1 ≤ 1000000) (l2 : n2 ≤ n1) :
    Calls Tryd.prog 80 #[.slice A1 n1 c1, .slice A2 n2 c2] w fun e w' => e = .returned (.slice (some ⟨w.heap.size, 0, none⟩) (n1 + 1) (n1 + 1)) ∧ Mag w' (some ⟨w.heap.size, 0, none⟩) (n1 + 1) (n1 + 1) (a + b) ∧ Below w.heap.size w w' := by
  have := plus_mag A1 A2 n1 n2 c1 c2 a b w h1 h2 l1 (by omega)
  rw [Nat.max_eq_left l2] at this
  exact this
/-- a part of a row of digits -/
def Pt (l : List UInt8) (k f v : Nat) : Prop := f = 10 ^ k ∧ v = decVal (l.take k)
theorem decVal_lt : ∀ (l : List UInt8), isDig l → decVal l < 10 ^ l.length := by
  intro l
  induction hn : l.length generalizing l with
  | zero =>
    intro _
    have : l = [] := List.length_eq_zero_iff.1 hn
    subst this
    simp [decVal]
  | succ n ih =>
    intro hd
    have hne : l ≠ [] := fun h => by simp [h] at hn
    have e : l = l.dropLast ++ [l.getLast hne] := (List.dropLast_concat_getLast hne).symm
    have h1 := ih l.dropLast (by simp [hn]) (fun c hc => hd c (List.dropLast_subset l hc))
    have h2 := hd (l.getLast hne) (List.getLast_mem hne)
    rw [e, decVal_snoc, Nat.pow_succ]
    omega
theorem isDig.take {l : List UInt8} (h : isDig l) (k : Nat) : isDig (l.take k) := fun c hc => h c (List.mem_of_mem_take hc)
theorem isDig.drop {l : List UInt8} (h : isDig l) (k : Nat) : isDig (l.drop k) := fun c hc => h c (List.mem_of_mem_drop hc)
theorem Pt.bd {l : List UInt8} {k f v : Nat} (h : Pt l k f v) (hd : isDig l) (hk : k ≤ l.length) : v < f := by
  obtain ⟨rfl, rfl⟩ := h
  have := decVal_lt (l.take k) (hd.take k)
  rwa [List.length_take, Nat.min_eq_left hk] at this
theorem Pt.next {l : List UInt8} {k f v : Nat} (h : Pt l k f v) (hk : k < l.length) {x : Nat} (hx : (l[k]).toNat = x) : Pt l (k + 1) (f * 10) (v * 10 + (x - 48)) := by
  obtain ⟨rfl, rfl⟩ := h
  refine ⟨by rw [Nat.pow_succ], ?_⟩
  rw [List.take_succ_eq_append_getElem hk, decVal_snoc, hx]
theorem ten_le {k : Nat} (h : k ≤ 8) : (10 : Nat) ^ k ≤ 100000000 := Nat.pow_le_pow_right (n := 10) (by decide) h
set_option maxHeartbeats 1600000 in
theorem addGroup_any (A : Option Addr) (n c M : Nat) (s : ByteArray) (w : World) (hm : Mag w A n c M) (hn : n ≤ 1000) (hs : s.size ≤ 9) (hd : Hid (isDig s.data.toList)) :
    Calls Tryd.prog 90 #[.slice A n c, .string s] w fun e w' => ∃ A' c', e = .returned (.slice A' (dl (M * 10 ^ s.size + decVal s.data.toList)) c') ∧ Mag w' A' (dl (M * 10 ^ s.size + decVal s.data.toList)) c' (M * 10 ^ s.size + decVal s.data.toList) ∧ Below w.heap.size w w' := by
  go_enter Tryd.func90, Tryd.ntmps90
  go_wp2
  go_loop [5, 6, 10] (fun fv vv i => ∃ k f v : Nat, k ≤ s.size ∧ i = .int .i64 k ∧ fv = .int .u32 f ∧ vv = .int .u32 v ∧ Hid (Pt s.data.toList k f v)) (fun _ _ i => s.size - (intOf i).toNat)
  case atStart => exact ⟨0, 1, 0, Nat.zero_le _, rfl, rfl, rfl, Lib.hid ⟨rfl, by simp [decVal]⟩⟩
  case round =>
    obtain ⟨k, f, v, hk, rfl, rfl, rfl, hP⟩ := hrel
    have hsz : Hid (s.data.toList.length = s.size) := Lib.hid (Lib.size_eq s).symm
    have hvf : v < f := hP.out.bd hd.out (by rw [hsz.out]; exact hk)
    by_cases hlt : k < s.size
    · have hf : f ≤ 100000000 := by
        rw [hP.out.1]
        exact ten_le (by omega)
      have hx : 48 ≤ (s[k]).toNat ∧ (s[k]).toNat ≤ 57 := hd.out _ (by simp [ByteArray.getElem_eq_getElem_data])
      have hN := Lib.hid (hP.out.next (k := k) (by rw [hsz.out]; exact hlt) (x := (s[k]).toNat) (by simp [ByteArray.getElem_eq_getElem_data]))
      have h2 := hx.1
      have h3 := hx.2
      clear hx
      go_wp2
      all_goals
        go_round
        case rel => exact ⟨k + 1, f * 10, v * 10 + ((s[k]).toNat - 48), by omega, by go_num, by go_num, by go_num, hN⟩
        case measure => simp [intOf]; omega
    · obtain rfl : s.size = k := by omega
      have hf : f ≤ 1000000000 := by
        rw [hP.out.1]
        exact Nat.pow_le_pow_right (n := 10) (by decide) hs
      have hfe : Hid (f = 10 ^ s.size) := Lib.hid hP.out.1
      have hve : Hid (v = decVal s.data.toList) := Lib.hid (by
        have := hP.out.2
        rwa [List.take_of_length_le (by rw [hsz.out]; exact Nat.le_refl _)] at this)
      clear hP
      have hM1 := hm.alloc (.cells #[.int .u32 f] 43)
      have hO1 := Mag.one w f (by omega)
      go_wp2_with (first
        | (go_at_call 61; refine (times_mag A (some ⟨w.heap.size, 0, none⟩) n 1 c 1 M f _ hM1 hO1 (by omega) (by omega)).mono ?_; rintro e w1 ⟨rfl, hm1, hb1⟩; simp only [World.size_alloc] at hm1)
        | (go_at_call 80; refine (plus_short _ (some ⟨w1.heap.size, 0, none⟩) (n + 1) 1 (n + 1) 1 (M * f) v _ (hm1.alloc _) (Mag.one w1 v (by omega)) (by omega) (by omega)).mono ?_; rintro e w2 ⟨rfl, hm2, hb2⟩; simp only [World.size_alloc] at hm2)
        | (go_at_call 54; refine (trim_mag _ _ _ (M * f + v) _ hm2 (by omega)).mono ?_; rintro e w3 ⟨rfl, rfl⟩))
      go_ret
      rw [← hve.out, ← hfe.out]
      exact ⟨_, _, rfl, hm2.trim, below_then (below_then (below_al (Below.refl _ _) _) hb1) (below_then (below_al (Below.refl _ _) _) hb2)⟩
end Go.Proofs.YtocoflojlliapaaDoor
set_option linter.unusedVariables false
namespace Go.Proofs.YtocoflojlliapaaDoor
open Go.RowKit
def strLen (v : Value) : Nat := match v with | .string s => s.size | _ => 0
theorem decVal_take_le (l : List UInt8) (k : Nat) : decVal (l.take k) ≤ decVal l := by
  have h := decVal_append (l.take k) (l.drop k)
  rw [List.take_append_drop] at h
  have hp : 1 ≤ 10 ^ (l.drop k).length := Nat.one_le_pow _ _ (by decide)
  have := Nat.mul_le_mul_left (decVal (l.take k)) hp
  omega
/-- what is read, and what is left -/
def Rd (l : List UInt8) (t : ByteArray) (V : Nat) : Prop := ∃ k, k ≤ l.length ∧ t.data.toList = l.drop k ∧ V = decVal (l.take k)
theorem Rd.next {l : List UInt8} {t : ByteArray} {V : Nat} (h : Rd l t V) {q : Nat} (hq : q ≤ t.size) {g r : ByteArray} (hg : g.data.toList = t.data.toList.take q) (hr : r.data.toList = t.data.toList.drop q) :
    Rd l r (V * 10 ^ g.size + decVal g.data.toList) := by
  obtain ⟨k, hk, ht, rfl⟩ := h
  have hl : t.size = l.length - k := by rw [Lib.size_eq, ht, List.length_drop]
  have hgs : g.size = q := by rw [Lib.size_eq, hg, List.length_take, Nat.min_eq_left (by rw [← Lib.size_eq]; exact hq)]
  refine ⟨k + q, by omega, by rw [hr, ht, List.drop_drop], ?_⟩
  have e : l.take (k + q) = l.take k ++ (l.drop k).take q := by rw [List.take_add]
  rw [e, decVal_append, hgs, hg, ht, List.length_take, List.length_drop, Nat.min_eq_left (by omega)]
theorem Rd.full {l : List UInt8} {t : ByteArray} {V : Nat} (h : Rd l t V) (h0 : t.size = 0) : V = decVal l := by
  obtain ⟨k, hk, ht, rfl⟩ := h
  have hl : t.size = l.length - k := by rw [Lib.size_eq, ht, List.length_drop]
  rw [List.take_of_length_le (by omega)]
theorem Rd.le {l : List UInt8} {t : ByteArray} {V : Nat} (h : Rd l t V) : V ≤ decVal l := by
  obtain ⟨k, hk, ht, rfl⟩ := h
  exact decVal_take_le l k
theorem Rd.dig {l : List UInt8} {t : ByteArray} {V : Nat} (h : Rd l t V) (hd : isDig l) : isDig t.data.toList := by
  obtain ⟨k, hk, ht, rfl⟩ := h
  rw [ht]
  exact hd.drop k
set_option maxHeartbeats 3200000 in
theorem magnitude_yes (s : ByteArray) (w : World) (hs : s.size ≤ 1000000) (hd : Hid (isDig s.data.toList)) (N : Nat) (hN : Hid (N = decVal s.data.toList)) (hfit : dl N ≤ 48) :
    Calls Tryd.prog 77 #[.string s] w fun e w' => ∃ A c, e = .returned (.tuple #[.slice A (dl N) c, .bool true]) ∧ Mag w' A (dl N) c N ∧ Below w.heap.size w w' := by
  go_enter Tryd.func77, Tryd.ntmps77
  go_wp2
  go_loopw [0, 2] (fun dv mv wr => ∃ (t : ByteArray) (V : Nat) (A : Option Addr) (c : Nat), dv = .string t ∧ mv = .slice A (dl V) c ∧ t.size ≤ 1000000 ∧ dl V ≤ 48 ∧ Mag wr A (dl V) c V ∧ Hid (Rd s.data.toList t V) ∧ Below w.heap.size w wr) (fun dv _ _ => strLen dv)
  case atStart => exact ⟨s, 0, none, 0, rfl, rfl, hs, by decide, Mag.none_ _, Lib.hid ⟨0, Nat.zero_le _, by simp, by simp [decVal]⟩, Below.refl _ _⟩
  case round =>
    obtain ⟨t, V, A, c, rfl, rfl, hts, hV, hM, hR, hbel⟩ := hrel
    by_cases h0 : t.size = 0
    · have e1 := toList_void t h0
      have hf : Hid (V = N) := Lib.hid (by rw [hN.out]; exact hR.out.full h0)
      have H0 := Lib.hid h0
      clear h0
      go_wp2
      go_ret2
      have := hf.out
      subst this
      exact ⟨_, _, rfl, hM, hbel⟩
    · have e1 := toList_full t (by omega)
      obtain ⟨q, hq⟩ : ∃ q : Nat, q = min 9 t.size := ⟨_, rfl⟩
      have hq9 : q ≤ 9 := by omega
      have hqt : q ≤ t.size := by omega
      have hq1 : 1 ≤ q := by omega
      have hmin : min 9 (t.size : Int) = q := by omega
      clear hq
      have hg1 : (t.extract 0 q).data.toList = t.data.toList.take q := by rw [Lib.extract_data]; simp
      have hg2 : (t.extract q t.size).data.toList = t.data.toList.drop q := by rw [Lib.extract_data]; apply List.take_of_length_le; rw [List.length_drop, ← Lib.size_eq]; exact Nat.le_refl _
      have hgs : (t.extract 0 q).size = q := by rw [Lib.size_eq, hg1, List.length_take, Nat.min_eq_left (by rw [← Lib.size_eq]; exact hqt)]
      have hrs : (t.extract q t.size).size = t.size - q := by rw [Lib.size_eq, hg2, List.length_drop, ← Lib.size_eq]
      have hnext := Lib.hid (hR.out.next hqt hg1 hg2)
      have hgd : Hid (isDig (t.extract 0 q).data.toList) := Lib.hid (by rw [hg1]; exact (hR.out.dig hd.out).take q)
      have HG := fun W h => Lib.hid (addGroup_any A (dl V) c V (t.extract 0 q) W h (by omega) (by rw [hgs]; exact hq9) hgd)
      have HRS := Lib.hid hrs
      clear hg1 hg2 hrs
      generalize hVe : V * 10 ^ (t.extract 0 q).size + decVal (t.extract 0 q).data.toList = V' at HG hnext
      clear hVe
      have hV' : dl V' ≤ 48 := Nat.le_trans (dl_mono (by have := hnext.out.le; rw [← hN.out] at this; exact this)) hfit
      clear hgs
      go_wp2_with (go_at_call 90; refine ((HG _ hM).out).mono ?_; rintro e w1 ⟨A', c', rfl, hm1, hb1⟩)
      go_roundw
      case rel => exact ⟨_, V', A', c', rfl, rfl, by rw [HRS.out]; omega, hV', hm1, hnext, below_then hbel hb1⟩
      case measure => simp only [strLen]; rw [HRS.out]; omega
set_option maxHeartbeats 3200000 in
theorem magnitude_no (s : ByteArray) (w : World) (hs : s.size ≤ 1000000) (hd : Hid (isDig s.data.toList)) (N : Nat) (hN : Hid (N = decVal s.data.toList)) (hbig : 48 < dl N) :
    Calls Tryd.prog 77 #[.string s] w fun e w' => e = .returned (.tuple #[.slice none 0 0, .bool false]) ∧ Below w.heap.size w w' := by
  go_enter Tryd.func77, Tryd.ntmps77
  go_wp2
  go_loopw [0, 2] (fun dv mv wr => ∃ (t : ByteArray) (V : Nat) (A : Option Addr) (c : Nat), dv = .string t ∧ mv = .slice A (dl V) c ∧ t.size ≤ 1000000 ∧ dl V ≤ 48 ∧ Mag wr A (dl V) c V ∧ Hid (Rd s.data.toList t V) ∧ Below w.heap.size w wr) (fun dv _ _ => strLen dv)
  case atStart => exact ⟨s, 0, none, 0, rfl, rfl, hs, by decide, Mag.none_ _, Lib.hid ⟨0, Nat.zero_le _, by simp, by simp [decVal]⟩, Below.refl _ _⟩
  case round =>
    obtain ⟨t, V, A, c, rfl, rfl, hts, hV, hM, hR, hbel⟩ := hrel
    by_cases h0 : t.size = 0
    · exfalso
      have hf : V = N := by rw [hN.out]; exact hR.out.full h0
      subst hf
      omega
    · have e1 := toList_full t (by omega)
      obtain ⟨q, hq⟩ : ∃ q : Nat, q = min 9 t.size := ⟨_, rfl⟩
      have hq9 : q ≤ 9 := by omega
      have hqt : q ≤ t.size := by omega
      have hq1 : 1 ≤ q := by omega
      have hmin : min 9 (t.size : Int) = q := by omega
      clear hq
      have hg1 : (t.extract 0 q).data.toList = t.data.toList.take q := by rw [Lib.extract_data]; simp
      have hg2 : (t.extract q t.size).data.toList = t.data.toList.drop q := by rw [Lib.extract_data]; apply List.take_of_length_le; rw [List.length_drop, ← Lib.size_eq]; exact Nat.le_refl _
      have hgs : (t.extract 0 q).size = q := by rw [Lib.size_eq, hg1, List.length_take, Nat.min_eq_left (by rw [← Lib.size_eq]; exact hqt)]
      have hrs : (t.extract q t.size).size = t.size - q := by rw [Lib.size_eq, hg2, List.length_drop, ← Lib.size_eq]
      have hnext := Lib.hid (hR.out.next hqt hg1 hg2)
      have hgd : Hid (isDig (t.extract 0 q).data.toList) := Lib.hid (by rw [hg1]; exact (hR.out.dig hd.out).take q)
      have HG := fun W h => Lib.hid (addGroup_any A (dl V) c V (t.extract 0 q) W h (by omega) (by rw [hgs]; exact hq9) hgd)
      have HRS := Lib.hid hrs
      clear hg1 hg2 hrs
      generalize hVe : V * 10 ^ (t.extract 0 q).size + decVal (t.extract 0 q).data.toList = V' at HG hnext
      clear hVe
      clear hgs
      by_cases hV' : dl V' ≤ 48
      · go_wp2_with (go_at_call 90; refine ((HG _ hM).out).mono ?_; rintro e w1 ⟨A', c', rfl, hm1, hb1⟩)
        go_roundw
        case rel => exact ⟨_, V', A', c', rfl, rfl, by rw [HRS.out]; omega, hV', hm1, hnext, below_then hbel hb1⟩
        case measure => simp only [strLen]; rw [HRS.out]; omega
      · have hVb : 48 < dl V' := by omega
        clear hV'
        go_wp2_with (go_at_call 90; refine ((HG _ hM).out).mono ?_; rintro e w1 ⟨A', c', rfl, hm1, hb1⟩)
        go_ret2
        exact ⟨rfl, below_then hbel hb1⟩
end Go.Proofs.YtocoflojlliapaaDoor
set_option linter.unusedVariables false
namespace Go.Proofs.YtocoflojlliapaaDoor
open Go.RowKit
/-- a text's sign and what stands behind it -/
def Split (s : ByteArray) (neg : Bool) (d : ByteArray) : Prop :=
  (s.data.toList.head? = some 45 ∧ neg = true ∧ d = s.extract 1 s.size) ∨ (s.data.toList.head? = some 43 ∧ neg = false ∧ d = s.extract 1 s.size) ∨
    (s.data.toList.head? ≠ some 45 ∧ s.data.toList.head? ≠ some 43 ∧ neg = false ∧ d = s)
theorem prefix_is (s : ByteArray) (c : UInt8) (b : Bool) (w : World) (h : decide (s.data.toList.head? = some c) = b) :
    Calls Tryd.prog 75 #[.string s, .string ⟨#[c]⟩] w fun e w' => e = .returned (.bool b) ∧ w' = w := by
  have := Tryd.strings_HasPrefix s ⟨#[c]⟩ w
  have e : Lib.hasPrefix s.data.toList (⟨#[c]⟩ : ByteArray).data.toList = b := by
    rw [← h]
    cases s.data.toList with
    | nil => simp [Lib.hasPrefix]
    | cons x l =>
      by_cases hx : x = c
      · subst hx
        simp [Lib.hasPrefix, List.isPrefixOf]
      · have h1 : (c == x) = false := beq_false_of_ne (fun e => hx e.symm)
        simp [Lib.hasPrefix, List.isPrefixOf, h1, hx]
  rw [e] at this
  exact this
theorem head_size (s : ByteArray) (c : UInt8) (h : s.data.toList.head? = some c) : 1 ≤ s.size := by
  rw [Lib.size_eq]
  cases hd : s.data.toList with
  | nil => rw [hd] at h; simp at h
  | cons x l => simp
set_option maxHeartbeats 1600000 in
theorem parse_form (s : ByteArray) (neg : Bool) (d : ByteArray) (w : World) (hs : s.size ≤ 100000) (h : Split s neg d) (hd : Hid (¬ (d.data.toList ≠ [] ∧ isDig d.data.toList))) :
    Calls Tryd.prog 48 #[.string s] w fun e w' => e = .returned (.tuple #[.agg #[.bool false, .slice none 0 0], .int .i64 9]) ∧ Below w.heap.size w w' := by
  have hds : d.size ≤ 100000 := by
    rcases h with ⟨_, _, rfl⟩ | ⟨_, _, rfl⟩ | ⟨_, _, _, rfl⟩
    · rw [ByteArray.size_extract]; omega
    · rw [ByteArray.size_extract]; omega
    · exact hs
  have AD := fun w => Lib.hid (areDigits_no d w (by omega) hd)
  rcases h with ⟨h1, rfl, rfl⟩ | ⟨h1, rfl, rfl⟩ | ⟨h1, h2, rfl, rfl⟩
  · have hsz := head_size s 45 h1
    have PM := fun w => Lib.hid (prefix_is s 45 true w (by simp [h1]))
    have PP := fun w => Lib.hid (prefix_is s 43 false w (by simp [h1]))
    clear h1
    go_enter Tryd.func48, Tryd.ntmps48
    go_wp2_with (first | (go_at_call 75; (first | (with_reducible refine ((PM _).out).mono ?_) | (with_reducible refine ((PP _).out).mono ?_)); rintro e w' ⟨rfl, rfl⟩) | (go_at_call 76; refine ((AD _).out).mono ?_; rintro e w' ⟨rfl, rfl⟩))
    exact bodyPost_ret (v := .tuple #[.agg #[.bool false, .slice none 0 0], .int .i64 9]) (by simp [results, Tryd.results48, go_sem]) rfl ⟨rfl, (Below.refl _ _).alloc (Nat.le_refl _) _⟩
  · have hsz := head_size s 43 h1
    have PM := fun w => Lib.hid (prefix_is s 45 false w (by simp [h1]))
    have PP := fun w => Lib.hid (prefix_is s 43 true w (by simp [h1]))
    clear h1
    go_enter Tryd.func48, Tryd.ntmps48
    go_wp2_with (first | (go_at_call 75; (first | (with_reducible refine ((PM _).out).mono ?_) | (with_reducible refine ((PP _).out).mono ?_)); rintro e w' ⟨rfl, rfl⟩) | (go_at_call 76; refine ((AD _).out).mono ?_; rintro e w' ⟨rfl, rfl⟩))
    exact bodyPost_ret (v := .tuple #[.agg #[.bool false, .slice none 0 0], .int .i64 9]) (by simp [results, Tryd.results48, go_sem]) rfl ⟨rfl, (Below.refl _ _).alloc (Nat.le_refl _) _⟩
  · have hsz : True := trivial
    have PM := fun w => Lib.hid (prefix_is d 45 false w (by simp [h1]))
    have PP := fun w => Lib.hid (prefix_is d 43 false w (by simp [h2]))
    clear h1 h2
    go_enter Tryd.func48, Tryd.ntmps48
    go_wp2_with (first | (go_at_call 75; (first | (with_reducible refine ((PM _).out).mono ?_) | (with_reducible refine ((PP _).out).mono ?_)); rintro e w' ⟨rfl, rfl⟩) | (go_at_call 76; refine ((AD _).out).mono ?_; rintro e w' ⟨rfl, rfl⟩))
    exact bodyPost_ret (v := .tuple #[.agg #[.bool false, .slice none 0 0], .int .i64 9]) (by simp [results, Tryd.results48, go_sem]) rfl ⟨rfl, (Below.refl _ _).alloc (Nat.le_refl _) _⟩
set_option maxHeartbeats 1600000 in
theorem parse_big (s : ByteArray) (neg : Bool) (d : ByteArray) (w : World) (hs : s.size ≤ 100000) (h : Split s neg d) (h0 : d.data.toList ≠ []) (hd : isDig d.data.toList) (hbig : 48 < dl (decVal d.data.toList)) :
    Calls Tryd.prog 48 #[.string s] w fun e w' => Big w w' e := by
  have hds : d.size ≤ 100000 := by
    rcases h with ⟨_, _, rfl⟩ | ⟨_, _, rfl⟩ | ⟨_, _, _, rfl⟩
    · rw [ByteArray.size_extract]; omega
    · rw [ByteArray.size_extract]; omega
    · exact hs
  have AD := fun w => Lib.hid (areDigits_yes d w (by omega) (by rw [Lib.size_eq]; exact List.length_pos_iff.2 h0) hd)
  have MG := fun w => Lib.hid (magnitude_no d w (by omega) (Lib.hid hd) _ (Lib.hid rfl) hbig)
  have HW : Two (w.alloc (.cells #[.bool false, .slice none 0 0] 24)) w.heap.size 24 (.bool false) (.slice none 0 0) := Two.made w 24 _ _
  clear hd hbig h0
  rcases h with ⟨h1, rfl, rfl⟩ | ⟨h1, rfl, rfl⟩ | ⟨h1, h2, rfl, rfl⟩
  · have hsz := head_size s 45 h1
    have PM := fun w => Lib.hid (prefix_is s 45 true w (by simp [h1]))
    have PP := fun w => Lib.hid (prefix_is s 43 false w (by simp [h1]))
    clear h1
    go_enter Tryd.func48, Tryd.ntmps48
    go_wp2_with (first | (go_at_call 75; (first | (with_reducible refine ((PM _).out).mono ?_) | (with_reducible refine ((PP _).out).mono ?_)); rintro e w' ⟨rfl, rfl⟩) | (go_at_call 76; refine ((AD _).out).mono ?_; rintro e w' ⟨rfl, rfl⟩) | (go_at_call 77; refine ((MG _).out).mono ?_; rintro e w1 ⟨rfl, hb1⟩; have k0 := (HW.below' hb1).fst; have k1 := (HW.below' hb1).snd; have k2 := (HW.below' hb1).free 0; have k3 := (HW.below' hb1).free 1))
    exact bodyPost_ret (v := .tuple #[.agg #[.bool false, .slice none 0 0], .int .i64 6]) (by simp [results, Tryd.results48, go_sem, k0, k1]) rfl ⟨rfl, below_two (below_then (below_al (Below.refl _ _) _) hb1) (Nat.le_refl _)⟩
  · have hsz := head_size s 43 h1
    have PM := fun w => Lib.hid (prefix_is s 45 false w (by simp [h1]))
    have PP := fun w => Lib.hid (prefix_is s 43 true w (by simp [h1]))
    clear h1
    go_enter Tryd.func48, Tryd.ntmps48
    go_wp2_with (first | (go_at_call 75; (first | (with_reducible refine ((PM _).out).mono ?_) | (with_reducible refine ((PP _).out).mono ?_)); rintro e w' ⟨rfl, rfl⟩) | (go_at_call 76; refine ((AD _).out).mono ?_; rintro e w' ⟨rfl, rfl⟩) | (go_at_call 77; refine ((MG _).out).mono ?_; rintro e w1 ⟨rfl, hb1⟩; have k0 := (HW.below' hb1).fst; have k1 := (HW.below' hb1).snd; have k2 := (HW.below' hb1).free 0; have k3 := (HW.below' hb1).free 1))
    exact bodyPost_ret (v := .tuple #[.agg #[.bool false, .slice none 0 0], .int .i64 6]) (by simp [results, Tryd.results48, go_sem, k0, k1]) rfl ⟨rfl, below_two (below_then (below_al (Below.refl _ _) _) hb1) (Nat.le_refl _)⟩
  · have hsz : True := trivial
    have PM := fun w => Lib.hid (prefix_is d 45 false w (by simp [h1]))
    have PP := fun w => Lib.hid (prefix_is d 43 false w (by simp [h2]))
    clear h1 h2
    go_enter Tryd.func48, Tryd.ntmps48
    go_wp2_with (first | (go_at_call 75; (first | (with_reducible refine ((PM _).out).mono ?_) | (with_reducible refine ((PP _).out).mono ?_)); rintro e w' ⟨rfl, rfl⟩) | (go_at_call 76; refine ((AD _).out).mono ?_; rintro e w' ⟨rfl, rfl⟩) | (go_at_call 77; refine ((MG _).out).mono ?_; rintro e w1 ⟨rfl, hb1⟩; have k0 := (HW.below' hb1).fst; have k1 := (HW.below' hb1).snd; have k2 := (HW.below' hb1).free 0; have k3 := (HW.below' hb1).free 1))
    exact bodyPost_ret (v := .tuple #[.agg #[.bool false, .slice none 0 0], .int .i64 6]) (by simp [results, Tryd.results48, go_sem, k0, k1]) rfl ⟨rfl, below_two (below_then (below_al (Below.refl _ _) _) hb1) (Nat.le_refl _)⟩
set_option maxHeartbeats 1600000 in
theorem parse_ok (s : ByteArray) (neg : Bool) (d : ByteArray) (w : World) (hs : s.size ≤ 100000) (h : Split s neg d) (h0 : d.data.toList ≠ []) (hd : isDig d.data.toList) (N : Nat) (hN : Hid (N = decVal d.data.toList)) (hfit : dl N ≤ 48) :
    Calls Tryd.prog 48 #[.string s] w fun e w' => Num w w' e neg N := by
  have hds : d.size ≤ 100000 := by
    rcases h with ⟨_, _, rfl⟩ | ⟨_, _, rfl⟩ | ⟨_, _, _, rfl⟩
    · rw [ByteArray.size_extract]; omega
    · rw [ByteArray.size_extract]; omega
    · exact hs
  have AD := fun w => Lib.hid (areDigits_yes d w (by omega) (by rw [Lib.size_eq]; exact List.length_pos_iff.2 h0) hd)
  have MG := fun w => Lib.hid (magnitude_yes d w (by omega) (Lib.hid hd) N hN hfit)
  have HW : Two (w.alloc (.cells #[.bool false, .slice none 0 0] 24)) w.heap.size 24 (.bool false) (.slice none 0 0) := Two.made w 24 _ _
  clear hd h0
  rcases h with ⟨h1, rfl, rfl⟩ | ⟨h1, rfl, rfl⟩ | ⟨h1, h2, rfl, rfl⟩
  · have hsz := head_size s 45 h1
    have PM := fun w => Lib.hid (prefix_is s 45 true w (by simp [h1]))
    have PP := fun w => Lib.hid (prefix_is s 43 false w (by simp [h1]))
    clear h1
    go_enter Tryd.func48, Tryd.ntmps48
    go_wp2_with (first | (go_at_call 75; (first | (with_reducible refine ((PM _).out).mono ?_) | (with_reducible refine ((PP _).out).mono ?_)); rintro e w' ⟨rfl, rfl⟩) | (go_at_call 76; refine ((AD _).out).mono ?_; rintro e w' ⟨rfl, rfl⟩) | (go_at_call 77; refine ((MG _).out).mono ?_; rintro e w1 ⟨A, c, rfl, hm1, hb1⟩) | (go_at_call 52; refine (signed_any true _).mono ?_; rintro e w' ⟨rfl, rfl⟩) | (go_at_call 79; refine (signed1_yes w1.heap.size true A (dl N) c N _ (one_made _ _ _) (hm1.alloc _) (by omega) hfit).mono ?_; rintro e w2 ⟨A', c', rfl, hf⟩; have hb2 : Below (w.alloc (.cells #[.bool false, .slice none 0 0] 24)).heap.size (w.alloc (.cells #[.bool false, .slice none 0 0] 24)) w2 := below_then hb1 (below_then (below_al (Below.refl _ _) _) hf.2); have k0 := (HW.below' hb2).fst; have k1 := (HW.below' hb2).snd; have k2 := (HW.below' hb2).free 0; have k3 := (HW.below' hb2).free 1))
    exact bodyPost_ret (v := .tuple #[.agg #[.bool (signB true N), .slice A' (dl N) c'], .int .i64 0]) (by simp [results, Tryd.results48, go_sem, k0, k1]) rfl
      ⟨A', c', rfl, hf.two (g := w.heap.size) (below_al (below_then (below_al (Below.refl _ _) _) hb1) _) (Nat.le_refl _) (by have := hb1.size; simp at this ⊢; omega)⟩
  · have hsz := head_size s 43 h1
    have PM := fun w => Lib.hid (prefix_is s 45 false w (by simp [h1]))
    have PP := fun w => Lib.hid (prefix_is s 43 true w (by simp [h1]))
    clear h1
    go_enter Tryd.func48, Tryd.ntmps48
    go_wp2_with (first | (go_at_call 75; (first | (with_reducible refine ((PM _).out).mono ?_) | (with_reducible refine ((PP _).out).mono ?_)); rintro e w' ⟨rfl, rfl⟩) | (go_at_call 76; refine ((AD _).out).mono ?_; rintro e w' ⟨rfl, rfl⟩) | (go_at_call 77; refine ((MG _).out).mono ?_; rintro e w1 ⟨A, c, rfl, hm1, hb1⟩) | (go_at_call 52; refine (signed_any false _).mono ?_; rintro e w' ⟨rfl, rfl⟩) | (go_at_call 79; refine (signed1_yes w1.heap.size false A (dl N) c N _ (one_made _ _ _) (hm1.alloc _) (by omega) hfit).mono ?_; rintro e w2 ⟨A', c', rfl, hf⟩; have hb2 : Below (w.alloc (.cells #[.bool false, .slice none 0 0] 24)).heap.size (w.alloc (.cells #[.bool false, .slice none 0 0] 24)) w2 := below_then hb1 (below_then (below_al (Below.refl _ _) _) hf.2); have k0 := (HW.below' hb2).fst; have k1 := (HW.below' hb2).snd; have k2 := (HW.below' hb2).free 0; have k3 := (HW.below' hb2).free 1))
    exact bodyPost_ret (v := .tuple #[.agg #[.bool (signB false N), .slice A' (dl N) c'], .int .i64 0]) (by simp [results, Tryd.results48, go_sem, k0, k1]) rfl
      ⟨A', c', rfl, hf.two (g := w.heap.size) (below_al (below_then (below_al (Below.refl _ _) _) hb1) _) (Nat.le_refl _) (by have := hb1.size; simp at this ⊢; omega)⟩
  · have hsz : True := trivial
    have PM := fun w => Lib.hid (prefix_is d 45 false w (by simp [h1]))
    have PP := fun w => Lib.hid (prefix_is d 43 false w (by simp [h2]))
    clear h1 h2
    go_enter Tryd.func48, Tryd.ntmps48
    go_wp2_with (first | (go_at_call 75; (first | (with_reducible refine ((PM _).out).mono ?_) | (with_reducible refine ((PP _).out).mono ?_)); rintro e w' ⟨rfl, rfl⟩) | (go_at_call 76; refine ((AD _).out).mono ?_; rintro e w' ⟨rfl, rfl⟩) | (go_at_call 77; refine ((MG _).out).mono ?_; rintro e w1 ⟨A, c, rfl, hm1, hb1⟩) | (go_at_call 52; refine (signed_any false _).mono ?_; rintro e w' ⟨rfl, rfl⟩) | (go_at_call 79; refine (signed1_yes w1.heap.size false A (dl N) c N _ (one_made _ _ _) (hm1.alloc _) (by omega) hfit).mono ?_; rintro e w2 ⟨A', c', rfl, hf⟩; have hb2 : Below (w.alloc (.cells #[.bool false, .slice none 0 0] 24)).heap.size (w.alloc (.cells #[.bool false, .slice none 0 0] 24)) w2 := below_then hb1 (below_then (below_al (Below.refl _ _) _) hf.2); have k0 := (HW.below' hb2).fst; have k1 := (HW.below' hb2).snd; have k2 := (HW.below' hb2).free 0; have k3 := (HW.below' hb2).free 1))
    exact bodyPost_ret (v := .tuple #[.agg #[.bool (signB false N), .slice A' (dl N) c'], .int .i64 0]) (by simp [results, Tryd.results48, go_sem, k0, k1]) rfl
      ⟨A', c', rfl, hf.two (g := w.heap.size) (below_al (below_then (below_al (Below.refl _ _) _) hb1) _) (Nat.le_refl _) (by have := hb1.size; simp at this ⊢; omega)⟩
end Go.Proofs.YtocoflojlliapaaDoor
