import Derived.Test.YtocoflojlliapaaDoorE2
set_option linter.unusedVariables false
namespace Go.Proofs.YtocoflojlliapaaDoor
open Go.RowKit
def strLen (v : Value) : Nat := match v with | .string s => s.size | _ => 0
theorem decVal_take_le (l : List UInt8) (k : Nat) : decVal (l.take k) ≤ decVal l := by
  have h := decVal_append (l.take k) (l.drop k)
  rw [List.take_append_drop] at h
  have hp : 1 ≤ 10 ^ (l.drop k).length := Nat.one_le_pow _ _ (by decide)
  have := Nat.mul_le_mul_left (decVal (l.take k)) hp
  omega
/-- what is read, and what is left -/
def Rd (l : List UInt8) (t : ByteArray) (V : Nat) : Prop := ∃ k, k ≤ l.length ∧ t.data.toList = l.drop k ∧ V = decVal (l.take k)
theorem Rd.next {l : List UInt8} {t : ByteArray} {V : Nat} (h : Rd l t V) {q : Nat} (hq : q ≤ t.size) {g r : ByteArray} (hg : g.data.toList = t.data.toList.take q) (hr : r.data.toList = t.data.toList.drop q) :
    Rd l r (V * 10 ^ g.size + decVal g.data.toList) := by
  obtain ⟨k, hk, ht, rfl⟩ := h
  have hl : t.size = l.length - k := by rw [Lib.size_eq, ht, List.length_drop]
  have hgs : g.size = q := by rw [Lib.size_eq, hg, List.length_take, Nat.min_eq_left (by rw [← Lib.size_eq]; exact hq)]
  refine ⟨k + q, by omega, by rw [hr, ht, List.drop_drop], ?_⟩
  have e : l.take (k + q) = l.take k ++ (l.drop k).take q := by rw [List.take_add]
  rw [e, decVal_append, hgs, hg, ht, List.length_take, List.length_drop, Nat.min_eq_left (by omega)]
theorem Rd.full {l : List UInt8} {t : ByteArray} {V : Nat} (h : Rd l t V) (h0 : t.size = 0) : V = decVal l := by
  obtain ⟨k, hk, ht, rfl⟩ := h
  have hl : t.size = l.length - k := by rw [Lib.size_eq, ht, List.length_drop]
  rw [List.take_of_length_le (by omega)]
theorem Rd.le {l : List UInt8} {t : ByteArray} {V : Nat} (h : Rd l t V) : V ≤ decVal l := by
  obtain ⟨k, hk, ht, rfl⟩ := h
  exact decVal_take_le l k
theorem Rd.dig {l : List UInt8} {t : ByteArray} {V : Nat} (h : Rd l t V) (hd : isDig l) : isDig t.data.toList := by
  obtain ⟨k, hk, ht, rfl⟩ := h
  rw [ht]
  exact hd.drop k
set_option maxHeartbeats 3200000 in
theorem magnitude_yes (s : ByteArray) (w : World) (hs : s.size ≤ 1000000) (hd : Hid (isDig s.data.toList)) (N : Nat) (hN : Hid (N = decVal s.data.toList)) (hfit : dl N ≤ 48) :
    Calls Tryd.prog 77 #[.string s] w fun e w' => ∃ A c, e = .returned (.tuple #[.slice A (dl N) c, .bool true]) ∧ Mag w' A (dl N) c N ∧ Below w.heap.size w w' := by
  go_enter Tryd.func77, Tryd.ntmps77
  go_wp2
  go_loopw [0, 2] (fun dv mv wr => ∃ (t : ByteArray) (V : Nat) (A : Option Addr) (c : Nat), dv = .string t ∧ mv = .slice A (dl V) c ∧ t.size ≤ 1000000 ∧ dl V ≤ 48 ∧ Mag wr A (dl V) c V ∧ Hid (Rd s.data.toList t V) ∧ Below w.heap.size w wr) (fun dv _ _ => strLen dv)
  case atStart => exact ⟨s, 0, none, 0, rfl, rfl, hs, by decide, Mag.none_ _, Lib.hid ⟨0, Nat.zero_le _, by simp, by simp [decVal]⟩, Below.refl _ _⟩
  case round =>
    obtain ⟨t, V, A, c, rfl, rfl, hts, hV, hM, hR, hbel⟩ := hrel
    by_cases h0 : t.size = 0
    · have e1 := toList_void t h0
      have hf : Hid (V = N) := Lib.hid (by rw [hN.out]; exact hR.out.full h0)
      have H0 := Lib.hid h0
      clear h0
      go_wp2
      go_ret2
      have := hf.out
      subst this
      exact ⟨_, _, rfl, hM, hbel⟩
    · have e1 := toList_full t (by omega)
      obtain ⟨q, hq⟩ : ∃ q : Nat, q = min 9 t.size := ⟨_, rfl⟩
      have hq9 : q ≤ 9 := by omega
      have hqt : q ≤ t.size := by omega
      have hq1 : 1 ≤ q := by omega
      have hmin : min 9 (t.size : Int) = q := by omega
      clear hq
      have hg1 : (t.extract 0 q).data.toList = t.data.toList.take q := by rw [Lib.extract_data]; simp
      have hg2 : (t.extract q t.size).data.toList = t.data.toList.drop q := by rw [Lib.extract_data]; apply List.take_of_length_le; rw [List.length_drop, ← Lib.size_eq]; exact Nat.le_refl _
      have hgs : (t.extract 0 q).size = q := by rw [Lib.size_eq, hg1, List.length_take, Nat.min_eq_left (by rw [← Lib.size_eq]; exact hqt)]
      have hrs : (t.extract q t.size).size = t.size - q := by rw [Lib.size_eq, hg2, List.length_drop, ← Lib.size_eq]
      have hnext := Lib.hid (hR.out.next hqt hg1 hg2)
      have hgd : Hid (isDig (t.extract 0 q).data.toList) := Lib.hid (by rw [hg1]; exact (hR.out.dig hd.out).take q)
      have HG := fun W h => Lib.hid (addGroup_any A (dl V) c V (t.extract 0 q) W h (by omega) (by rw [hgs]; exact hq9) hgd)
      have HRS := Lib.hid hrs
      clear hg1 hg2 hrs
      generalize hVe : V * 10 ^ (t.extract 0 q).size + decVal (t.extract 0 q).data.toList = V' at HG hnext
      clear hVe
      have hV' : dl V' ≤ 48 := Nat.le_trans (dl_mono (by have := hnext.out.le; rw [← hN.out] at this; exact this)) hfit
      clear hgs
      go_wp2_with (go_at_call 90; refine ((HG _ hM).out).mono ?_; rintro e w1 ⟨A', c', rfl, hm1, hb1⟩)
      go_roundw
      case rel => exact ⟨_, V', A', c', rfl, rfl, by rw [HRS.out]; omega, hV', hm1, hnext, below_then hbel hb1⟩
      case measure => simp only [strLen]; rw [HRS.out]; omega
set_option maxHeartbeats 3200000 in
theorem magnitude_no (s : ByteArray) (w : World) (hs : s.size ≤ 1000000) (hd : Hid (isDig s.data.toList)) (N : Nat) (hN : Hid (N = decVal s.data.toList)) (hbig : 48 < dl N) :
    Calls Tryd.prog 77 #[.string s] w fun e w' => e = .returned (.tuple #[.slice none 0 0, .bool false]) ∧ Below w.heap.size w w' := by
  go_enter Tryd.func77, Tryd.ntmps77
  go_wp2
  go_loopw [0, 2] (fun dv mv wr => ∃ (t : ByteArray) (V : Nat) (A : Option Addr) (c : Nat), dv = .string t ∧ mv = .slice A (dl V) c ∧ t.size ≤ 1000000 ∧ dl V ≤ 48 ∧ Mag wr A (dl V) c V ∧ Hid (Rd s.data.toList t V) ∧ Below w.heap.size w wr) (fun dv _ _ => strLen dv)
  case atStart => exact ⟨s, 0, none, 0, rfl, rfl, hs, by decide, Mag.none_ _, Lib.hid ⟨0, Nat.zero_le _, by simp, by simp [decVal]⟩, Below.refl _ _⟩
  case round =>
    obtain ⟨t, V, A, c, rfl, rfl, hts, hV, hM, hR, hbel⟩ := hrel
    by_cases h0 : t.size = 0
    · exfalso
      have hf : V = N := by rw [hN.out]; exact hR.out.full h0
      subst hf
      omega
    · have e1 := toList_full t (by omega)
      obtain ⟨q, hq⟩ : ∃ q : Nat, q = min 9 t.size := ⟨_, rfl⟩
      have hq9 : q ≤ 9 := by omega
      have hqt : q ≤ t.size := by omega
      have hq1 : 1 ≤ q := by omega
      have hmin : min 9 (t.size : Int) = q := by omega
      clear hq
      have hg1 : (t.extract 0 q).data.toList = t.data.toList.take q := by rw [Lib.extract_data]; simp
      have hg2 : (t.extract q t.size).data.toList = t.data.toList.drop q := by rw [Lib.extract_data]; apply List.take_of_length_le; rw [List.length_drop, ← Lib.size_eq]; exact Nat.le_refl _
      have hgs : (t.extract 0 q).size = q := by rw [Lib.size_eq, hg1, List.length_take, Nat.min_eq_left (by rw [← Lib.size_eq]; exact hqt)]
      have hrs : (t.extract q t.size).size = t.size - q := by rw [Lib.size_eq, hg2, List.length_drop, ← Lib.size_eq]
      have hnext := Lib.hid (hR.out.next hqt hg1 hg2)
      have hgd : Hid (isDig (t.extract 0 q).data.toList) := Lib.hid (by rw [hg1]; exact (hR.out.dig hd.out).take q)
      have HG := fun W h => Lib.hid (addGroup_any A (dl V) c V (t.extract 0 q) W h (by omega) (by rw [hgs]; exact hq9) hgd)
      have HRS := Lib.hid hrs
      clear hg1 hg2 hrs
      generalize hVe : V * 10 ^ (t.extract 0 q).size + decVal (t.extract 0 q).data.toList = V' at HG hnext
      clear hVe
      clear hgs
      by_cases hV' : dl V' ≤ 48
      · go_wp2_with (go_at_call 90; refine ((HG _ hM).out).mono ?_; rintro e w1 ⟨A', c', rfl, hm1, hb1⟩)
        go_roundw
        case rel => exact ⟨_, V', A', c', rfl, rfl, by rw [HRS.out]; omega, hV', hm1, hnext, below_then hbel hb1⟩
        case measure => simp only [strLen]; rw [HRS.out]; omega
      · have hVb : 48 < dl V' := by omega
        clear hV'
        go_wp2_with (go_at_call 90; refine ((HG _ hM).out).mono ?_; rintro e w1 ⟨A', c', rfl, hm1, hb1⟩)
        go_ret2
        exact ⟨rfl, below_then hbel hb1⟩
end Go.Proofs.YtocoflojlliapaaDoor
