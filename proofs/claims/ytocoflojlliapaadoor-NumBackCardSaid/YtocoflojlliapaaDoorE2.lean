import Derived.Test.YtocoflojlliapaaDoorE1
set_option linter.unusedVariables false
namespace Go.Proofs.YtocoflojlliapaaDoor
open Go.RowKit
theorem Mag.one (w : World) (a : Nat) (ha : a < 4294967296) : Mag (w.alloc (.cells #[.int .u32 a] 43)) (some ⟨w.heap.size, 0, none⟩) 1 1 a := by
  refine ⟨[a], Nums.lim (t := 43) ?_, Low.cons ha Low.nil, rfl, by simp [val], Nat.le_refl _⟩
  exact Nums.made w 43 .u32 [a]
theorem plus_short (A1 A2 : Option Addr) (n1 n2 c1 c2 a b : Nat) (w : World) (h1 : Mag w A1 n1 c1 a) (h2 : Mag w A2 n2 c2 b) (l1 : n1 ≤ 1000000) (l2 : n2 ≤ n1) :
    Calls Tryd.prog 80 #[.slice A1 n1 c1, .slice A2 n2 c2] w fun e w' => e = .returned (.slice (some ⟨w.heap.size, 0, none⟩) (n1 + 1) (n1 + 1)) ∧ Mag w' (some ⟨w.heap.size, 0, none⟩) (n1 + 1) (n1 + 1) (a + b) ∧ Below w.heap.size w w' := by
  have := plus_mag A1 A2 n1 n2 c1 c2 a b w h1 h2 l1 (by omega)
  rw [Nat.max_eq_left l2] at this
  exact this
/-- a part of a row of digits -/
def Pt (l : List UInt8) (k f v : Nat) : Prop := f = 10 ^ k ∧ v = decVal (l.take k)
theorem decVal_lt : ∀ (l : List UInt8), isDig l → decVal l < 10 ^ l.length := by
  intro l
  induction hn : l.length generalizing l with
  | zero =>
    intro _
    have : l = [] := List.length_eq_zero_iff.1 hn
    subst this
    simp [decVal]
  | succ n ih =>
    intro hd
    have hne : l ≠ [] := fun h => by simp [h] at hn
    have e : l = l.dropLast ++ [l.getLast hne] := (List.dropLast_concat_getLast hne).symm
    have h1 := ih l.dropLast (by simp [hn]) (fun c hc => hd c (List.dropLast_subset l hc))
    have h2 := hd (l.getLast hne) (List.getLast_mem hne)
    rw [e, decVal_snoc, Nat.pow_succ]
    omega
theorem isDig.take {l : List UInt8} (h : isDig l) (k : Nat) : isDig (l.take k) := fun c hc => h c (List.mem_of_mem_take hc)
theorem isDig.drop {l : List UInt8} (h : isDig l) (k : Nat) : isDig (l.drop k) := fun c hc => h c (List.mem_of_mem_drop hc)
theorem Pt.bd {l : List UInt8} {k f v : Nat} (h : Pt l k f v) (hd : isDig l) (hk : k ≤ l.length) : v < f := by
  obtain ⟨rfl, rfl⟩ := h
  have := decVal_lt (l.take k) (hd.take k)
  rwa [List.length_take, Nat.min_eq_left hk] at this
theorem Pt.next {l : List UInt8} {k f v : Nat} (h : Pt l k f v) (hk : k < l.length) {x : Nat} (hx : (l[k]).toNat = x) : Pt l (k + 1) (f * 10) (v * 10 + (x - 48)) := by
  obtain ⟨rfl, rfl⟩ := h
  refine ⟨by rw [Nat.pow_succ], ?_⟩
  rw [List.take_succ_eq_append_getElem hk, decVal_snoc, hx]
theorem ten_le {k : Nat} (h : k ≤ 8) : (10 : Nat) ^ k ≤ 100000000 := Nat.pow_le_pow_right (n := 10) (by decide) h
set_option maxHeartbeats 1600000 in
theorem addGroup_any (A : Option Addr) (n c M : Nat) (s : ByteArray) (w : World) (hm : Mag w A n c M) (hn : n ≤ 1000) (hs : s.size ≤ 9) (hd : Hid (isDig s.data.toList)) :
    Calls Tryd.prog 90 #[.slice A n c, .string s] w fun e w' => ∃ A' c', e = .returned (.slice A' (dl (M * 10 ^ s.size + decVal s.data.toList)) c') ∧ Mag w' A' (dl (M * 10 ^ s.size + decVal s.data.toList)) c' (M * 10 ^ s.size + decVal s.data.toList) ∧ Below w.heap.size w w' := by
  go_enter Tryd.func90, Tryd.ntmps90
  go_wp2
  go_loop [5, 6, 10] (fun fv vv i => ∃ k f v : Nat, k ≤ s.size ∧ i = .int .i64 k ∧ fv = .int .u32 f ∧ vv = .int .u32 v ∧ Hid (Pt s.data.toList k f v)) (fun _ _ i => s.size - (intOf i).toNat)
  case atStart => exact ⟨0, 1, 0, Nat.zero_le _, rfl, rfl, rfl, Lib.hid ⟨rfl, by simp [decVal]⟩⟩
  case round =>
    obtain ⟨k, f, v, hk, rfl, rfl, rfl, hP⟩ := hrel
    have hsz : Hid (s.data.toList.length = s.size) := Lib.hid (Lib.size_eq s).symm
    have hvf : v < f := hP.out.bd hd.out (by rw [hsz.out]; exact hk)
    by_cases hlt : k < s.size
    · have hf : f ≤ 100000000 := by
        rw [hP.out.1]
        exact ten_le (by omega)
      have hx : 48 ≤ (s[k]).toNat ∧ (s[k]).toNat ≤ 57 := hd.out _ (by simp [ByteArray.getElem_eq_getElem_data])
      have hN := Lib.hid (hP.out.next (k := k) (by rw [hsz.out]; exact hlt) (x := (s[k]).toNat) (by simp [ByteArray.getElem_eq_getElem_data]))
      have h2 := hx.1
      have h3 := hx.2
      clear hx
      go_wp2
      all_goals
        go_round
        case rel => exact ⟨k + 1, f * 10, v * 10 + ((s[k]).toNat - 48), by omega, by go_num, by go_num, by go_num, hN⟩
        case measure => simp [intOf]; omega
    · obtain rfl : s.size = k := by omega
      have hf : f ≤ 1000000000 := by
        rw [hP.out.1]
        exact Nat.pow_le_pow_right (n := 10) (by decide) hs
      have hfe : Hid (f = 10 ^ s.size) := Lib.hid hP.out.1
      have hve : Hid (v = decVal s.data.toList) := Lib.hid (by
        have := hP.out.2
        rwa [List.take_of_length_le (by rw [hsz.out]; exact Nat.le_refl _)] at this)
      clear hP
      have hM1 := hm.alloc (.cells #[.int .u32 f] 43)
      have hO1 := Mag.one w f (by omega)
      go_wp2_with (first
        | (go_at_call 61; refine (times_mag A (some ⟨w.heap.size, 0, none⟩) n 1 c 1 M f _ hM1 hO1 (by omega) (by omega)).mono ?_; rintro e w1 ⟨rfl, hm1, hb1⟩; simp only [World.size_alloc] at hm1)
        | (go_at_call 80; refine (plus_short _ (some ⟨w1.heap.size, 0, none⟩) (n + 1) 1 (n + 1) 1 (M * f) v _ (hm1.alloc _) (Mag.one w1 v (by omega)) (by omega) (by omega)).mono ?_; rintro e w2 ⟨rfl, hm2, hb2⟩; simp only [World.size_alloc] at hm2)
        | (go_at_call 54; refine (trim_mag _ _ _ (M * f + v) _ hm2 (by omega)).mono ?_; rintro e w3 ⟨rfl, rfl⟩))
      go_ret
      rw [← hve.out, ← hfe.out]
      exact ⟨_, _, rfl, hm2.trim, below_then (below_then (below_al (Below.refl _ _) _) hb1) (below_then (below_al (Below.refl _ _) _) hb2)⟩
end Go.Proofs.YtocoflojlliapaaDoor
