import Derived.Test.YtocoflojlliapaaDoorH7
import Derived.Test.YtocoflojlliapaaDoorE4
import Derived.Test.YtocoflojlliapaaDoorD5
import Derived.Test.YtocoflojlliapaaDoorL1
import Derived.SizedLaws
set_option linter.unusedVariables false
namespace Go.Proofs.YtocoflojlliapaaDoor
open Go.ChangeShapes Go.WideShapes Go.ChangeAt Go.RowKit
/-- the text of a value -/
def zText (z : Int) : List UInt8 := (if z < 0 then [45] else []) ++ Lib.decDigits z.natAbs
theorem zText_sg (r : Bool) (N : Nat) : textL r N = zText (sg r N) := by
  unfold textL zText
  by_cases h : N = 0
  · subst h
    rw [if_pos rfl, sg_zero]
    simp [dec_small (u := 0) (by decide)]
  · rw [if_neg h]
    cases r
    · rw [sg_false, if_neg (show ¬ ((N : Int) < 0) by omega)]; simp
    · rw [sg_true, if_pos (show (-(N : Int)) < 0 by omega)]; simp
theorem text_at {r : Bool} {A : Option Addr} {n c : Nat} {z : Int} (w : World) (h : NumAt w r A n c z) (hl : n ≤ 100) (ht : Tab w) :
    Calls Tryd.prog 46 #[.agg #[.bool r, .slice A n c]] w fun e w' => e = .returned (.string ⟨(zText z).toArray⟩) ∧ Below w.heap.size w w' := by
  obtain ⟨N, hm, rfl⟩ := h
  rw [← zText_sg]
  by_cases h0 : N = 0
  · subst h0
    have e : textL r 0 = [48] := if_pos rfl
    rw [e]
    exact text_zero r A n c w hm hl
  · exact text_groups r A n c N w hm hl h0 ht
theorem ten_up (a b : Nat) (h : a ≤ b) : (10 : Nat) ^ a ≤ 10 ^ b := Nat.pow_le_pow_right (by decide) h
theorem dec_len_dl (N m k : Nat) (h : dl N ≤ m) (hk : 10 * m ≤ k) : (Lib.decDigits N).length ≤ k + 1 := by
  have h1 := (dl_le N m).1 h
  have h2 : (4294967296 : Nat) ^ m ≤ (10 ^ 10) ^ m := Nat.pow_le_pow_left (by decide) m
  rw [← Nat.pow_mul] at h2
  exact dec_len_le k N (Nat.lt_of_lt_of_le h1 (Nat.le_trans h2 (ten_up _ _ (by omega))))
theorem dec_short {N : Nat} (h : dl N ≤ 48) : (Lib.decDigits N).length ≤ 481 := dec_len_dl N 48 480 h (by decide)
theorem noughts_dig (k N : Nat) : isDig (List.replicate k 48 ++ Lib.decDigits N) := by
  intro c hc
  rcases List.mem_append.1 hc with h | h
  · have := (List.mem_replicate.1 h).2
    subst this
    decide
  · exact dec_isDig N c h
theorem parse_can (s d : ByteArray) (k : Nat) (z : Int) (w : World) (hk : k ≤ 100) (hd : d.data.toList = List.replicate k 48 ++ Lib.decDigits z.natAbs) (hs : Split s (decide (z < 0)) d) (hz : s.size ≤ d.size + 1) (hfit : dl z.natAbs ≤ 48) :
    Calls Tryd.prog 48 #[.string s] w fun e w' => ∃ r A m c, e = .returned (.tuple #[.agg #[.bool r, .slice A m c], .int .i64 0]) ∧ Can w' r A m c z ∧ Below w.heap.size w w' := by
  have h1 := dec_short hfit
  have h2 := dec_len_pos z.natAbs
  have hds : d.size = k + (Lib.decDigits z.natAbs).length := by rw [Lib.size_eq, hd]; simp
  refine (parse_ok s (decide (z < 0)) d w (by rw [hds] at hz; omega) hs (by rw [hd]; intro h0; have := congrArg List.length h0; rw [List.length_append, List.length_nil] at this; omega) (by rw [hd]; exact noughts_dig k _) z.natAbs (Lib.hid (by rw [hd, decVal_noughts, decVal_dec])) hfit).mono fun e w' hq => ?_
  obtain ⟨A, c, rfl, hf⟩ := hq
  refine ⟨_, A, _, c, rfl, ⟨?_, rfl, hfit, (Mag.of_fresh hf).1⟩, hf.2⟩
  by_cases h0 : z.natAbs = 0
  · have : z = 0 := by omega
    subst this
    rfl
  · exact signB_pos _ h0
theorem of_can (x : Int) (h0 : -9223372036854775808 ≤ x) (h1 : x ≤ 9223372036854775807) (w : World) :
    Calls Tryd.prog 32 #[.int .i64 x] w fun e w' => ∃ r A m c, e = .returned (.agg #[.bool r, .slice A m c]) ∧ Can w' r A m c x ∧ Below w.heap.size w w' := by
  have hd : dl x.natAbs ≤ 48 := Nat.le_trans ((dl_le x.natAbs 2).2 (by omega)) (by decide)
  by_cases h : 0 ≤ x
  · obtain ⟨n, rfl⟩ := Int.eq_ofNat_of_zero_le h
    refine (of_pos n (by omega) w).mono fun e w' hq => ?_
    obtain ⟨A, c, rfl, hf⟩ := hq
    exact ⟨_, A, _, c, rfl, ⟨signB_sg (sg_false n), rfl, hd, (Mag.of_fresh hf).1⟩, hf.2⟩
  · obtain ⟨n, hn⟩ := Int.eq_ofNat_of_zero_le (show 0 ≤ -x by omega)
    have e : x = -(n : Int) := by omega
    subst e
    refine (of_neg n (by omega) (by omega) w).mono fun e w' hq => ?_
    obtain ⟨A, c, rfl, hf⟩ := hq
    have en : (-(n : Int)).natAbs = n := by omega
    refine ⟨_, A, _, c, rfl, ⟨signB_sg (sg_true n), by rw [en], by rw [en] at hd; exact hd, ?_⟩, hf.2⟩
    rw [en]
    exact (Mag.of_fresh hf).1
theorem norm_gives {r1 : Bool} {A1 : Option Addr} {n c1 : Nat} {z : Int} (w : World) (h : NumAt w r1 A1 n c1 z) (hl : n ≤ 35184372088832) :
    Calls Tryd.prog 21 #[.agg #[.bool r1, .slice A1 n c1]] w fun e w' => Tells w w' e z := by
  obtain ⟨N, hm, hz⟩ := h
  exact (norm_any r1 A1 n c1 N w hm hl).mono fun e w' hq => Gives.tells ⟨r1, N, hq, hz⟩
set_option maxRecDepth 100000
section
variable {H : Type} {enc : TypeId × Value → H}
theorem open_num2 {W : World} {b0 : Nat} {v : Value} {d : DataW H} {p : List MemPlace} (hv : Value.okWide Tryd.prog W .any b0 24 v) (h : DataW.Trod enc Tryd.prog W 0 (fun _ => true) true 24 v d p)
    {ts : List TypeId} {ds : List (DataW H)} {j : Nat} (hsz : (DataW.weightsEach Tryd.prog ts ds).all (· ≤ reachBytes) = true) (ht : ts[j]? = some 24) (hd : ds[j]? = some d) :
    ∃ neg A n c N, v = .agg #[.bool neg, .slice A n c] ∧ Mag W A n c N ∧ n ≤ 35184372088832 := by
  obtain ⟨v0, v1, y0, y1, m, rfl, rfl, rfl, t0, t1⟩ := Go.Joins.open_agg2 Tryd.underlying24 (by kernel_rfl) (by kernel_rfl) hv h
  obtain ⟨b, hb, hb2⟩ := DataW.trod_bool Tryd.underlying4 t0
  rcases open_ints Tryd.underlying22 Tryd.underlying43 (by kernel_rfl) t1 with ⟨hcs, hx⟩ | ⟨a, len, cap, zs, hcs, _, hl, hm, hz, hx, hc, hw⟩
  · simp at hb hcs
    subst hb hcs
    exact ⟨b, none, 0, 0, 0, rfl, Mag.none_ W, Nat.zero_le _⟩
  · simp at hb hcs
    subst hb hcs hx hb2
    have hbytes : Tryd.prog.bytesOf 43 = 4 := by kernel_rfl
    have hwt := List.all_eq_true.1 hsz _ (DataW.weights_mem_each ht hd (((lits (H := H) .u32 (zs.take len)).length + (lits (H := H) .u32 (zs.drop len)).length) * Tryd.prog.bytesOf 43) (by simp [DataW.weights, DataW.weightsEach, Tryd.underlying24, Tryd.underlying22]))
    rw [hbytes] at hwt
    simp only [decide_eq_true_eq] at hwt
    have hr := reachBytes_lt
    have hln : (lits (H := H) .u32 (zs.take len)).length = len := by simp [lits]; simp at hz; omega
    exact ⟨b, some a, len, cap, _, rfl, lim_of hl (by simpa using hz) hc hw, by omega⟩
end
end Go.Proofs.YtocoflojlliapaaDoor
