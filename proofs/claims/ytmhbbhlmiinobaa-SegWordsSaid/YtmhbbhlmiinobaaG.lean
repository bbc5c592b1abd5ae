/- seg.Give: what is dropped from the order. -/
import Derived.Test.YtmhbbhlmiinobaaF
import Derived.Lib.SliceRun
set_option linter.unusedVariables false
set_option linter.unusedSimpArgs false
namespace Go.Proofs.Ytmhbbhlmiinobaa
open Go Go.RowKit
set_option maxHeartbeats 800000
theorem eq_no (x y : Int) (P : Nat) (w : World) (h : w.cell? ⟨P, 0, none⟩ = some (.int .i64 y)) (hn : x ≠ y) :
    Calls Try.prog 33 #[.int .i64 x, .pointer (some ⟨P, 0, none⟩)] w fun e w' => e = .returned (.bool false) ∧ w = w' := by
  have hb : (x == y) = false := beq_eq_false_iff_ne.2 hn
  clear hn
  go_enter Try.func33, Try.ntmps33
  go_wp2
  go_ret
  exact ⟨rfl, rfl⟩
theorem eq_yes (x : Int) (P : Nat) (w : World) (h : w.cell? ⟨P, 0, none⟩ = some (.int .i64 x)) :
    Calls Try.prog 33 #[.int .i64 x, .pointer (some ⟨P, 0, none⟩)] w fun e w' => e = .returned (.bool true) ∧ w = w' := by
  go_enter Try.func33, Try.ntmps33
  go_wp2
  go_ret
  exact ⟨by simp, rfl⟩
theorem index_at (b c P p : Nat) (y : Int) (xs : List Nat) (w : World) (hP : w.cell? ⟨P, 0, none⟩ = some (.int .i64 y)) (hn : xs.length ≤ 1024)
    (hc : Hid (∀ (j x : Nat), xs[j]? = some x → w.cell? ⟨b, j, none⟩ = some (.int .i64 x))) (hp : p < xs.length) (hlow : Hid (∀ (j x : Nat), j < p → xs[j]? = some x → (x : Int) ≠ y)) (hat : Hid (∀ (x : Nat), xs[p]? = some x → (x : Int) = y)) :
    Calls Try.prog 41 #[.slice (some ⟨b, 0, none⟩) xs.length c, .func (.func 33) #[] #[.pointer (some ⟨P, 0, none⟩)]] w fun e w' => e = .returned (.int .i64 p) ∧ w = w' := by
  go_enter Try.func41, Try.ntmps41
  go_wp2
  go_loop [8] (fun i => ∃ j : Nat, j ≤ p ∧ i = .int .i64 j) (fun i => xs.length - (intOf i).toNat)
  case atStart => exact ⟨0, Nat.zero_le _, rfl⟩
  case round =>
    obtain ⟨j, hj, rfl⟩ := hrel
    have hjl : j < xs.length := by omega
    have hx : xs[j]? = some xs[j] := List.getElem?_eq_getElem hjl
    have hcell := hc.out j _ hx
    by_cases hlt : j < p
    · have H := Lib.hid (eq_no _ _ _ _ hP (hlow.out j _ hlt hx))
      clear hx
      go_wp2_with (go_at_call 33; refine H.out.mono ?_; rintro e w' ⟨rfl, rfl⟩)
      go_round
      case rel => exact ⟨j + 1, by omega, by go_num⟩
      case measure => simp [intOf]; omega
    · obtain rfl : j = p := by omega
      have hy := hat.out _ hx
      have H := Lib.hid (eq_yes _ _ _ (hy ▸ hP))
      clear hx hy
      go_wp2_with (go_at_call 33; refine H.out.mono ?_; rintro e w' ⟨rfl, rfl⟩)
      go_ret
      exact ⟨rfl, rfl⟩
/-- the row, when j of its numbers have been gone over -/
def Rw (xs : List Nat) (p j : Nat) : List Nat := (xs.eraseIdx p).take (j - 1) ++ xs.drop (j - 1)
theorem rw_start {xs : List Nat} {p : Nat} (hp : p < xs.length) : Rw xs p (p + 1) = xs := by
  unfold Rw
  rw [Nat.add_sub_cancel, List.eraseIdx_eq_take_drop_succ, List.take_append_of_le_length (by simp; omega), List.take_take, Nat.min_self, List.take_append_drop]
theorem erase_get {xs : List Nat} {p j : Nat} (h : p < j) : (xs.eraseIdx p)[j - 1]? = xs[j]? := by
  rw [List.getElem?_eraseIdx, if_neg (by omega)]; congr 1; omega
theorem rw_len {xs : List Nat} {p j : Nat} (hp : p < j) (hj : j ≤ xs.length) : (Rw xs p j).length = xs.length := by
  unfold Rw
  have : (xs.eraseIdx p).length = xs.length - 1 := List.length_eraseIdx_of_lt (by omega)
  simp only [List.length_append, List.length_take, List.length_drop]; omega
theorem rw_next {xs : List Nat} {p j x : Nat} (hp : p < j) (hx : xs[j]? = some x) : (Rw xs p j).set (j - 1) x = Rw xs p (j + 1) := by
  have hj : j < xs.length := (List.getElem?_eq_some_iff.1 hx).1
  have hl : (xs.eraseIdx p).length = xs.length - 1 := List.length_eraseIdx_of_lt (by omega)
  have ht : ((xs.eraseIdx p).take (j - 1)).length = j - 1 := by rw [List.length_take]; omega
  unfold Rw
  rw [List.set_append_right _ _ (by omega), ht, Nat.sub_self, Nat.add_sub_cancel]
  have hd : xs.drop (j - 1) = xs[j - 1] :: xs.drop j := by
    rw [List.drop_eq_getElem_cons (by omega)]; congr 2; omega
  rw [hd, List.set_cons_zero]
  have he : (xs.eraseIdx p)[j - 1]? = some x := by rw [erase_get hp, hx]
  have htk : (xs.eraseIdx p).take j = (xs.eraseIdx p).take (j - 1) ++ [x] := by
    have := List.take_add_one (l := xs.eraseIdx p) (i := j - 1)
    rw [Nat.sub_add_cancel (by omega), he] at this
    exact this
  rw [htk, List.append_assoc]; rfl
theorem rw_get {xs : List Nat} {p j x : Nat} (hp : p < j) (hx : xs[j]? = some x) : (Rw xs p j)[j]? = some x := by
  have hj : j < xs.length := (List.getElem?_eq_some_iff.1 hx).1
  have hl : (xs.eraseIdx p).length = xs.length - 1 := List.length_eraseIdx_of_lt (by omega)
  have ht : ((xs.eraseIdx p).take (j - 1)).length = j - 1 := by rw [List.length_take]; omega
  unfold Rw
  rw [List.getElem?_append_right (by omega), ht, List.getElem?_drop, show j - 1 + (j - (j - 1)) = j from by omega, hx]
theorem ints_get {xs : List Nat} {j x : Nat} (hx : xs[j]? = some x) : (ints xs)[j]? = some (.int .i64 x) := by simp [ints, hx]
theorem ints_len (xs : List Nat) : (ints xs).length = xs.length := by simp [ints]
theorem ints_set (xs : List Nat) (j x : Nat) : (ints xs).set j (.int .i64 x) = ints (xs.set j x) := by simp [ints, List.map_set]
structure DInv (w : World) (b c p : Nat) (xs : List Nat) (j : Nat) (wr : World) : Prop where
  row : wr.ownsRow 0 3 1 (.slice (some ⟨b, 0, none⟩) xs.length c) xs.length (ints (Rw xs p j))
  keep : Keep (fun k => k ≠ b) w wr
theorem DInv.cell {w wr : World} {b c p j : Nat} {xs : List Nat} (h : DInv w b c p xs j wr) {i x : Nat} (hx : (Rw xs p j)[i]? = some x) (hi : i < xs.length) : wr.cell? ⟨b, i, none⟩ = some (.int .i64 x) := by
  rw [h.row.cellAt i (by omega)]; exact ints_get hx
theorem DInv.store {w wr : World} {b c p j x : Nat} {xs : List Nat} (h : DInv w b c p xs j wr) (hp : p < j) (hx : xs[j]? = some x) : DInv w b c p xs (j + 1) (wr.setCell ⟨b, j - 1, none⟩ (.int .i64 x)) := by
  have := (h.row.stored (j - 1) (.int .i64 x)).1
  rw [ints_set, rw_next hp hx] at this
  exact ⟨this, h.keep.setCell _ (Or.inl (by simp))⟩
theorem own_cap {w : World} {base : Nat} {e : TypeId} {size g n c : Nat} {xs : List Value} (h : w.ownsRow base e size (.slice (some ⟨g, 0, none⟩) n c) n xs) : n ≤ c := by
  rcases h.2 with ⟨h', _⟩ | ⟨g', cap', cur, h', _, _, h1, _⟩
  · simp at h'
  · simp only [Value.slice.injEq, Option.some.injEq, Addr.mk.injEq, and_true, true_and] at h'
    obtain ⟨rfl, rfl⟩ := h'
    exact h1
theorem own_take {w : World} {base : Nat} {e : TypeId} {size g n c k : Nat} {xs : List Value} (h : w.ownsRow base e size (.slice (some ⟨g, 0, none⟩) n c) n xs) (hk : k ≤ n) : w.ownsRow base e size (.slice (some ⟨g, 0, none⟩) k c) k (xs.take (k * size)) := by
  have hl := h.1
  have hm : k * size ≤ n * size := Nat.mul_le_mul_right _ hk
  refine ⟨by rw [List.length_take]; omega, ?_⟩
  rcases h.2 with ⟨h', _⟩ | ⟨g', cap', cur, h', h0, h1, h2, h3, h4, h5⟩
  · simp at h'
  · simp only [Value.slice.injEq, Option.some.injEq, Addr.mk.injEq, and_true, true_and] at h'
    obtain ⟨rfl, rfl⟩ := h'
    exact .inr ⟨g, c, cur, rfl, h0, h1, by omega, h3, h4, by rw [← h5, List.take_take, Nat.min_eq_left hm]⟩
theorem zero3 (w : World) : (zeroValue 3).run Try.prog w = .ok (.int .i64 0) w := by kernel_rfl
theorem DInv.end {w V : World} {b c p : Nat} {xs : List Nat} (h : DInv w b c p xs xs.length V) (hp : p < xs.length) :
    (Builtin.clear_ #[43] 0 #[.slice (some ⟨b, xs.length - 1, none⟩) (xs.length - (xs.length - 1)) (c - (xs.length - 1))]).run Try.prog V = .ok (.tuple #[]) (V.setCells b (xs.length - 1) (List.replicate (xs.length - (xs.length - 1)) (.int .i64 0))) ∧
    (V.setCells b (xs.length - 1) (List.replicate (xs.length - (xs.length - 1)) (.int .i64 0))).ownsRow 0 3 1 (.slice (some ⟨b, 0, none⟩) (xs.length - 1) c) (xs.length - 1) (ints (xs.eraseIdx p)) ∧
    Keep (fun k => k ≠ b) w (V.setCells b (xs.length - 1) (List.replicate (xs.length - (xs.length - 1)) (.int .i64 0))) := by
  have e1 : xs.length - (xs.length - 1) = 1 := by omega
  have hl : (Rw xs p xs.length).length = xs.length := rw_len hp (Nat.le_refl _)
  refine ⟨?_, ?_, keep_setCells (by simp) _ _ _ _ h.keep⟩
  · refine Lib.run_clear_slice V 43 3 0 (.int .i64 0) Try.under43 zero3 rfl rfl b (xs.length - 1) _ _ (by omega) (fun j hj => ?_) (fun j hj => h.row.frozenAt _)
    obtain ⟨old, hold⟩ : ∃ old, (Rw xs p xs.length)[xs.length - 1 + j]? = some old := ⟨_, List.getElem?_eq_getElem (by omega)⟩
    rw [h.cell hold (by omega)]; rfl
  · rw [e1]
    have h1 := own_setCells [.int .i64 0] (xs.length - 1) V _ h.row (by rw [ints_len, hl]; simp; omega)
    have h2 := own_take h1 (k := xs.length - 1) (by omega)
    have e2 : ints (xs.eraseIdx p) = (List.take (xs.length - 1) (ints (Rw xs p xs.length)) ++ [Value.int IntKind.i64 0] ++ List.drop (xs.length - 1 + [Value.int IntKind.i64 0].length) (ints (Rw xs p xs.length))).take ((xs.length - 1) * 1) := by
      have hle : (xs.eraseIdx p).length = xs.length - 1 := List.length_eraseIdx_of_lt (by omega)
      rw [Nat.mul_one, List.append_assoc, List.take_append_of_le_length (by rw [List.length_take, ints_len, hl]; omega), List.take_take, Nat.min_self]
      unfold Rw ints
      rw [← List.map_take, List.take_append_of_le_length (by rw [List.length_take]; omega), List.take_take, Nat.min_self, List.take_of_length_le (by omega)]
    rw [e2]
    exact h2
set_option maxHeartbeats 1600000 in
theorem delete_at (b c P p : Nat) (y : Int) (xs : List Nat) (w : World) (ho : w.ownsRow 0 3 1 (.slice (some ⟨b, 0, none⟩) xs.length c) xs.length (ints xs)) (hP : w.cell? ⟨P, 0, none⟩ = some (.int .i64 y)) (hPb : P ≠ b) (hn : xs.length ≤ 1024)
    (hp : p < xs.length) (hlow : Hid (∀ (j x : Nat), j < p → xs[j]? = some x → (x : Int) ≠ y)) (hat : Hid (∀ (x : Nat), xs[p]? = some x → (x : Int) = y)) (hup : Hid (∀ (j x : Nat), p < j → xs[j]? = some x → (x : Int) ≠ y)) :
    Calls Try.prog 32 #[.slice (some ⟨b, 0, none⟩) xs.length c, .func (.func 33) #[] #[.pointer (some ⟨P, 0, none⟩)]] w fun e w' => e = .returned (.slice (some ⟨b, 0, none⟩) (xs.length - 1) c) ∧ w'.ownsRow 0 3 1 (.slice (some ⟨b, 0, none⟩) (xs.length - 1) c) (xs.length - 1) (ints (xs.eraseIdx p)) ∧ Keep (fun k => k ≠ b) w w' := by
  have HX := Lib.hid (index_at b c P p y xs w hP hn (Lib.hid (fun j x hx => by rw [ho.cellAt j (by have := (List.getElem?_eq_some_iff.1 hx).1; omega)]; exact ints_get hx)) hp hlow hat)
  have HI : Hid (DInv w b c p xs (p + 1) w) := Lib.hid ⟨by rw [rw_start hp]; exact ho, Keep.refl _ _⟩
  have HP := Lib.hid hP
  have hpm : ((p : Int) == -1) = false := beq_eq_false_iff_ne.2 (by omega)
  clear ho hP
  go_enter Try.func32, Try.ntmps32
  go_wp2_with (go_at_call 41; refine HX.out.mono ?_; rintro e w' ⟨rfl, rfl⟩)
  go_loopw [5, 6] (fun i jv wr => ∃ j : Nat, p < j ∧ j ≤ xs.length ∧ i = .int .i64 (j - 1 : Nat) ∧ jv = .int .i64 j ∧ Hid (DInv w b c p xs j wr)) (fun _ jv _ => xs.length - (intOf jv).toNat)
  case atStart => exact ⟨p + 1, by omega, by omega, rfl, rfl, HI⟩
  case round =>
    obtain ⟨j, hpj, hj, rfl, rfl, hI⟩ := hrel
    obtain ⟨V, hV⟩ : ∃ V, V = wr := ⟨_, rfl⟩
    rw [← hV] at hI ⊢
    clear hV
    by_cases hlt : j < xs.length
    · have hx : xs[j]? = some xs[j] := List.getElem?_eq_getElem hlt
      have hI' := hI.out
      have c1 := hI'.cell (rw_get hpj hx) hlt
      obtain ⟨old, hold⟩ : ∃ old, (Rw xs p j)[j - 1]? = some old := ⟨_, List.getElem?_eq_getElem (by rw [rw_len hpj hj]; omega)⟩
      have c2 := hI'.cell hold (by omega)
      have f2 := hI'.row.frozenAt (j - 1)
      have hPc : V.cell? ⟨P, 0, none⟩ = some (.int .i64 y) := hI'.keep.cell (p := ⟨P, 0, none⟩) hPb HP.out
      have H := Lib.hid (eq_no _ _ _ _ hPc (hup.out j _ hpj hx))
      have HN := Lib.hid (hI'.store hpj hx)
      clear hx hold hI'
      go_wp2_with (go_at_call 33; refine H.out.mono ?_; rintro e w' ⟨rfl, rfl⟩)
      go_roundw
      case rel => exact ⟨j + 1, by omega, by omega, by go_num, by go_num, HN⟩
      case measure => simp [intOf]; omega
    · obtain rfl : j = xs.length := by omega
      have hE := hI.out.end hpj
      have hcl := hE.1
      have HE := Lib.hid hE.2
      have hcap : xs.length ≤ c := own_cap hI.out.row
      have hc1 : ¬ c = xs.length - 1 := by omega
      clear hE
      generalize V.setCells b (xs.length - 1) (List.replicate (xs.length - (xs.length - 1)) (.int .i64 0)) = X at hcl HE
      go_wp2
      go_ret
      exact ⟨rfl, HE.out.1, HE.out.2⟩
end Go.Proofs.Ytmhbbhlmiinobaa
