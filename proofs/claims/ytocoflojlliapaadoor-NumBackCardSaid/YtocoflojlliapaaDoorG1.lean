import Derived.Test.YtocoflojlliapaaDoorE4
import Derived.Test.YtocoflojlliapaaDoorF3
set_option linter.unusedVariables false
namespace Go.Proofs.YtocoflojlliapaaDoor
open Go.RowKit
theorem dec_7 : Lib.decDigits 7 = [55] := by rw [dec_small (by decide)]; rfl
theorem dec_1 : Lib.decDigits 1 = [49] := by rw [dec_small (by decide)]; rfl
theorem dec_4294967296 : Lib.decDigits 4294967296 = [52, 50, 57, 52, 57, 54, 55, 50, 57, 54] := by
  rw [dec_big (by decide), dec_big (by decide), dec_big (by decide), dec_big (by decide), dec_big (by decide), dec_big (by decide), dec_big (by decide), dec_big (by decide), dec_big (by decide), dec_small (by decide)]
  decide
theorem dl_7 : dl 7 = 1 := by decide
theorem dl_2 : dl 2 = 1 := by decide
/-- a number in memory is answered -/
def Ans (w : World) (neg : Bool) (N : Nat) (e : Ending) (w' : World) : Prop := ∃ A c, e = .returned (.tuple #[.agg #[.bool neg, .slice A (dl N) c], .int .i64 0]) ∧ Mag w' A (dl N) c N ∧ Below w.heap.size w w'
def Ans1 (w : World) (neg : Bool) (N : Nat) (e : Ending) (w' : World) : Prop := ∃ A c, e = .returned (.agg #[.bool neg, .slice A (dl N) c]) ∧ Mag w' A (dl N) c N ∧ Below w.heap.size w w'
theorem Num.ans {w w' : World} {e : Ending} {neg : Bool} {N : Nat} (h : Num w w' e neg N) : Ans w (signB neg N) N e w' := by
  obtain ⟨A, c, he, hf⟩ := h
  exact ⟨A, c, he, (Mag.of_fresh hf).1, (Mag.of_fresh hf).2⟩
theorem aw_parse (w : World) : Calls Tryd.prog 48 #[.string ⟨#[45, 48, 48, 55]⟩] w (Ans w true 7) := by
  have hd : ((⟨#[45, 48, 48, 55]⟩ : ByteArray).extract 1 (⟨#[45, 48, 48, 55]⟩ : ByteArray).size).data.toList = [48, 48, 55] := by rw [Lib.extract_data]; rfl
  refine (parse_ok ⟨#[45, 48, 48, 55]⟩ true _ w (by decide) (.inl ⟨rfl, rfl, rfl⟩) (by rw [hd]; simp) (by rw [hd]; intro c hc; simp at hc; rcases hc with rfl | rfl <;> decide) 7 (Lib.hid (by rw [hd]; rfl)) (by decide)).mono fun e w' h => ?_
  exact h.ans
theorem aw_plus (w : World) : Calls Tryd.prog 48 #[.string ⟨#[43]⟩] w fun e w' => e = .returned (.tuple #[.agg #[.bool false, .slice none 0 0], .int .i64 9]) ∧ Below w.heap.size w w' := by
  have hd : ((⟨#[43]⟩ : ByteArray).extract 1 (⟨#[43]⟩ : ByteArray).size).data.toList = [] := by rw [Lib.extract_data]; rfl
  exact parse_form ⟨#[43]⟩ false _ w (by decide) (.inr (.inl ⟨rfl, rfl, rfl⟩)) (Lib.hid (by rw [hd]; exact fun h => h.1 rfl))
theorem aw_of7n (w : World) : Calls Tryd.prog 32 #[.int .i64 (-7)] w (Ans1 w true 7) := by
  refine (of_neg 7 (by decide) (by decide) w).mono fun e w' ⟨A, c, he, hf⟩ => ⟨A, c, he, (Mag.of_fresh hf).1, (Mag.of_fresh hf).2⟩
theorem aw_of (x : Nat) (hx : x ≤ 9223372036854775807) (w : World) : Calls Tryd.prog 32 #[.int .i64 x] w (Ans1 w false x) := by
  refine (of_pos x hx w).mono fun e w' ⟨A, c, he, hf⟩ => ⟨A, c, ?_, (Mag.of_fresh hf).1, (Mag.of_fresh hf).2⟩
  rw [he]
  simp [signB]
theorem div_7_2 : DivSaid 7 2 := divide_limb 7 2 (by decide) (by decide) (by decide) dl_2
theorem aw_mod (A1 A2 : Option Addr) (c1 c2 : Nat) (w : World) (h1 : Mag w A1 (dl 7) c1 7) (h2 : Mag w A2 (dl 2) c2 2) :
    Calls Tryd.prog 42 #[.agg #[.bool true, .slice A1 (dl 7) c1], .agg #[.bool false, .slice A2 (dl 2) c2]] w (Ans w false 1) := by
  have e : modN true false 7 2 = 1 := by decide
  have := mod_any true false A1 A2 (dl 7) c1 7 (dl 2) c2 2 w h1 h2 (by decide) (by decide) (by decide) div_7_2 (by decide)
  rw [e] at this
  exact this.mono fun e w' h => h.ans
theorem aw_text7 (A : Option Addr) (c : Nat) (w : World) (h : Mag w A (dl 7) c 7) (ht : Tab w) : Calls Tryd.prog 46 #[.agg #[.bool true, .slice A (dl 7) c]] w fun e w' => e = .returned (.string ⟨#[45, 55]⟩) ∧ Below w.heap.size w w' := by
  have := text_groups true A (dl 7) c 7 w h (by decide) (by decide) ht
  have e : textL true 7 = [45, 55] := by simp [textL, dec_7]
  rw [e] at this
  exact this
theorem aw_text1 (A : Option Addr) (c : Nat) (w : World) (h : Mag w A (dl 1) c 1) (ht : Tab w) : Calls Tryd.prog 46 #[.agg #[.bool false, .slice A (dl 1) c]] w fun e w' => e = .returned (.string ⟨#[49]⟩) ∧ Below w.heap.size w w' := by
  have := text_groups false A (dl 1) c 1 w h (by decide) (by decide) ht
  have e : textL false 1 = [49] := by simp [textL, dec_1]
  rw [e] at this
  exact this
theorem aw_text4 (w : World) (ht : Tab w) : Calls Tryd.prog 46 #[.agg #[.bool false, .slice (some ⟨w.heap.size, 0, none⟩) 2 2]] (w.alloc (.cells #[.int .u32 0, .int .u32 1] 43)) fun e w' => e = .returned (.string ⟨#[52, 50, 57, 52, 57, 54, 55, 50, 57, 54]⟩) ∧ Below w.heap.size w w' := by
  have hm := Mag.pair w 0 1 (by decide) (by decide)
  have := text_groups false _ 2 2 _ _ hm (by decide) (by decide) (ht.alloc _)
  have e : textL false (0 + 4294967296 * 1) = [52, 50, 57, 52, 57, 54, 55, 50, 57, 54] := by simp [textL, dec_4294967296]
  rw [e] at this
  exact this.mono fun e w' ⟨he, hb⟩ => ⟨he, below_then (below_al (Below.refl _ _) _) hb⟩
theorem aw_quo (A1 A2 : Option Addr) (c1 c2 : Nat) (w : World) (h2 : Mag w A2 (dl 0) c2 0) :
    Calls Tryd.prog 40 #[.agg #[.bool false, .slice A1 (dl 7) c1], .agg #[.bool false, .slice A2 (dl 0) c2]] w fun e w' => e = .returned (.tuple #[.agg #[.bool false, .slice none 0 0], .int .i64 13]) ∧ Below w.heap.size w w' :=
  quo_zero false false A1 A2 (dl 7) c1 (dl 0) c2 w h2 (by decide)
end Go.Proofs.YtocoflojlliapaaDoor
