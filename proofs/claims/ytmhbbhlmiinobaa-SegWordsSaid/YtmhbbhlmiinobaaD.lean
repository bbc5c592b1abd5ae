/- seg.Read, Write, Bump, Mark: on a memory. -/
import Derived.Test.YtmhbbhlmiinobaaC
set_option linter.unusedVariables false
namespace Go.Proofs.Ytmhbbhlmiinobaa
open Go Go.RowKit
set_option maxHeartbeats 400000
def M.put (m : M) (i : Nat) (s : Sg) : M := { m with S := m.S.set i s }
theorem M.put_ok {m : M} (h : m.Ok) {i : Nat} {s s' : Sg} (hi : m.S[i]? = some s) (hs : s'.Ok) (ht : s'.t = s.t) : (m.put i s').Ok := by
  have hl := get_lt hi
  have key : ∀ (j : Nat) x, (m.S.set i s')[j]? = some x → ∃ y, m.S[j]? = some y ∧ y.t = x.t := by
    intro j x hx
    rw [List.getElem?_set] at hx
    split at hx
    · rename_i e
      subst e
      cases hx
      exact ⟨s, hi, ht.symm⟩
    · exact ⟨x, hx, rfl⟩
  have key2 : ∀ (j : Nat) y, m.S[j]? = some y → ∃ x, (m.S.set i s')[j]? = some x ∧ x.t = y.t := by
    intro j y hy
    rw [List.getElem?_set]
    split
    · rename_i e
      subst e
      rw [hi] at hy
      cases hy
      exact ⟨s', rfl, ht⟩
    · exact ⟨y, hy, rfl⟩
  refine ⟨by simpa [M.put] using h.lo, by simpa [M.put] using h.hi, h.all.set hs, by simpa [M.put] using h.l, ?_, h.nd, ?_, ?_⟩
  · intro j x hj hx
    obtain ⟨y, hy, e⟩ := key j x hx
    exact e ▸ h.tk j y hj hy
  · intro j
    rw [show (m.put i s').o = m.o from rfl, h.mem j]
    constructor
    · rintro ⟨y, hy, e⟩
      obtain ⟨x, hx, e'⟩ := key2 j y hy
      exact ⟨x, hx, e'.trans e⟩
    · rintro ⟨x, hx, e⟩
      obtain ⟨y, hy, e'⟩ := key j x hx
      exact ⟨y, hy, e'.trans e⟩
  · have := cntT_set (s' := s') hi
    rw [ht] at this
    rw [show (m.put i s').o = m.o from rfl, h.cnt]
    simp only [M.put]; omega
/-- A contract's end: the memory is m' now; but for it all is as it was. -/
def Now (own : Nat → Prop) (mb : Nat) (m' : M) (w w' : World) : Prop := MemAt w' own mb m' ∧ Keep (fun k => ¬ own k) w w'
theorem Now.same {own : Nat → Prop} {mb : Nat} {m : M} {w w' : World} (h : MemAt w own mb m) (hb : Below w.heap.size w w') : Now own mb m w w' := ⟨h.kept (Keep.any hb), Keep.any hb⟩
section
variable {w : World} {own : Nat → Prop} {mb sb cp : Nat} {v : Value} {m : M}
theorem read_yes (h : MemAt w own mb m) {a : Int} {i : Nat} {s : Sg} {x : Int} (hu : Used m a i s) (hx : s.ws[(a % 64).toNat]? = some x) :
    Calls Try.prog 18 #[.pointer (some ⟨mb, 0, none⟩), .int .i64 a] w fun e w' => e = .returned (.tuple #[.int .u64 x, .int .i64 0]) ∧ w = w' := by
  obtain ⟨hk, sb, cp, v, h⟩ := h
  have hc : w.cell? ⟨sb, i * 72 + 8 + (a % 64).toNat, none⟩ = some (.int .u64 x) := by
    rw [Nat.add_assoc]
    exact h.seg hk hu.2.2.1.1 (by omega) (Sg.atW (hk.all.get hu.2.2.1.1) hx)
  have H := Lib.hid (word_yes h hk hu)
  go_enter Try.func18, Try.ntmps18
  go_wp2_with (go_at_call 30; refine H.out.mono ?_; rintro e w' ⟨rfl, rfl⟩)
  go_ret2
  exact ⟨rfl, rfl⟩
theorem read_no (h : MemAt w own mb m) {a : Int} (hb : a ≤ 9223372036854775807) (hu : ∀ i s, ¬ Used m a i s) :
    Calls Try.prog 18 #[.pointer (some ⟨mb, 0, none⟩), .int .i64 a] w fun e w' => e = .returned (.tuple #[.int .u64 0, .int .i64 18]) ∧ w = w' := by
  obtain ⟨hk, sb, cp, v, h⟩ := h
  have H := Lib.hid (word_no h hk hb hu)
  clear hu
  go_enter Try.func18, Try.ntmps18
  go_wp2_with (go_at_call 30; refine H.out.mono ?_; rintro e w' ⟨rfl, rfl⟩)
  go_ret2
  exact ⟨rfl, rfl⟩
theorem read_nil {a : Int} (hb : -9223372036854775808 ≤ a ∧ a ≤ 9223372036854775807) :
    Calls Try.prog 18 #[.pointer none, .int .i64 a] w fun e w' => e = .returned (.tuple #[.int .u64 0, .int .i64 18]) ∧ w = w' := by
  have H := Lib.hid (word_nil a w hb)
  go_enter Try.func18, Try.ntmps18
  go_wp2_with (go_at_call 30; refine H.out.mono ?_; rintro e w' ⟨rfl, rfl⟩)
  go_ret2
  exact ⟨rfl, rfl⟩
def Sg.write (s : Sg) (a x : Int) : Sg := { s with ws := s.ws.set (a % 64).toNat x }
theorem Sg.write_ok {s : Sg} (h : s.Ok) (a x : Int) (ha : a % 64 < s.n) : (s.write a x).Ok := by
  refine ⟨h.c, by simpa [Sg.write] using h.ws, h.n, h.g, h.k, fun j y hj hy => ?_⟩
  simp only [Sg.write] at hj hy
  rw [List.getElem?_set_ne (by omega)] at hy
  exact h.z j y hj hy
theorem write_yes (h : MemAt w own mb m) {a : Int} {i : Nat} {s : Sg} (hu : Used m a i s) (x : Int) :
    Calls Try.prog 14 #[.pointer (some ⟨mb, 0, none⟩), .int .i64 a, .int .u64 x] w fun e w' => e = .returned (.int .i64 0) ∧ Now own mb (m.put i (s.write a x)) w w' := by
  obtain ⟨hk, sb, cp, v, h⟩ := h
  have ho := hk.all.get hu.2.2.1.1
  have hj : (a % 64).toNat < s.ws.length := by have := ho.ws; omega
  have hc : w.cell? ⟨sb, i * 72 + 8 + (a % 64).toNat, none⟩ = some (.int .u64 s.ws[(a % 64).toNat]) := by
    rw [Nat.add_assoc]
    exact h.seg hk hu.2.2.1.1 (by omega) (Sg.atW ho (List.getElem?_eq_getElem hj))
  have hf := h.sfree (i * 72 + 8 + (a % 64).toNat)
  have hput := h.put hk hu.2.2.1.1 (j := 8 + (a % 64).toNat) (s' := s.write a x) (by omega) (Sg.setW ho x)
  rw [← Nat.add_assoc] at hput
  have Hn : Hid (Now own mb (m.put i (s.write a x)) w (w.setCell ⟨sb, i * 72 + 8 + (a % 64).toNat, none⟩ (.int .u64 x))) :=
    Lib.hid ⟨⟨M.put_ok hk hu.2.2.1.1 (Sg.write_ok ho a x hu.2.2.2) rfl, sb, cp, v, hput⟩, (Keep.refl _ _).setCell _ (Or.inl (by simpa using h.w2))⟩
  have H := Lib.hid (word_yes h hk hu)
  clear hput
  go_enter Try.func14, Try.ntmps14
  go_wp2_with (go_at_call 30; refine H.out.mono ?_; rintro e w' ⟨rfl, rfl⟩)
  go_ret
  exact ⟨rfl, Hn.out⟩
theorem write_no (h : MemAt w own mb m) {a : Int} (hb : a ≤ 9223372036854775807) (hu : ∀ i s, ¬ Used m a i s) (x : Int) :
    Calls Try.prog 14 #[.pointer (some ⟨mb, 0, none⟩), .int .i64 a, .int .u64 x] w fun e w' => e = .returned (.int .i64 18) ∧ w = w' := by
  obtain ⟨hk, sb, cp, v, h⟩ := h
  have H := Lib.hid (word_no h hk hb hu)
  clear hu
  go_enter Try.func14, Try.ntmps14
  go_wp2_with (go_at_call 30; refine H.out.mono ?_; rintro e w' ⟨rfl, rfl⟩)
  go_ret
  exact ⟨rfl, rfl⟩
theorem write_nil {a : Int} (hb : -9223372036854775808 ≤ a ∧ a ≤ 9223372036854775807) (x : Int) :
    Calls Try.prog 14 #[.pointer none, .int .i64 a, .int .u64 x] w fun e w' => e = .returned (.int .i64 18) ∧ w = w' := by
  have H := Lib.hid (word_nil a w hb)
  go_enter Try.func14, Try.ntmps14
  go_wp2_with (go_at_call 30; refine H.out.mono ?_; rintro e w' ⟨rfl, rfl⟩)
  go_ret
  exact ⟨rfl, rfl⟩
def Sg.bump (s : Sg) (n : Nat) : Sg := { s with n := s.n + n }
theorem bump_none (h : MemAt w own mb m) {i n : Int} (hi : ∀ (j : Nat) s, i = (j : Int) → ¬ Has m j s) :
    Calls Try.prog 17 #[.pointer (some ⟨mb, 0, none⟩), .int .i64 i, .int .i64 n] w fun e w' => e = .returned (.tuple #[.int .i64 0, .int .i64 19]) ∧ w = w' := by
  obtain ⟨hk, sb, cp, v, h⟩ := h
  have H := Lib.hid (find_no h hk hi)
  clear hi
  go_enter Try.func17, Try.ntmps17
  go_wp2_with (go_at_call 31; refine H.out.mono ?_; rintro e w' ⟨rfl, rfl⟩)
  go_ret2
  exact ⟨rfl, rfl⟩
theorem bump_nil {i n : Int} :
    Calls Try.prog 17 #[.pointer none, .int .i64 i, .int .i64 n] w fun e w' => e = .returned (.tuple #[.int .i64 0, .int .i64 19]) ∧ w = w' := by
  have H := Lib.hid (find_nil i w)
  go_enter Try.func17, Try.ntmps17
  go_wp2_with (go_at_call 31; refine H.out.mono ?_; rintro e w' ⟨rfl, rfl⟩)
  go_ret2
  exact ⟨rfl, rfl⟩
theorem bump_arg (h : MemAt w own mb m) {i : Nat} {s : Sg} {n : Int} (hi : Has m i s) (hn : n < 1) :
    Calls Try.prog 17 #[.pointer (some ⟨mb, 0, none⟩), .int .i64 i, .int .i64 n] w fun e w' => e = .returned (.tuple #[.int .i64 0, .int .i64 1]) ∧ w = w' := by
  obtain ⟨hk, sb, cp, v, h⟩ := h
  have H := Lib.hid (find_yes h hk hi)
  go_enter Try.func17, Try.ntmps17
  go_wp2_with (go_at_call 31; refine H.out.mono ?_; rintro e w' ⟨rfl, rfl⟩)
  go_ret2
  exact ⟨rfl, rfl⟩
theorem bump_full (h : MemAt w own mb m) {i : Nat} {s : Sg} {n : Int} (hi : Has m i s) (hn : 64 - (s.n : Int) < n) :
    Calls Try.prog 17 #[.pointer (some ⟨mb, 0, none⟩), .int .i64 i, .int .i64 n] w fun e w' => e = .returned (.tuple #[.int .i64 0, .int .i64 2]) ∧ w = w' := by
  obtain ⟨hk, sb, cp, v, h⟩ := h
  have H := Lib.hid (find_yes h hk hi)
  have hc := h.seg2 hk hi.1
  have h1 := (hk.all.get hi.1).n
  have h2 : 1 ≤ n := by omega
  go_enter Try.func17, Try.ntmps17
  go_wp2_with (go_at_call 31; refine H.out.mono ?_; rintro e w' ⟨rfl, rfl⟩)
  go_ret2
  exact ⟨rfl, rfl⟩
theorem bump_yes (h : MemAt w own mb m) {i : Nat} {s : Sg} {n : Nat} (hi : Has m i s) (h1 : 1 ≤ n) (hn : s.n + n ≤ 64) :
    Calls Try.prog 17 #[.pointer (some ⟨mb, 0, none⟩), .int .i64 i, .int .i64 n] w fun e w' => e = .returned (.tuple #[.int .i64 (i * 64 + s.n), .int .i64 0]) ∧ Now own mb (m.put i (s.bump n)) w w' := by
  obtain ⟨hk, sb, cp, v, h⟩ := h
  have H := Lib.hid (find_yes h hk hi)
  have hc := h.seg2 hk hi.1
  have hl := get_lt hi.1
  have hl2 := hk.hi
  have ho := hk.all.get hi.1
  have hf := h.sfree (i * 72 + 2)
  have hput := h.put hk hi.1 (j := 2) (s' := s.bump n) (by omega) (Sg.setN s (s.n + n))
  have Hn : Hid (Now own mb (m.put i (s.bump n)) w (w.setCell ⟨sb, i * 72 + 2, none⟩ (.int .i64 ((s.n + n : Nat) : Int)))) :=
    Lib.hid ⟨⟨M.put_ok hk hi.1 ⟨ho.c, ho.ws, hn, ho.g, ho.k, fun j x hj hx => ho.z j x (by simp only [Sg.bump] at hj; omega) hx⟩ rfl, sb, cp, v, hput⟩, (Keep.refl _ _).setCell _ (Or.inl (by simpa using h.w2))⟩
  clear hput
  go_enter Try.func17, Try.ntmps17
  go_wp2_with (go_at_call 31; refine H.out.mono ?_; rintro e w' ⟨rfl, rfl⟩)
  go_ret2
  exact ⟨rfl, by have := Hn.out; simpa using this⟩
def Sg.mark (s : Sg) (c : Nat) (x : Int) : Sg := { s with c := s.c.set c x }
theorem mark_none (h : MemAt w own mb m) {i c x : Int} (hi : ∀ (j : Nat) s, i = (j : Int) → ¬ Has m j s) :
    Calls Try.prog 20 #[.pointer (some ⟨mb, 0, none⟩), .int .i64 i, .int .i64 c, .int .i64 x] w fun e w' => e = .returned (.int .i64 19) ∧ w = w' := by
  obtain ⟨hk, sb, cp, v, h⟩ := h
  have H := Lib.hid (find_no h hk hi)
  clear hi
  go_enter Try.func20, Try.ntmps20
  go_wp2_with (go_at_call 31; refine H.out.mono ?_; rintro e w' ⟨rfl, rfl⟩)
  go_ret
  exact ⟨rfl, rfl⟩
theorem mark_nil {i c x : Int} :
    Calls Try.prog 20 #[.pointer none, .int .i64 i, .int .i64 c, .int .i64 x] w fun e w' => e = .returned (.int .i64 19) ∧ w = w' := by
  have H := Lib.hid (find_nil i w)
  go_enter Try.func20, Try.ntmps20
  go_wp2_with (go_at_call 31; refine H.out.mono ?_; rintro e w' ⟨rfl, rfl⟩)
  go_ret
  exact ⟨rfl, rfl⟩
theorem mark_arg (h : MemAt w own mb m) {i : Nat} {s : Sg} {c x : Int} (hi : Has m i s) (hn : c < 0 ∨ 4 ≤ c ∨ x < 0 ∨ 5 < x) :
    Calls Try.prog 20 #[.pointer (some ⟨mb, 0, none⟩), .int .i64 i, .int .i64 c, .int .i64 x] w fun e w' => e = .returned (.int .i64 1) ∧ w = w' := by
  obtain ⟨hk, sb, cp, v, h⟩ := h
  have H := Lib.hid (find_yes h hk hi)
  by_cases h0 : c < 0
  · clear hn
    go_enter Try.func20, Try.ntmps20
    go_wp2_with (go_at_call 31; refine H.out.mono ?_; rintro e w' ⟨rfl, rfl⟩)
    go_ret
    exact ⟨rfl, rfl⟩
  · by_cases h1 : 4 ≤ c
    · clear hn
      go_enter Try.func20, Try.ntmps20
      go_wp2_with (go_at_call 31; refine H.out.mono ?_; rintro e w' ⟨rfl, rfl⟩)
      go_ret
      exact ⟨rfl, rfl⟩
    · by_cases h2 : x < 0
      · clear hn
        have h3 : 0 ≤ c ∧ c ≤ 3 := by omega
        clear h0 h1
        obtain ⟨h3, h4⟩ := h3
        go_enter Try.func20, Try.ntmps20
        go_wp2_with (go_at_call 31; refine H.out.mono ?_; rintro e w' ⟨rfl, rfl⟩)
        go_ret
        exact ⟨rfl, rfl⟩
      · have h3 : 0 ≤ c ∧ c ≤ 3 ∧ 5 < x := by omega
        clear h0 h1 h2 hn
        obtain ⟨h3, h4, h5⟩ := h3
        go_enter Try.func20, Try.ntmps20
        go_wp2_with (go_at_call 31; refine H.out.mono ?_; rintro e w' ⟨rfl, rfl⟩)
        go_ret
        exact ⟨rfl, rfl⟩
theorem mark_yes (h : MemAt w own mb m) {i : Nat} {s : Sg} {c : Nat} {x : Int} (hi : Has m i s) (hc : c < 4) (h0 : 0 ≤ x) (h5 : x ≤ 5) :
    Calls Try.prog 20 #[.pointer (some ⟨mb, 0, none⟩), .int .i64 i, .int .i64 c, .int .i64 x] w fun e w' => e = .returned (.int .i64 0) ∧ Now own mb (m.put i (s.mark c x)) w w' := by
  obtain ⟨hk, sb, cp, v, h⟩ := h
  have H := Lib.hid (find_yes h hk hi)
  have ho := hk.all.get hi.1
  have hl : c < s.c.length := by have := ho.c; omega
  have hcell : w.cell? ⟨sb, i * 72 + 3 + c, none⟩ = some (.int .i64 s.c[c]) := by
    rw [Nat.add_assoc]
    exact h.seg hk hi.1 (by omega) (Sg.atC ho (List.getElem?_eq_getElem hl))
  have hf := h.sfree (i * 72 + 3 + c)
  have hput := h.put hk hi.1 (j := 3 + c) (s' := s.mark c x) (by omega) (Sg.setC ho hc x)
  rw [← Nat.add_assoc] at hput
  have Hn : Hid (Now own mb (m.put i (s.mark c x)) w (w.setCell ⟨sb, i * 72 + 3 + c, none⟩ (.int .i64 x))) :=
    Lib.hid ⟨⟨M.put_ok hk hi.1 ⟨by simpa [Sg.mark] using ho.c, ho.ws, ho.n, ho.g, ho.k, ho.z⟩ rfl, sb, cp, v, hput⟩, (Keep.refl _ _).setCell _ (Or.inl (by simpa using h.w2))⟩
  clear hput
  go_enter Try.func20, Try.ntmps20
  go_wp2_with (go_at_call 31; refine H.out.mono ?_; rintro e w' ⟨rfl, rfl⟩)
  go_ret
  exact ⟨rfl, Hn.out⟩
end
end Go.Proofs.Ytmhbbhlmiinobaa
