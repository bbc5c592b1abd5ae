import Derived.Test.YtocoflojlliapaaDoorC1
set_option linter.unusedVariables false
namespace Go.Proofs.YtocoflojlliapaaDoor
open Go.RowKit
/-- how many limbs a value needs -/
def dl (N : Nat) : Nat := (digs 4294967296 N).length
/-- the slice at A of n limbs comes to N in w -/
def Mag (w : World) (A : Option Addr) (n c N : Nat) : Prop := ∃ xs, Lim .u32 w.heap.size w A xs ∧ Low 4294967296 xs ∧ xs.length = n ∧ val 4294967296 xs = N ∧ n ≤ c
section
variable {w w' : World} {A : Option Addr} {n c N : Nat}
theorem Mag.below (h : Mag w A n c N) (hb : Below w.heap.size w w') : Mag w' A n c N := by
  obtain ⟨xs, h1, h2, h3, h4, h5⟩ := h
  exact ⟨xs, h1.below' hb, h2, h3, h4, h5⟩
theorem Mag.drewN (h : Mag w A n c N) (m : Nat) : Mag (w.drewN m) A n c N := h
theorem Mag.drew (h : Mag w A n c N) : Mag w.drew A n c N := h
theorem Mag.alloc (h : Mag w A n c N) (o : Obj) : Mag (w.alloc o) A n c N := h.below ((Below.refl _ _).alloc (Nat.le_refl _) _)
theorem Mag.trim (h : Mag w A n c N) : Mag w A (dl N) c N := by
  obtain ⟨xs, h1, h2, h3, h4, h5⟩ := h
  have ht : trimL xs = digs 4294967296 N := by rw [← h4]; exact (digs_of (by decide) h2).symm
  refine ⟨trimL xs, h1.trim, ?_, ?_, ?_, ?_⟩
  · rw [ht]
    exact digs_low (by decide) N
  · rw [ht]
    rfl
  · rw [val_trim (by decide) h2, h4]
  · have := trimL_len xs
    rw [ht] at this
    unfold dl
    omega
theorem Mag.list (h : Mag w A (dl N) c N) : Lim .u32 w.heap.size w A (digs 4294967296 N) := by
  obtain ⟨xs, h1, h2, h3, h4, h5⟩ := h
  have ht : trimL xs = digs 4294967296 N := by rw [← h4]; exact (digs_of (by decide) h2).symm
  have e : trimL xs = xs := by
    rw [trimL_take, ht]
    unfold dl at h3
    rw [← h3, List.take_length]
  rw [← ht, e]
  exact h1
theorem Mag.le (h : Mag w A n c N) : dl N ≤ n := by
  obtain ⟨xs, h1, h2, h3, h4, h5⟩ := h
  have ht : trimL xs = digs 4294967296 N := by rw [← h4]; exact (digs_of (by decide) h2).symm
  have := trimL_len xs
  rw [ht, h3] at this
  exact this
theorem Mag.cap (h : Mag w A n c N) : n ≤ c := by
  obtain ⟨xs, h1, h2, h3, h4, h5⟩ := h
  exact h5
theorem Mag.none_ (w : World) : Mag w none 0 0 0 := ⟨[], Lim.empty none, Low.nil, rfl, rfl, Nat.le_refl 0⟩
theorem Mag.empty (w : World) (A : Option Addr) (c : Nat) : Mag w A 0 c 0 := ⟨[], Lim.empty A, Low.nil, rfl, rfl, Nat.zero_le c⟩
theorem Mag.of_made {n v : Nat} (h : Made w w' n v) : Mag w' (some ⟨w.heap.size, 0, none⟩) n n v ∧ Below w.heap.size w w' := by
  obtain ⟨zs, h1, h2, h3, h4, h5⟩ := h
  exact ⟨⟨zs, h4.lim, h2, h1, h3, Nat.le_refl _⟩, h5⟩
theorem Mag.of_fresh (h : Fresh w w' A c N) : Mag w' A (dl N) c N ∧ Below w.heap.size w w' :=
  ⟨⟨_, Lim.of_own h.1, digs_low (by decide) N, rfl, digs_val (by decide) N, own_cap h.1⟩, h.2⟩
end
theorem dl_zero : dl 0 = 0 := rfl
theorem dl_pos {N : Nat} (h : N ≠ 0) : 0 < dl N := by
  unfold dl
  rcases hd : digs 4294967296 N with _ | ⟨x, l⟩
  · exact absurd ((digs_nil (by decide)).1 hd) h
  · simp
theorem dl_le (N k : Nat) : dl N ≤ k ↔ N < 4294967296 ^ k := digs_len_le (by decide) N k
theorem dl_mono {m n : Nat} (h : m ≤ n) : dl m ≤ dl n := digs_len_mono (by decide) h
theorem dl_low (N : Nat) (h : N ≠ 0) : 4294967296 ^ (dl N - 1) ≤ N := digs_pow (by decide) N h
theorem lt_dl (N : Nat) : N < 4294967296 ^ dl N := digs_lt_pow (by decide) N
/-! ### the rows' functions, by their values -/
theorem trim_mag (A : Option Addr) (n c N : Nat) (w : World) (h : Mag w A n c N) (hl : n ≤ 35184372088832) :
    Calls Tryd.prog 54 #[.slice A n c] w fun e w' => e = .returned (.slice A (dl N) c) ∧ w = w' := by
  obtain ⟨xs, h1, h2, h3, h4, h5⟩ := h
  have := trim_at A xs n c _ w (Lib.hid h3) h1 h5 (by omega)
  have ht : trimL xs = digs 4294967296 N := by rw [← h4]; exact (digs_of (by decide) h2).symm
  rw [ht] at this
  exact this
theorem compare_mag (A1 A2 : Option Addr) (c1 c2 a b : Nat) (w : World) (h1 : Mag w A1 (dl a) c1 a) (h2 : Mag w A2 (dl b) c2 b) (l1 : dl a ≤ 1000000) (l2 : dl b ≤ 1000000) :
    Calls Tryd.prog 57 #[.slice A1 (dl a) c1, .slice A2 (dl b) c2] w fun e w' => e = .returned (.int .i64 (cmpN a b)) ∧ ∃ m, w' = w.drewN m :=
  compare_any A1 A2 a b c1 c2 _ w h1.list h2.list (by unfold dl at l1; omega) (by unfold dl at l2; omega)
theorem plus_mag (A1 A2 : Option Addr) (n1 n2 c1 c2 a b : Nat) (w : World) (h1 : Mag w A1 n1 c1 a) (h2 : Mag w A2 n2 c2 b) (l1 : n1 ≤ 1000000) (l2 : n2 ≤ 1000000) :
    Calls Tryd.prog 80 #[.slice A1 n1 c1, .slice A2 n2 c2] w fun e w' => e = .returned (.slice (some ⟨w.heap.size, 0, none⟩) (max n1 n2 + 1) (max n1 n2 + 1)) ∧ Mag w' (some ⟨w.heap.size, 0, none⟩) (max n1 n2 + 1) (max n1 n2 + 1) (a + b) ∧ Below w.heap.size w w' := by
  obtain ⟨xs, p1, p2, p3, p4, p5⟩ := h1
  obtain ⟨ys, q1, q2, q3, q4, q5⟩ := h2
  subst p3 p4 q3 q4
  exact (plus_any A1 A2 xs ys c1 c2 w p1 q1 p2 q2 l1 l2).mono fun _ _ ⟨he, hm⟩ => ⟨he, Mag.of_made hm⟩
theorem minus_mag (A1 A2 : Option Addr) (n1 n2 c1 c2 a b : Nat) (w : World) (h1 : Mag w A1 n1 c1 a) (h2 : Mag w A2 n2 c2 b) (l1 : n1 ≤ 1000000) (l2 : n2 ≤ n1) (hab : Hid (b ≤ a)) :
    Calls Tryd.prog 63 #[.slice A1 n1 c1, .slice A2 n2 c2] w fun e w' => e = .returned (.slice (some ⟨w.heap.size, 0, none⟩) n1 n1) ∧ Mag w' (some ⟨w.heap.size, 0, none⟩) n1 n1 (a - b) ∧ Below w.heap.size w w' := by
  obtain ⟨xs, p1, p2, p3, p4, p5⟩ := h1
  obtain ⟨ys, q1, q2, q3, q4, q5⟩ := h2
  subst p4 q4
  exact (minus_at A1 A2 xs ys c1 c2 n1 n2 w p1 q1 p2 q2 (Lib.hid p3) (Lib.hid q3) l2 l1 hab).mono fun _ _ ⟨he, hm⟩ => ⟨he, Mag.of_made hm⟩
theorem times_mag (A1 A2 : Option Addr) (n1 n2 c1 c2 a b : Nat) (w : World) (h1 : Mag w A1 n1 c1 a) (h2 : Mag w A2 n2 c2 b) (l1 : n1 ≤ 1000000) (l2 : n2 ≤ 1000000) :
    Calls Tryd.prog 61 #[.slice A1 n1 c1, .slice A2 n2 c2] w fun e w' => e = .returned (.slice (some ⟨w.heap.size, 0, none⟩) (n1 + n2) (n1 + n2)) ∧ Mag w' (some ⟨w.heap.size, 0, none⟩) (n1 + n2) (n1 + n2) (a * b) ∧ Below w.heap.size w w' := by
  obtain ⟨xs, p1, p2, p3, p4, p5⟩ := h1
  obtain ⟨ys, q1, q2, q3, q4, q5⟩ := h2
  subst p4 q4
  exact (times_at A1 A2 xs ys c1 c2 n1 n2 w p1 q1 p2 q2 (Lib.hid p3) (Lib.hid q3) l1 l2).mono fun _ _ ⟨he, hm⟩ => ⟨he, Mag.of_made hm⟩
theorem byLimb_mag (A : Option Addr) (n c N y : Nat) (w : World) (h : Mag w A n c N) (hl : n ≤ 1000000) (y0 : 0 < y) (y1 : y < 4294967296) :
    Calls Tryd.prog 66 #[.slice A n c, .int .u32 y] w fun e w' => e = .returned (.tuple #[.slice (some ⟨w.heap.size, 0, none⟩) (dl (N / y)) n, .int .u32 (N % y : Nat)]) ∧ Mag w' (some ⟨w.heap.size, 0, none⟩) (dl (N / y)) n (N / y) ∧ Below w.heap.size w w' := by
  obtain ⟨xs, p1, p2, p3, p4, p5⟩ := h
  have hlen : (digs 4294967296 (N / y)).length ≤ n := by
    have h1 : (digs 4294967296 (N / y)).length ≤ (digs 4294967296 N).length := digs_len_mono (by decide) (Nat.div_le_self N y)
    have h2 := trimL_len xs
    rw [← digs_of (by decide) p2, p4] at h2
    omega
  subst p4
  exact (byLimb_at A xs c n y w p1 p2 (Lib.hid p3) hl y0 y1).mono fun _ _ ⟨he, hg⟩ => ⟨he, ⟨_, hg.1, digs_low (by decide) _, rfl, digs_val (by decide) _, hlen⟩, hg.2⟩
/-- the closure of signed: the number fits -/
theorem signed1_yes (b : Nat) (neg : Bool) (A : Option Addr) (n c N : Nat) (w : World) (hb : w.heap[b]? = some (.cells #[.bool neg] 4 (0, 0))) (h : Mag w A n c N) (hl : n ≤ 35184372088832) (hfit : dl N ≤ 48) :
    Calls Tryd.prog 79 #[.slice A n c, .pointer (some ⟨b, 0, none⟩)] w fun e w' => ∃ A' c', e = .returned (.tuple #[.agg #[.bool (signB neg N), .slice A' (dl N) c'], .int .i64 0]) ∧ Fresh w w' A' c' N := by
  obtain ⟨xs, p1, p2, p3, p4, p5⟩ := h
  exact signed1_fit b neg A xs n c w hb p1 p2 (Lib.hid p3) p5 hl N (Lib.hid p4) hfit
theorem signed1_no (b : Nat) (neg : Bool) (A : Option Addr) (n c N : Nat) (w : World) (hb : w.heap[b]? = some (.cells #[.bool neg] 4 (0, 0))) (h : Mag w A n c N) (hl : n ≤ 35184372088832) (hbig : 48 < dl N) :
    Calls Tryd.prog 79 #[.slice A n c, .pointer (some ⟨b, 0, none⟩)] w fun e w' => e = .returned (.tuple #[.agg #[.bool false, .slice none 0 0], .int .i64 6]) ∧ Below w.heap.size w w' := by
  obtain ⟨xs, p1, p2, p3, p4, p5⟩ := h
  subst p4
  exact signed1_big b neg A xs n c w hb p1 p2 (Lib.hid p3) p5 hl hbig
end Go.Proofs.YtocoflojlliapaaDoor
