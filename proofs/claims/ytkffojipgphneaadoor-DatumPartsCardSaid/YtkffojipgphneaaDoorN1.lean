import Derived.Lib.ItoaNum
import Derived.Laws.BitsAllLaws
import Derived.Below
import Derived.Laws.OwnMore
import Derived.Deep.AppendLies
import Derived.Deep.Draws
import Derived.Laws.Rows
import Derived.Maps.AppendAt
import Derived.RegionTactic
import Derived.OwnWalk
import Derived.Deep.QuietTactic
set_option linter.unusedVariables false
namespace Go.Proofs.YtkffojipgphneaaDoor.Nm
/-- what digits of base b come to, the lowest first -/
def val (b : Nat) : List Nat → Nat
  | [] => 0
  | x :: l => x + b * val b l
/-- without noughts at the end -/
def trimL : List Nat → List Nat
  | [] => []
  | x :: l => if x = 0 ∧ trimL l = [] then [] else x :: trimL l
/-- n's digits of base b, with fuel -/
def digsF (b : Nat) : Nat → Nat → List Nat
  | 0, _ => []
  | f + 1, n => if n = 0 then [] else n % b :: digsF b f (n / b)
/-- n's digits of base b -/
def digs (b n : Nat) : List Nat := digsF b n n
def Low (b : Nat) (l : List Nat) : Prop := ∀ x ∈ l, x < b

theorem Low.nil {b : Nat} : Low b [] := fun _ h => by cases h
theorem Low.cons {b x : Nat} {l : List Nat} (hx : x < b) (h : Low b l) : Low b (x :: l) := by
  intro y hy
  rcases List.mem_cons.1 hy with rfl | hy
  · exact hx
  · exact h y hy
theorem Low.head {b x : Nat} {l : List Nat} (h : Low b (x :: l)) : x < b := h x (by simp)
theorem Low.tail {b x : Nat} {l : List Nat} (h : Low b (x :: l)) : Low b l := fun y hy => h y (by simp [hy])
theorem Low.append {b : Nat} {l m : List Nat} (h : Low b l) (k : Low b m) : Low b (l ++ m) := by
  intro y hy
  rcases List.mem_append.1 hy with hy | hy
  · exact h y hy
  · exact k y hy
theorem Low.take {b : Nat} {l : List Nat} (h : Low b l) (k : Nat) : Low b (l.take k) := fun y hy => h y (List.mem_of_mem_take hy)
theorem Low.drop {b : Nat} {l : List Nat} (h : Low b l) (k : Nat) : Low b (l.drop k) := fun y hy => h y (List.mem_of_mem_drop hy)
theorem Low.getD {b : Nat} {l : List Nat} (h : Low b l) (hb : 0 < b) (k : Nat) : l.getD k 0 < b := by
  rw [List.getD_eq_getElem?_getD]
  rcases hk : l[k]? with _ | x
  · simpa using hb
  · exact h x (List.mem_of_getElem? hk)
theorem Low.at {b : Nat} {l : List Nat} (h : Low b l) {k : Nat} (hk : k < l.length) : l[k] < b := h _ (List.getElem_mem hk)
theorem Low.rep {b : Nat} (hb : 0 < b) (n : Nat) : Low b (List.replicate n 0) := by
  intro y hy
  have := List.eq_of_mem_replicate hy
  omega
theorem Low.set {b : Nat} {l : List Nat} (h : Low b l) {k x : Nat} (hx : x < b) : Low b (l.set k x) := by
  intro y hy
  rcases List.mem_or_eq_of_mem_set hy with hy | rfl
  · exact h y hy
  · exact hx

theorem digsF_more (b : Nat) (hb : 2 ≤ b) : ∀ (f g n : Nat), n ≤ f → n ≤ g → digsF b f n = digsF b g n
  | 0, g, n, hf, _ => by
    have : n = 0 := by omega
    subst this
    cases g <;> simp [digsF]
  | f + 1, 0, n, _, hg => by
    have : n = 0 := by omega
    subst this
    simp [digsF]
  | f + 1, g + 1, n, hf, hg => by
    by_cases h : n = 0
    · simp [digsF, h]
    · have : n / b < n := Nat.div_lt_self (by omega) (by omega)
      simp only [digsF, if_neg h]
      rw [digsF_more b hb f g (n / b) (by omega) (by omega)]
theorem digs_zero (b : Nat) : digs b 0 = [] := rfl
theorem digs_pos {b n : Nat} (hb : 2 ≤ b) (hn : n ≠ 0) : digs b n = n % b :: digs b (n / b) := by
  have h1 : n / b < n := Nat.div_lt_self (by omega) (by omega)
  unfold digs
  rcases n with _ | n
  · exact absurd rfl hn
  · simp only [digsF]
    rw [if_neg (by omega), digsF_more b hb n ((n + 1) / b) ((n + 1) / b) (by omega) (by omega)]
theorem digs_nil {b n : Nat} (hb : 2 ≤ b) : digs b n = [] ↔ n = 0 := by
  constructor
  · intro h
    by_cases hn : n = 0
    · exact hn
    · rw [digs_pos hb hn] at h
      cases h
  · rintro rfl
    rfl
theorem digs_val {b : Nat} (hb : 2 ≤ b) (n : Nat) : val b (digs b n) = n := by
  induction n using Nat.strongRecOn with
  | _ n ih =>
    by_cases hn : n = 0
    · subst hn
      rfl
    · have h1 : n / b < n := Nat.div_lt_self (by omega) (by omega)
      rw [digs_pos hb hn, val, ih _ h1]
      exact Nat.mod_add_div n b
theorem digs_low {b : Nat} (hb : 2 ≤ b) (n : Nat) : Low b (digs b n) := by
  induction n using Nat.strongRecOn with
  | _ n ih =>
    by_cases hn : n = 0
    · subst hn
      exact Low.nil
    · have h1 : n / b < n := Nat.div_lt_self (by omega) (by omega)
      rw [digs_pos hb hn]
      exact Low.cons (Nat.mod_lt _ (by omega)) (ih _ h1)
theorem trimL_nil {b : Nat} (hb : 2 ≤ b) : ∀ {l : List Nat}, trimL l = [] ↔ val b l = 0
  | [] => by simp [trimL, val]
  | x :: l => by
    have ih := trimL_nil hb (l := l)
    simp only [trimL, val]
    by_cases h : x = 0 ∧ trimL l = []
    · rw [if_pos h, h.1, ih.1 h.2]
      simp
    · rw [if_neg h]
      constructor
      · intro h'
        cases h'
      · intro hv
        have h0 : x = 0 := by omega
        have h1 : b * val b l = 0 := by omega
        rcases Nat.mul_eq_zero.1 h1 with h2 | h2
        · omega
        · exact absurd ⟨h0, ih.2 h2⟩ h
theorem digs_of {b : Nat} (hb : 2 ≤ b) : ∀ {l : List Nat}, Low b l → digs b (val b l) = trimL l
  | [], _ => rfl
  | x :: l, h => by
    have ih := digs_of hb h.tail
    have hx := h.head
    simp only [trimL]
    by_cases hz : x = 0 ∧ trimL l = []
    · rw [if_pos hz]
      refine (digs_nil hb).2 ?_
      simp [val, hz.1, (trimL_nil hb).1 hz.2]
    · rw [if_neg hz]
      have hn : val b (x :: l) ≠ 0 := fun h0 => by
        have := (trimL_nil hb (l := x :: l)).2 h0
        simp only [trimL, if_neg hz] at this
        cases this
      rw [digs_pos hb hn]
      simp only [val]
      rw [Nat.add_mul_mod_self_left, Nat.mod_eq_of_lt hx, Nat.add_mul_div_left _ _ (by omega), Nat.div_eq_of_lt hx, Nat.zero_add, ih]
theorem digs_trim {b : Nat} (hb : 2 ≤ b) (n : Nat) : trimL (digs b n) = digs b n := by
  rw [← digs_of hb (digs_low hb n), digs_val hb]
theorem val_trim {b : Nat} (hb : 2 ≤ b) {l : List Nat} (h : Low b l) : val b (trimL l) = val b l := by
  rw [← digs_of hb h, digs_val hb]
theorem val_append (b : Nat) : ∀ (l m : List Nat), val b (l ++ m) = val b l + b ^ l.length * val b m
  | [], m => by simp [val]
  | x :: l, m => by
    simp only [List.cons_append, val, val_append b l m, List.length_cons, Nat.pow_succ]
    rw [Nat.mul_add, Nat.mul_comm (b ^ l.length) b, Nat.mul_assoc, Nat.add_assoc]
theorem val_lt {b : Nat} (hb : 2 ≤ b) : ∀ {l : List Nat}, Low b l → val b l < b ^ l.length
  | [], _ => by simp [val]
  | x :: l, h => by
    have ih := val_lt hb h.tail
    have hx := h.head
    simp only [val, List.length_cons, Nat.pow_succ]
    have h1 : b * (val b l + 1) ≤ b * b ^ l.length := Nat.mul_le_mul_left _ ih
    rw [Nat.mul_add] at h1
    rw [Nat.mul_comm (b ^ l.length) b]
    omega
theorem val_rep (b n : Nat) : val b (List.replicate n 0) = 0 := by
  induction n with
  | zero => rfl
  | succ n ih => simp [List.replicate_succ, val, ih]
theorem trimL_len : ∀ (l : List Nat), (trimL l).length ≤ l.length
  | [] => by simp [trimL]
  | x :: l => by
    have := trimL_len l
    simp only [trimL]
    split <;> simp <;> omega
theorem trimL_take : ∀ (l : List Nat), trimL l = l.take (trimL l).length
  | [] => by simp [trimL]
  | x :: l => by
    have := trimL_take l
    simp only [trimL]
    split
    · simp
    · simp only [List.length_cons, List.take_succ_cons]
      rw [← this]
theorem trimL_zero : ∀ (l : List Nat), trimL (l ++ [0]) = trimL l
  | [] => by simp [trimL]
  | x :: l => by
    have := trimL_zero l
    simp only [List.cons_append, trimL, this]
theorem trimL_last {x : Nat} (hx : x ≠ 0) : ∀ (l : List Nat), trimL (l ++ [x]) = l ++ [x]
  | [] => by simp [trimL, hx]
  | y :: l => by
    have := trimL_last hx l
    simp [List.cons_append, trimL, this]
theorem pow_mono {b i j : Nat} (hb : 2 ≤ b) (h : i ≤ j) : b ^ i ≤ b ^ j := Nat.pow_le_pow_right (by omega) h
theorem digs_pow {b : Nat} (hb : 2 ≤ b) (n : Nat) (hn : n ≠ 0) : b ^ ((digs b n).length - 1) ≤ n := by
  induction n using Nat.strongRecOn with
  | _ n ih =>
    have h1 : n / b < n := Nat.div_lt_self (by omega) (by omega)
    rw [digs_pos hb hn]
    simp only [List.length_cons, Nat.add_sub_cancel]
    by_cases hz : n / b = 0
    · rw [hz, digs_zero]
      simp
      omega
    · have := ih _ h1 hz
      have hp : 0 < (digs b (n / b)).length := by
        rcases hd : digs b (n / b) with _ | ⟨x, l⟩
        · exact absurd ((digs_nil hb).1 hd) hz
        · simp
      have h2 : b ^ (digs b (n / b)).length = b ^ ((digs b (n / b)).length - 1) * b := by
        rw [← Nat.pow_succ, Nat.succ_eq_add_one, Nat.sub_add_cancel hp]
      rw [h2]
      exact Nat.le_trans (Nat.mul_le_mul_right b this) (Nat.div_mul_le_self n b)
theorem digs_lt_pow {b : Nat} (hb : 2 ≤ b) (n : Nat) : n < b ^ (digs b n).length := by
  have := val_lt hb (digs_low hb n)
  rwa [digs_val hb] at this
theorem digs_len_le {b : Nat} (hb : 2 ≤ b) (n k : Nat) : (digs b n).length ≤ k ↔ n < b ^ k := by
  constructor
  · intro h
    exact Nat.lt_of_lt_of_le (digs_lt_pow hb n) (pow_mono hb h)
  · intro h
    by_cases hn : n = 0
    · subst hn
      simp [digs_zero]
    · have h1 := digs_pow hb n hn
      rcases Nat.lt_or_ge k (digs b n).length with hlt | hge
      · have := pow_mono (b := b) hb (i := k) (j := (digs b n).length - 1) (by omega)
        omega
      · exact hge
theorem digs_len_mono {b : Nat} (hb : 2 ≤ b) {m n : Nat} (h : m ≤ n) : (digs b m).length ≤ (digs b n).length :=
  (digs_len_le hb m _).2 (Nat.lt_of_le_of_lt h (digs_lt_pow hb n))
theorem digs_inj {b : Nat} (hb : 2 ≤ b) {m n : Nat} (h : digs b m = digs b n) : m = n := by
  rw [← digs_val hb m, h, digs_val hb]
theorem val_take_drop (b : Nat) (l : List Nat) (k : Nat) (hk : k ≤ l.length) : val b l = val b (l.take k) + b ^ k * val b (l.drop k) := by
  have := val_append b (l.take k) (l.drop k)
  rw [List.take_append_drop, List.length_take, Nat.min_eq_left hk] at this
  exact this
theorem val_snoc (b : Nat) (l : List Nat) (x : Nat) : val b (l ++ [x]) = val b l + b ^ l.length * x := by
  rw [val_append]; simp [val]
theorem take_snoc (l : List Nat) (k : Nat) (h : k < l.length) : l.take (k + 1) = l.take k ++ [l[k]] := by
  rw [List.take_succ_eq_append_getElem h]
theorem val_take_succ (b : Nat) (l : List Nat) (k : Nat) (h : k < l.length) : val b (l.take (k + 1)) = val b (l.take k) + b ^ k * l[k] := by
  rw [take_snoc l k h, val_snoc, List.length_take, Nat.min_eq_left (by omega)]
end Go.Proofs.YtkffojipgphneaaDoor.Nm
set_option linter.unusedVariables false
namespace Go.Proofs.YtkffojipgphneaaDoor.Nm
/-- one limb of a sum -/
theorem add_step {p v c vx vy xi yi d c' B : Nat} (h : v + p * c = vx + vy) (e : xi + yi + c = d + B * c') : (v + p * d) + (p * B) * c' = (vx + p * xi) + (vy + p * yi) := by
  have : p * (xi + yi + c) = p * (d + B * c') := by rw [e]
  grind
/-- one limb of a difference -/
theorem sub_step {p v c vx vy xi yi d c' B : Nat} (h : v + vy = vx + p * c) (e : d + yi + c = xi + B * c') : (v + p * d) + (vy + p * yi) = (vx + p * xi) + (p * B) * c' := by
  have : p * (d + yi + c) = p * (xi + B * c') := by rw [e]
  grind
/-- one limb of a row of a product -/
theorem mul_step {p v c o vy a yi oi d c' B q r : Nat} (h : v + p * c = o + q * a * vy) (hq : p = q * r) (e : a * yi + oi + c = d + B * c') : (v + p * d) + (p * B) * c' = (o + p * oi) + q * a * (vy + r * yi) := by
  have : p * (a * yi + oi + c) = p * (d + B * c') := by rw [e]
  subst hq
  grind
/-- one limb of a quotient by a limb -/
theorem div_step {y q l xp Q L V B : Nat} (h : V = y * Q + L) (e : L * B + xp = y * q + l) : xp + B * V = y * (q + B * Q) + l := by
  subst h
  grind
/-- one limb of what is taken off -/
theorem off_step {p v c w vy yi wi d c' k B : Nat} (h : v + k * vy = w + p * c) (e : d + k * yi + c = wi + B * c') : (v + p * d) + k * (vy + p * yi) = (w + p * wi) + (p * B) * c' := by
  have : p * (d + k * yi + c) = p * (wi + B * c') := by rw [e]
  grind

/-- GUESS -/
theorem guess_low {Y W B h n w t P q : Nat} (hP : 0 < P) (hY : h * B * P + n * P ≤ Y) (hW : W < (t * B + w + 1) * P) (hq : q * Y ≤ W) : q * (h * B + n) ≤ t * B + w := by
  have h1 : q * (h * B + n) * P ≤ q * Y := by
    have : q * (h * B + n) * P = q * (h * B * P + n * P) := by grind
    rw [this]
    exact Nat.mul_le_mul_left q hY
  have h2 : q * (h * B + n) * P < (t * B + w + 1) * P := by omega
  have := Nat.lt_of_mul_lt_mul_right h2
  omega
theorem guess_top {h B n w t q : Nat} (hw : w < B) (hq : q * (h * B + n) ≤ t * B + w) : q * h ≤ t := by
  have h1 : q * h * B ≤ q * (h * B + n) := by
    have : q * (h * B + n) = q * h * B + q * n := by grind
    omega
  have h2 : q * h * B < (t + 1) * B := by
    have : (t + 1) * B = t * B + B := by grind
    omega
  have := Nat.lt_of_mul_lt_mul_right h2
  omega
/-- what is above the quotient by the test is above it -/
theorem guess_down {h B n w t q p l : Nat} (hq : q * (h * B + n) ≤ t * B + w) (hpl : p * h + l = t) (hp : l * B + w < p * n) : q < p := by
  have h1 : t * B + w < p * (h * B + n) := by
    have : p * (h * B + n) = p * h * B + p * n := by grind
    have h2 : t * B = p * h * B + l * B := by rw [← hpl]; grind
    omega
  have h2 : q * (h * B + n) < p * (h * B + n) := by omega
  exact Nat.lt_of_mul_lt_mul_right h2
/-- the guess is one too great at most: the test by two limbs -/
theorem guess_up1 {Y W B h n w t P q p l : Nat} (hP : 0 < P) (hYh : Y < (h * B + n + 1) * P) (hW : (t * B + w) * P ≤ W) (hB : B * P ≤ Y) (hpB : p < B) (hpl : p * h + l = t) (hp : p * n ≤ l * B + w)
    (hq : W < (q + 1) * Y) : p ≤ q + 1 := by
  have h1 : p * (h * B + n) ≤ t * B + w := by
    have : p * (h * B + n) = p * h * B + p * n := by grind
    have h2 : t * B = p * h * B + l * B := by rw [← hpl]; grind
    omega
  have h2 : p * Y ≤ p * ((h * B + n + 1) * P) := Nat.mul_le_mul_left p (by omega)
  have h3 : p * ((h * B + n + 1) * P) = p * (h * B + n) * P + p * P := by grind
  have h4 : p * (h * B + n) * P ≤ (t * B + w) * P := Nat.mul_le_mul_right P h1
  have h5 : p * P < B * P := Nat.mul_lt_mul_of_pos_right hpB hP
  have h6 : p * Y < (q + 2) * Y := by
    have : (q + 2) * Y = (q + 1) * Y + Y := by grind
    omega
  have := Nat.lt_of_mul_lt_mul_right h6
  omega
theorem guess_up2 {Y W B h n w t P q p l : Nat} (hP : 0 < P) (hn : n < B) (hYh : Y < (h * B + n + 1) * P) (hW : (t * B + w) * P ≤ W) (hpB : p < B) (hpl : p * h + l = t) (hl : B ≤ l)
    (hq : W < (q + 1) * Y) : p ≤ q := by
  have h2 : p * Y ≤ p * ((h * B + B) * P) := Nat.mul_le_mul_left p (Nat.le_trans (Nat.le_of_lt hYh) (Nat.mul_le_mul_right P (by omega)))
  have h3 : p * ((h * B + B) * P) = (p * h + p) * B * P := by grind
  have h4 : (p * h + p) * B * P ≤ (p * h + l) * B * P := Nat.mul_le_mul_right P (Nat.mul_le_mul_right B (by omega))
  have h5 : (p * h + l) * B * P ≤ (t * B + w) * P := by
    rw [hpl]
    exact Nat.mul_le_mul_right P (by omega)
  have h6 : p * Y < (q + 1) * Y := by omega
  have := Nat.lt_of_mul_lt_mul_right h6
  omega
theorem guess_part {B h t p l w1 w2 : Nat} (ht : t = w1 * B + w2) (hw1 : w1 ≤ h) (hw2 : w2 < B) (hpl : p * h + l = t) (hl : B ≤ l) : p < B := by
  have h1 : p * h < B * h := by
    have : w1 * B ≤ h * B := Nat.mul_le_mul_right B hw1
    have e : h * B = B * h := Nat.mul_comm h B
    omega
  exact Nat.lt_of_mul_lt_mul_right h1
end Go.Proofs.YtkffojipgphneaaDoor.Nm
set_option linter.unusedVariables false
namespace Go.Proofs.YtkffojipgphneaaDoor.Nm
/-- one limb of a long quotient: what was left, with one limb more -/
theorem long_step {a r R Y P B Q q u N : Nat} (h : a + P * r + P * B * R + Y * (P * B) * Q = N) (e : r + B * R = q * Y + u) : a + P * u + Y * P * (q + B * Q) = N := by
  have : P * (r + B * R) = P * (q * Y + u) := by rw [e]
  grind
theorem long_small {r R Y B : Nat} (hr : r < B) (hR : R < Y) : r + B * R < B * Y := by
  have : B * (R + 1) ≤ B * Y := Nat.mul_le_mul_left B hR
  grind
theorem quo_lt {W Y B : Nat} (h : W < B * Y) (hY : 0 < Y) : W / Y < B := (Nat.div_lt_iff_lt_mul hY).2 h
/-- what is left when too much is taken, and put back -/
theorem off_back {W Y q : Nat} (hY : 0 < Y) (hq : q = W / Y) : W < (q + 1) * Y := by
  subst hq
  have := Nat.lt_mul_div_succ W hY
  rw [Nat.mul_comm] at this
  exact this
/-- what takeOff leaves, where it was not too much -/
theorem left_fits {v w wn Pn c p Y W : Nat} (hv : v + p * Y = w + Pn * c) (hvl : v < Pn) (hW : W = w + Pn * wn) (hY : Y ≤ Pn) (hge : c ≤ wn) (hpq : W < (p + 1) * Y) : v = W - p * Y ∧ p * Y ≤ W := by
  have h1 : Pn * c ≤ Pn * wn := Nat.mul_le_mul_left _ hge
  have h2 : p * Y ≤ W := by omega
  rcases Nat.lt_or_ge c wn with hlt | hge'
  · exfalso
    have h3 : Pn * (c + 1) ≤ Pn * wn := Nat.mul_le_mul_left _ hlt
    have h4 : Pn * (c + 1) = Pn * c + Pn := by grind
    have h5 : (p + 1) * Y = p * Y + Y := by grind
    omega
  · have : c = wn := by omega
    subst this
    exact ⟨by omega, h2⟩
/-- the sign of what takeOff comes to -/
theorem off_lt {v w wn Pn c p Y W : Nat} (hv : v + p * Y = w + Pn * c) (hvl : v < Pn) (hW : W = w + Pn * wn) : W < p * Y ↔ wn < c := by
  constructor
  · intro h
    rcases Nat.lt_or_ge wn c with h1 | h1
    · exact h1
    · have : Pn * c ≤ Pn * wn := Nat.mul_le_mul_left _ h1
      omega
  · intro h
    have h1 : Pn * (wn + 1) ≤ Pn * c := Nat.mul_le_mul_left _ h
    have h2 : Pn * (wn + 1) = Pn * wn + Pn := by grind
    omega
/-- what is left when what was too much is put back -/
theorem left_back {v w wn Pn c p Y W x k q : Nat} (hv : v + p * Y = w + Pn * c) (hvl : v < Pn) (hW : W = w + Pn * wn) (hx : x + Pn * k = v + Y) (hxl : x < Pn) (hYP : Y ≤ Pn) (hlt : wn < c) (hp : p = q + 1) (hq : q * Y ≤ W) :
    x = W - q * Y := by
  subst hp
  have e1 : (q + 1) * Y = q * Y + Y := by grind
  have e2 : Pn * (wn + 1) ≤ Pn * c := Nat.mul_le_mul_left _ hlt
  have e3 : Pn * (wn + 1) = Pn * wn + Pn := by grind
  -- W - q Y = x + Pn (k - c + wn): both below Pn
  have e4 : x + Pn * k + Pn * wn + q * Y = W + Pn * c := by omega
  have e5 : W < (q + 1) * Y := by
    rw [e1]
    omega
  have h6 : k + wn = c := by
    rcases Nat.lt_trichotomy (k + wn) c with h | h | h
    · exfalso
      have : Pn * (k + wn + 1) ≤ Pn * c := Nat.mul_le_mul_left _ h
      have e6 : Pn * (k + wn + 1) = Pn * k + Pn * wn + Pn := by grind
      omega
    · exact h
    · exfalso
      have : Pn * (c + 1) ≤ Pn * (k + wn) := Nat.mul_le_mul_left _ h
      have e6 : Pn * (c + 1) = Pn * c + Pn := by grind
      have e7 : Pn * (k + wn) = Pn * k + Pn * wn := by grind
      omega
  have e7 : Pn * (k + wn) = Pn * k + Pn * wn := by grind
  rw [h6] at e7
  omega
/-- the quotient and the rest of what both were made greater by -/
theorem by_factor {X y f Q R : Nat} (hf : 0 < f) (h : R + y * f * Q = X * f) (hR : R < y * f) : Q = X / y ∧ R / f = X % y := by
  have hy : 0 < y := by
    rcases Nat.eq_zero_or_pos y with h0 | h0
    · subst h0
      simp at hR
    · exact h0
  have hQ : Q = X / y := by
    have h1 : X * f / (y * f) = Q := by
      rw [← h, Nat.add_mul_div_left _ _ (Nat.mul_pos hy hf), Nat.div_eq_of_lt hR, Nat.zero_add]
    rw [Nat.mul_div_mul_right _ _ hf] at h1
    exact h1.symm
  refine ⟨hQ, ?_⟩
  have hm := Nat.div_add_mod X y
  have h2 : R = (X % y) * f := by
    have : X * f = (y * Q + X % y) * f := by rw [hQ, hm]
    grind
  rw [h2, Nat.mul_div_cancel _ hf]
/-- by's highest limb, and the next -/
theorem val_top2 {b : Nat} (l : List Nat) (n : Nat) (hl : l.length = n + 2) : val b l = val b (l.take n) + b ^ n * (l.getD n 0 + b * l.getD (n + 1) 0) := by
  have h1 := val_take_drop b l n (by omega)
  have h2 : l.drop n = [l.getD n 0, l.getD (n + 1) 0] := by
    have a1 : l[n]? = some (l[n]'(by omega)) := List.getElem?_eq_getElem (by omega)
    have a2 : l[n + 1]? = some (l[n + 1]'(by omega)) := List.getElem?_eq_getElem (by omega)
    rw [List.getD_eq_getElem?_getD, List.getD_eq_getElem?_getD, a1, a2]
    apply List.ext_getElem
    · simp [hl]
    · intro i h3 h4
      simp at h4
      rcases i with _ | _ | i
      · simp
      · simp
      · omega
  rw [h1, h2]
  simp [val]
/-- the limbs behind a place, one of which is written -/
theorem val_set (b : Nat) : ∀ (l : List Nat) (k x : Nat), k < l.length → val b (l.set k x) + b ^ k * l.getD k 0 = val b l + b ^ k * x
  | [], k, x, h => absurd h (by simp)
  | y :: l, 0, x, h => by simp [val]; omega
  | y :: l, k + 1, x, h => by
    have ih := val_set b l k x (by simpa using h)
    simp only [List.set_cons_succ, val, List.getD_cons_succ, Nat.pow_succ]
    have : b * (val b (l.set k x) + b ^ k * l.getD k 0) = b * (val b l + b ^ k * x) := by rw [ih]
    grind
theorem val_rev_snoc (b : Nat) (l : List Nat) (x : Nat) : val b (l ++ [x]).reverse = x + b * val b l.reverse := by simp [val]
theorem Low.rev {b : Nat} {l : List Nat} (h : Low b l) : Low b l.reverse := fun y hy => h y (by simpa using hy)
end Go.Proofs.YtkffojipgphneaaDoor.Nm
set_option linter.unusedVariables false
namespace Go.Proofs.YtkffojipgphneaaDoor.Nm
open Go.Lib
theorem dec_small {u : Nat} (h : u < 10) : decDigits u = [UInt8.ofNat (48 + u)] := by rw [decDigits, dif_pos h]
theorem dec_big {u : Nat} (h : 10 ≤ u) : decDigits u = decDigits (u / 10) ++ [UInt8.ofNat (48 + u % 10)] := by rw [decDigits, dif_neg (by omega)]
/-- k digits of g, noughts ahead -/
def padL : Nat → Nat → List UInt8
  | 0, _ => []
  | k + 1, g => padL k (g / 10) ++ [UInt8.ofNat (48 + g % 10)]
theorem padL_len : ∀ (k g : Nat), (padL k g).length = k
  | 0, _ => rfl
  | k + 1, g => by simp [padL, padL_len k]
theorem dec_pad (h : Nat) (hh : 1 ≤ h) : ∀ (k g : Nat), g < 10 ^ k → decDigits (h * 10 ^ k + g) = decDigits h ++ padL k g
  | 0, g, hg => by
    have : g = 0 := by simpa using hg
    subst this
    simp [padL]
  | k + 1, g, hg => by
    have hp : 1 ≤ 10 ^ k := Nat.one_le_pow _ _ (by decide)
    have h1 : h * 10 ^ (k + 1) = h * 10 ^ k * 10 := by rw [Nat.pow_succ, Nat.mul_assoc]
    have h2 : h * 1 ≤ h * 10 ^ k := Nat.mul_le_mul_left h hp
    rw [Nat.pow_succ] at hg
    rw [dec_big (by omega), show (h * 10 ^ (k + 1) + g) / 10 = h * 10 ^ k + g / 10 by omega, dec_pad h hh k (g / 10) (by omega), show (h * 10 ^ (k + 1) + g) % 10 = g % 10 by omega]
    simp [padL]
theorem padL_dec : ∀ (k g : Nat), g < 10 ^ (k + 1) → padL (k + 1) g = List.replicate (k + 1 - (decDigits g).length) 48 ++ decDigits g
  | 0, g, hg => by
    have : g < 10 := by simpa using hg
    rw [dec_small this]
    simp [padL, Nat.mod_eq_of_lt this]
  | k + 1, g, hg => by
    by_cases hs : g < 10
    · rw [dec_small hs]
      have ih := padL_dec k (g / 10) (by rw [Nat.pow_succ] at hg; omega)
      rw [show g / 10 = 0 by omega, dec_small (by omega)] at ih
      rw [padL, show g / 10 = 0 by omega, ih, Nat.mod_eq_of_lt hs]
      simp [List.replicate_succ']
    · have ih := padL_dec k (g / 10) (by rw [Nat.pow_succ] at hg; omega)
      rw [padL, ih, dec_big (u := g) (by omega)]
      simp
theorem dec_len_le (k g : Nat) (hg : g < 10 ^ (k + 1)) : (decDigits g).length ≤ k + 1 := by
  have := congrArg List.length (padL_dec k g hg)
  rw [padL_len] at this
  simp at this
  omega
theorem dec_len_pos (g : Nat) : 1 ≤ (decDigits g).length := by rw [decDigits_length]; exact nDigits_pos g
/-- what decimal digits come to -/
def decVal (l : List UInt8) : Nat := l.foldl (fun v c => v * 10 + (c.toNat - 48)) 0
theorem decVal_snoc (l : List UInt8) (c : UInt8) : decVal (l ++ [c]) = decVal l * 10 + (c.toNat - 48) := by simp [decVal]
theorem dec_byte {d : Nat} (h : d < 10) : (UInt8.ofNat (48 + d)).toNat = 48 + d := by simp; omega
theorem decVal_dec (n : Nat) : decVal (decDigits n) = n := by
  induction n using Nat.strongRecOn with
  | _ n ih =>
    by_cases h : n < 10
    · rw [dec_small h]
      have := dec_byte h
      simp [decVal]
      omega
    · rw [dec_big (by omega), decVal_snoc, ih _ (by omega), dec_byte (by omega)]
      omega
theorem decVal_fold (l : List UInt8) : ∀ v : Nat, l.foldl (fun v c => v * 10 + (c.toNat - 48)) v = v * 10 ^ l.length + decVal l := by
  have key : ∀ (l : List UInt8) (v : Nat), l.foldl (fun v c => v * 10 + (c.toNat - 48)) v = v * 10 ^ l.length + l.foldl (fun v c => v * 10 + (c.toNat - 48)) 0 := by
    intro l
    induction l with
    | nil => intro v; simp
    | cons c l ih =>
      intro v
      simp only [List.foldl_cons, List.length_cons]
      rw [ih, ih (0 * 10 + (c.toNat - 48)), Nat.pow_succ]
      grind
  exact key l
theorem decVal_append (l m : List UInt8) : decVal (l ++ m) = decVal l * 10 ^ m.length + decVal m := by
  unfold decVal
  rw [List.foldl_append]
  exact decVal_fold m _
theorem decVal_noughts (k : Nat) (l : List UInt8) : decVal (List.replicate k 48 ++ l) = decVal l := by
  rw [decVal_append]
  have : decVal (List.replicate k 48) = 0 := by
    induction k with
    | zero => rfl
    | succ k ih =>
      rw [List.replicate_succ', decVal_snoc, ih]
      rfl
  rw [this]
  simp
def isDig (l : List UInt8) : Prop := ∀ c ∈ l, 48 ≤ c.toNat ∧ c.toNat ≤ 57
theorem dec_isDig (n : Nat) : isDig (decDigits n) := by
  induction n using Nat.strongRecOn with
  | _ n ih =>
    by_cases h : n < 10
    · rw [dec_small h]
      intro c hc
      have := dec_byte h
      simp only [List.mem_singleton] at hc
      subst hc
      omega
    · rw [dec_big (by omega)]
      intro c hc
      rcases List.mem_append.1 hc with hc | hc
      · exact ih _ (by omega) c hc
      · have := dec_byte (d := n % 10) (by omega)
        simp only [List.mem_singleton] at hc
        subst hc
        omega
end Go.Proofs.YtkffojipgphneaaDoor.Nm
set_option linter.unusedVariables false
namespace Go.Proofs.YtkffojipgphneaaDoor.Nm
/-- the base -/
abbrev Bs : Nat := 4294967296
def addLo (x y c : Nat) : Nat := (x + y + c) % 4294967296
def addHi (x y c : Nat) : Nat := (x + y + c) / 4294967296
def subLo (x y b : Nat) : Nat := (x + 4294967296 * (if x < y + b then 1 else 0)) - y - b
def subHi (x y b : Nat) : Nat := if x < y + b then 1 else 0
def mulLo (x y : Nat) : Nat := x * y % 4294967296
def mulHi (x y : Nat) : Nat := x * y / 4294967296
def lmb (xs : List Nat) (i : Nat) : Nat := xs.getD i 0
def cmpN (m n : Nat) : Int := if m < n then -1 else if n < m then 1 else 0
theorem addLo_lt (x y c : Nat) : addLo x y c < 4294967296 := Nat.mod_lt _ (by decide)
theorem addHi_le (x y c : Nat) (hx : x < 4294967296) (hy : y < 4294967296) (hc : c ≤ 1) : addHi x y c ≤ 1 := by unfold addHi; omega
theorem add_eq (x y c : Nat) : x + y + c = addLo x y c + 4294967296 * addHi x y c := by unfold addLo addHi; omega
theorem subHi_le (x y b : Nat) : subHi x y b ≤ 1 := by unfold subHi; split <;> omega
theorem sub_eq (x y b : Nat) (hx : x < 4294967296) (hy : y < 4294967296) (hb : b ≤ 1) : subLo x y b + y + b = x + 4294967296 * subHi x y b := by unfold subLo subHi; split <;> omega
theorem subLo_lt (x y b : Nat) (hx : x < 4294967296) (hy : y < 4294967296) (hb : b ≤ 1) : subLo x y b < 4294967296 := by unfold subLo; split <;> omega
theorem mulLo_lt (x y : Nat) : mulLo x y < 4294967296 := Nat.mod_lt _ (by decide)
theorem mul_sq {x y : Nat} (hx : x < 4294967296) (hy : y < 4294967296) : x * y ≤ 18446744065119617025 := by
  have h1 : x * y ≤ 4294967295 * 4294967295 := Nat.mul_le_mul (by omega) (by omega)
  omega
theorem mulHi_lt (x y : Nat) (hx : x < 4294967296) (hy : y < 4294967296) : mulHi x y < 4294967295 := by
  have := mul_sq hx hy
  unfold mulHi
  omega
theorem mul_eq (x y : Nat) : x * y = mulLo x y + 4294967296 * mulHi x y := by unfold mulLo mulHi; omega
theorem lmb_lt {xs : List Nat} (h : Low 4294967296 xs) (i : Nat) : lmb xs i < 4294967296 := h.getD (by decide) i
theorem lmb_in {xs : List Nat} {i : Nat} (h : i < xs.length) : lmb xs i = xs[i] := by
  unfold lmb
  rw [List.getD_eq_getElem?_getD, List.getElem?_eq_getElem h]
  rfl
theorem lmb_out {xs : List Nat} {i : Nat} (h : xs.length ≤ i) : lmb xs i = 0 := by
  unfold lmb
  rw [List.getD_eq_getElem?_getD, List.getElem?_eq_none h]
  rfl
theorem val_take_lmb (xs : List Nat) (i : Nat) : val 4294967296 (xs.take (i + 1)) = val 4294967296 (xs.take i) + 4294967296 ^ i * lmb xs i := by
  rcases Nat.lt_or_ge i xs.length with h | h
  · rw [lmb_in h]
    exact val_take_succ _ xs i h
  · rw [lmb_out h, List.take_of_length_le (by omega), List.take_of_length_le h]
    simp
theorem cmpN_lt {m n : Nat} (h : m < n) : cmpN m n = -1 := by unfold cmpN; rw [if_pos h]
theorem cmpN_gt {m n : Nat} (h : n < m) : cmpN m n = 1 := by unfold cmpN; rw [if_neg (by omega), if_pos h]
theorem cmpN_self (m : Nat) : cmpN m m = 0 := by unfold cmpN; rw [if_neg (by omega), if_neg (by omega)]
/-- the highest place at which two rows differ decides -/
theorem val_cmp {b : Nat} (hb : 2 ≤ b) {xs ys : List Nat} {p : Nat} (hx : Low b xs) (hy : Low b ys) (hl : xs.length = ys.length) (hp : p < xs.length) (hd : xs.drop (p + 1) = ys.drop (p + 1))
    (h : xs[p] < ys[p]'(by omega)) : val b xs < val b ys := by
  rw [val_take_drop b xs (p + 1) (by omega), val_take_drop b ys (p + 1) (by omega), hd, val_take_succ b xs p hp, val_take_succ b ys p (by omega)]
  have h1 := val_lt hb (hx.take p)
  rw [List.length_take, Nat.min_eq_left (by omega)] at h1
  have h2 : b ^ p * (xs[p] + 1) ≤ b ^ p * ys[p]'(by omega) := Nat.mul_le_mul_left _ h
  rw [Nat.mul_add, Nat.mul_one] at h2
  omega
theorem len_lt_val {b : Nat} (hb : 2 ≤ b) {m n : Nat} (h : (digs b m).length < (digs b n).length) : m < n := by
  rcases Nat.lt_or_ge m n with h1 | h1
  · exact h1
  · have := digs_len_mono hb h1
    omega
/-- the borrow's bits -/
theorem top_bit (x : Nat) (h : x < 4294967296) : x / 2147483648 = if x.testBit 31 then 1 else 0 := by
  have e : x.testBit 31 = decide (x / 2 ^ 31 % 2 = 1) := Nat.testBit_eq_decide_div_mod_eq
  rw [e]
  have : (2 : Nat) ^ 31 = 2147483648 := by decide
  rw [this]
  have h2 : x / 2147483648 = 0 ∨ x / 2147483648 = 1 := by omega
  rcases h2 with h2 | h2 <;> rw [h2] <;> simp
theorem top_yes (x : Nat) (h : x < 4294967296) : x.testBit 31 = decide (2147483648 ≤ x) := by
  have := top_bit x h
  by_cases h1 : 2147483648 ≤ x
  · have h2 : x / 2147483648 = 1 := by omega
    rw [h2] at this
    cases hb : x.testBit 31
    · rw [hb] at this
      simp at this
    · simp [h1]
  · have h2 : x / 2147483648 = 0 := by omega
    rw [h2] at this
    cases hb : x.testBit 31
    · simp [h1]
    · rw [hb] at this
      simp at this
theorem borrow_bits (x y b : Nat) (hx : x < 4294967296) (hy : y < 4294967296) (hb : b ≤ 1) :
    (((4294967295 ^^^ x) &&& y) ||| ((4294967295 ^^^ (x ^^^ y)) &&& subLo x y b)) / 2147483648 = subHi x y b := by
  have hd := subLo_lt x y b hx hy hb
  have h1 : 4294967295 ^^^ x < 2 ^ 32 := Nat.xor_lt_two_pow (by decide) hx
  have h2 : x ^^^ y < 2 ^ 32 := Nat.xor_lt_two_pow hx hy
  have h3 : 4294967295 ^^^ (x ^^^ y) < 2 ^ 32 := Nat.xor_lt_two_pow (by decide) h2
  have h4 : (((4294967295 ^^^ x) &&& y) ||| ((4294967295 ^^^ (x ^^^ y)) &&& subLo x y b)) < 2 ^ 32 := Nat.or_lt_two_pow (Nat.and_lt_two_pow _ hy) (Nat.and_lt_two_pow _ hd)
  rw [top_bit _ h4]
  simp only [Nat.testBit_or, Nat.testBit_and, Nat.testBit_xor]
  have e31 : Nat.testBit 4294967295 31 = true := by decide
  rw [e31, top_yes x hx, top_yes y hy, top_yes _ hd]
  have e := sub_eq x y b hx hy hb
  have hh := subHi_le x y b
  by_cases p : 2147483648 ≤ x <;> by_cases q : 2147483648 ≤ y <;> by_cases r : 2147483648 ≤ subLo x y b <;> simp [p, q, r] <;> omega
theorem sub32_bits (x y b : Nat) (hx : x < 4294967296) (hy : y < 4294967296) (hb : b ≤ 1) :
    bits BinOp.or IntKind.u32 (bits BinOp.and IntKind.u32 (bits BinOp.xor IntKind.u32 IntKind.u32.max (x : Int)) (y : Int))
      (bits BinOp.and IntKind.u32 (bits BinOp.xor IntKind.u32 IntKind.u32.max (bits BinOp.xor IntKind.u32 (x : Int) (y : Int))) (subLo x y b : Int)) / 2147483648 = (subHi x y b : Int) := by
  have hd := subLo_lt x y b hx hy hb
  have h1 : 4294967295 ^^^ x < 4294967296 := Nat.xor_lt_two_pow (n := 32) (by decide) hx
  have h2 : x ^^^ y < 4294967296 := Nat.xor_lt_two_pow (n := 32) hx hy
  have h3 : 4294967295 ^^^ (x ^^^ y) < 4294967296 := Nat.xor_lt_two_pow (n := 32) (by decide) h2
  have hm : IntKind.u32.max = ((4294967295 : Nat) : Int) := by decide
  rw [hm, u32_xor_nat x y hx hy, u32_xor_nat _ x (by decide) hx, u32_xor_nat _ _ (by decide) h2, u32_and_nat _ y h1 hy, u32_and_nat _ _ h3 hd,
    u32_or_nat _ _ (Nat.and_lt_two_pow (n := 32) _ hy) (Nat.and_lt_two_pow (n := 32) _ hd), ← borrow_bits x y b hx hy hb]
  exact (Int.natCast_ediv _ _).symm
theorem subLo_int (x y b : Nat) (hx : x < 4294967296) (hy : y < 4294967296) (hb : b ≤ 1) : ((x : Int) - y - b) % 4294967296 = (subLo x y b : Int) := by
  have e := sub_eq x y b hx hy hb
  have hd := subLo_lt x y b hx hy hb
  have hh := subHi_le x y b
  omega
end Go.Proofs.YtkffojipgphneaaDoor.Nm
set_option linter.unusedVariables false
namespace Go.Proofs.YtkffojipgphneaaDoor.Nm
open Go.RowKit
theorem below_drewN {B : Nat} {a w : World} (h : Below B a w) (n : Nat) : Below B a (w.drewN n) := ⟨h.os, h.tape, h.output, h.size, h.block⟩
theorem below_then {w w1 w2 : World} (h : Below w.heap.size w w1) (k : Below w1.heap.size w1 w2) : Below w.heap.size w w2 := h.trans (k.mono h.size)
/-- a call that answers v and leaves the world alone is quiet -/
theorem calm {P : Program} {f : FuncId} {args : Array Value} {w : World} {n : Nat} {v : Value}
    (h : Calls P f args (w.drewN n) fun e w' => e = .returned v ∧ w.drewN n = w') : Calls P f args (w.drewN n) fun e w'' => e = .returned v ∧ ∃ m, w'' = w.drewN m :=
  h.mono fun _ _ ⟨he, hm⟩ => ⟨he, n, hm.symm⟩
theorem add_block (a : Addr) (n : Nat) : (a.add n).block = a.block := by unfold Addr.add; split <;> rfl
theorem add_add' (a : Addr) (i j : Nat) : (a.add i).add j = a.add (i + j) := by
  unfold Addr.add
  by_cases hi : i = 0 <;> by_cases hj : j = 0 <;> simp [hi, hj, Nat.add_assoc]
theorem add_none (g o j : Nat) : (⟨g, o, none⟩ : Addr).add j = ⟨g, o + j, none⟩ := by
  unfold Addr.add
  by_cases hj : j = 0 <;> simp [hj]
/-- a number's cell -/
def nv (k : IntKind) (x : Nat) : Value := .int k (x : Int)
/-- a list of numbers as cells of one kind -/
def cl (k : IntKind) (xs : List Nat) : List Value := xs.map (nv k)
theorem cl_len (k : IntKind) (xs : List Nat) : (cl k xs).length = xs.length := by simp [cl]
theorem cl_at (k : IntKind) (xs : List Nat) (i : Nat) : (cl k xs)[i]? = (xs[i]?).map (nv k) := by simp [cl]
theorem cl_hit (k : IntKind) (xs : List Nat) (i : Nat) (h : i < xs.length) : (cl k xs)[i]? = some (.int k (xs[i] : Nat)) := by
  rw [cl_at, List.getElem?_eq_getElem h]
  rfl
theorem cl_one (k : IntKind) (xs : List Nat) : ∀ u ∈ cl k xs, u.oneCell' = true := by
  intro u hu
  obtain ⟨x, _, rfl⟩ := List.mem_map.1 hu
  rfl
theorem cl_append (k : IntKind) (xs ys : List Nat) : cl k (xs ++ ys) = cl k xs ++ cl k ys := by simp [cl]
theorem cl_drop (k : IntKind) (xs : List Nat) (n : Nat) : cl k (xs.drop n) = (cl k xs).drop n := by simp [cl]
theorem cl_take (k : IntKind) (xs : List Nat) (n : Nat) : cl k (xs.take n) = (cl k xs).take n := by simp [cl]
/-- the slice at A of xs.length reads as xs, in w; it lies below block B -/
def Lim (k : IntKind) (B : Nat) (w : World) (A : Option Addr) (xs : List Nat) : Prop :=
  xs ≠ [] → ∃ ad, A = some ad ∧ ad.block < B ∧ ∀ i (h : i < xs.length), w.cell? (ad.add i) = some (.int k (xs[i] : Nat))
section
variable {k : IntKind} {B B' : Nat} {w w' : World} {A : Option Addr} {xs : List Nat}
theorem Lim.empty (A : Option Addr) : Lim k B w A [] := fun h => absurd rfl h
theorem Lim.at (h : Lim k B w A xs) {i : Nat} (hi : i < xs.length) : ∃ ad, A = some ad ∧ ad.block < B ∧ w.cell? (ad.add i) = some (.int k (xs[i] : Nat)) := by
  obtain ⟨ad, e, hb, hc⟩ := h (fun h0 => by subst h0; simp at hi)
  exact ⟨ad, e, hb, hc i hi⟩
theorem Lim.keep (h : Lim k B w A xs) (hk : ∀ p : Addr, p.block < B → w'.cell? p = w.cell? p) : Lim k B w' A xs := by
  intro h0
  obtain ⟨ad, e, hb, hc⟩ := h h0
  exact ⟨ad, e, hb, fun i hi => (hk _ (by rw [add_block]; exact hb)).trans (hc i hi)⟩
theorem Lim.more (h : Lim k B w A xs) (hB : B ≤ B') : Lim k B' w A xs := by
  intro h0
  obtain ⟨ad, e, hb, hc⟩ := h h0
  exact ⟨ad, e, by omega, hc⟩
theorem Lim.below (h : Lim k B w A xs) (hb : Below B w w') : Lim k B w' A xs := h.keep fun _ hp => hb.cell hp
theorem Lim.below' (h : Lim k w.heap.size w A xs) (hb : Below w.heap.size w w') : Lim k w'.heap.size w' A xs := (h.keep fun _ hp => hb.cell hp).more hb.size
theorem Lim.drewN (h : Lim k B w A xs) (n : Nat) : Lim k B (w.drewN n) A xs := h
theorem Lim.alloc (h : Lim k B w A xs) (hB : B ≤ w.heap.size) (o : Obj) : Lim k B (w.alloc o) A xs := h.keep fun p hp => World.cell?_alloc_lt w o p (by omega)
theorem Lim.setCell (h : Lim k B w A xs) {p : Addr} (hB : B ≤ p.block) (u : Value) : Lim k B (w.setCell p u) A xs := h.keep fun q hq => World.cell?_setCell_other w p q u (fun e => by subst e; omega)
theorem Lim.grown (h : Lim k B w A xs) {row : Option Nat} (hg : w.grownBy w' row) (hB : B ≤ w.heap.size) (hr : ∀ g, row = some g → B ≤ g) : Lim k B w' A xs :=
  h.keep fun p hp => World.cell?_of_block (hg.block p.block (by omega) (fun e => by have := hr _ e.symm; omega))
theorem Lim.take (h : Lim k B w A xs) (n : Nat) : Lim k B w A (xs.take n) := by
  intro h0
  obtain ⟨ad, e, hb, hc⟩ := h (fun h1 => h0 (by simp [h1]))
  refine ⟨ad, e, hb, fun i hi => ?_⟩
  rw [List.getElem_take]
  exact hc i _
theorem Lim.trim (h : Lim k B w A xs) : Lim k B w A (trimL xs) := by
  rw [trimL_take]
  exact h.take _
theorem Lim.cut (h : Lim k B w A xs) {i c : Nat} (hc : xs.length ≤ c) : Lim k B w (if c = i then A else A.map (·.add i)) (xs.drop i) := by
  intro h0
  have hl : i < xs.length := by
    rcases Nat.lt_or_ge i xs.length with h1 | h1
    · exact h1
    · exact absurd (List.drop_eq_nil_of_le h1) h0
  obtain ⟨ad, rfl, hb, hcell⟩ := h (fun h1 => by subst h1; simp at hl)
  rw [if_neg (by omega)]
  refine ⟨ad.add i, rfl, by rw [add_block]; exact hb, fun j hj => ?_⟩
  rw [add_add', List.getElem_drop]
  exact hcell _ _
theorem Lim.of_own {base : Nat} {e : TypeId} {c : Nat} (h : w.ownsRow base e 1 (.slice A xs.length c) xs.length (cl k xs)) : Lim k w.heap.size w A xs := by
  intro h0
  have hn : 0 < xs.length := List.length_pos_iff.2 h0
  obtain ⟨g, cap, hv, _, hlt⟩ := h.form hn
  have hA : A = some ⟨g, 0, none⟩ := by injection hv
  subst hA
  exact ⟨_, rfl, hlt, fun i hi => h.cells (g := g) rfl i _ (cl_hit k xs i hi)⟩
/-- the cells as the library's laws want them -/
theorem Lim.cells {ad : Addr} (h : Lim k B w (some ad) xs) : ∀ (j : Nat) (u : Value), (cl k xs)[j]? = some u → w.cell? (ad.add j) = some u := by
  intro j u hu
  have hj : j < xs.length := by
    rcases Nat.lt_or_ge j xs.length with h1 | h1
    · exact h1
    · rw [List.getElem?_eq_none (by simpa [cl_len] using h1)] at hu
      cases hu
  obtain ⟨ad', e, _, hc⟩ := h.at hj
  injection e with e
  subst e
  rw [cl_hit k xs j hj] at hu
  exact hc.trans hu
end
/-- block g is just the numbers xs, of one kind -/
def Nums (k : IntKind) (t : TypeId) (w : World) (g : Nat) (xs : List Nat) : Prop := w.heap[g]? = some (.cells (cl k xs).toArray t (0, 0))
section
variable {k : IntKind} {t : TypeId} {w w' : World} {g : Nat} {xs : List Nat}
theorem Nums.lt (h : Nums k t w g xs) : g < w.heap.size := by
  rcases Nat.lt_or_ge g w.heap.size with h1 | h1
  · exact h1
  · unfold Nums at h
    rw [Array.getElem?_eq_none h1] at h
    cases h
theorem Nums.at (h : Nums k t w g xs) {i : Nat} (hi : i < xs.length) : w.cell? ⟨g, i, none⟩ = some (.int k (xs[i] : Nat)) := by
  rw [cell_of_row w g i _ t (0, 0) h, List.getElem?_toArray, cl_hit k xs i hi]
theorem Nums.free (h : Nums k t w g xs) (i : Nat) : w.frozen? ⟨g, i, none⟩ = false := by
  unfold Nums at h
  simp [World.frozen?, h]
theorem Nums.made (w : World) (t : TypeId) (k : IntKind) (xs : List Nat) : Nums k t (w.alloc (.cells (cl k xs).toArray t)) w.heap.size xs := heap_alloc_new w _
theorem Nums.set (h : Nums k t w g xs) (i x : Nat) : Nums k t (w.setCell ⟨g, i, none⟩ (.int k x)) g (xs.set i x) := by
  have e : (cl k (xs.set i x)).toArray = (cl k xs).toArray.setIfInBounds i (.int k x) := by simp [cl, List.map_set, nv]
  unfold Nums at h ⊢
  rw [e]
  simp [World.setCell, Array.getElem?_modify, h]
theorem Nums.drewN (h : Nums k t w g xs) (n : Nat) : Nums k t (w.drewN n) g xs := h
theorem Nums.alloc (h : Nums k t w g xs) (o : Obj) : Nums k t (w.alloc o) g xs := (Below.heap_alloc w o g h.lt).trans h
theorem Nums.below {B : Nat} (h : Nums k t w g xs) (hb : Below B w w') (hg : g < B) : Nums k t w' g xs := (hb.block g hg).trans h
theorem Nums.grown {row : Option Nat} (h : Nums k t w g xs) (hb : w.grownBy w' row) (hg : some g ≠ row) : Nums k t w' g xs := (hb.block g h.lt hg).trans h
theorem Nums.far (h : Nums k t w g xs) {p : Addr} (hp : g ≠ p.block) (u : Value) : Nums k t (w.setCell p u) g xs := (Below.heap_setCell w p u g hp).trans h
theorem Nums.lim (h : Nums k t w g xs) : Lim k w.heap.size w (some ⟨g, 0, none⟩) xs :=
  fun _ => ⟨_, rfl, h.lt, fun i hi => by rw [add_none, Nat.zero_add]; exact h.at hi⟩
theorem Nums.part (h : Nums k t w g xs) (o : Nat) : Lim k w.heap.size w (some ⟨g, o, none⟩) (xs.drop o) :=
  fun _ => ⟨_, rfl, h.lt, fun i hi => by rw [add_none, List.getElem_drop]; exact h.at _⟩
end
end Go.Proofs.YtkffojipgphneaaDoor.Nm
