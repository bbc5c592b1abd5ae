set_option linter.unusedVariables false
namespace Go.Proofs.YtocoflojlliapaaDoor
/-- what digits of base b come to, the lowest first -/
def val (b : Nat) : List Nat → Nat
  | [] => 0
  | x :: l => x + b * val b l
/-- without noughts at the end -/
def trimL : List Nat → List Nat
  | [] => []
  | x :: l => if x = 0 ∧ trimL l = [] then [] else x :: trimL l
/-- n's digits of base b, with fuel -/
def digsF (b : Nat) : Nat → Nat → List Nat
  | 0, _ => []
  | f + 1, n => if n = 0 then [] else n % b :: digsF b f (n / b)
/-- n's digits of base b -/
def digs (b n : Nat) : List Nat := digsF b n n
def Low (b : Nat) (l : List Nat) : Prop := ∀ x ∈ l, x < b

theorem Low.nil {b : Nat} : Low b [] := fun _ h => by cases h
theorem Low.cons {b x : Nat} {l : List Nat} (hx : x < b) (h : Low b l) : Low b (x :: l) := by
  intro y hy
  rcases List.mem_cons.1 hy with rfl | hy
  · exact hx
  · exact h y hy
theorem Low.head {b x : Nat} {l : List Nat} (h : Low b (x :: l)) : x < b := h x (by simp)
theorem Low.tail {b x : Nat} {l : List Nat} (h : Low b (x :: l)) : Low b l := fun y hy => h y (by simp [hy])
theorem Low.append {b : Nat} {l m : List Nat} (h : Low b l) (k : Low b m) : Low b (l ++ m) := by
  intro y hy
  rcases List.mem_append.1 hy with hy | hy
  · exact h y hy
  · exact k y hy
theorem Low.take {b : Nat} {l : List Nat} (h : Low b l) (k : Nat) : Low b (l.take k) := fun y hy => h y (List.mem_of_mem_take hy)
theorem Low.drop {b : Nat} {l : List Nat} (h : Low b l) (k : Nat) : Low b (l.drop k) := fun y hy => h y (List.mem_of_mem_drop hy)
theorem Low.getD {b : Nat} {l : List Nat} (h : Low b l) (hb : 0 < b) (k : Nat) : l.getD k 0 < b := by
  rw [List.getD_eq_getElem?_getD]
  rcases hk : l[k]? with _ | x
  · simpa using hb
  · exact h x (List.mem_of_getElem? hk)
theorem Low.at {b : Nat} {l : List Nat} (h : Low b l) {k : Nat} (hk : k < l.length) : l[k] < b := h _ (List.getElem_mem hk)
theorem Low.rep {b : Nat} (hb : 0 < b) (n : Nat) : Low b (List.replicate n 0) := by
  intro y hy
  have := List.eq_of_mem_replicate hy
  omega
theorem Low.set {b : Nat} {l : List Nat} (h : Low b l) {k x : Nat} (hx : x < b) : Low b (l.set k x) := by
  intro y hy
  rcases List.mem_or_eq_of_mem_set hy with hy | rfl
  · exact h y hy
  · exact hx

theorem digsF_more (b : Nat) (hb : 2 ≤ b) : ∀ (f g n : Nat), n ≤ f → n ≤ g → digsF b f n = digsF b g n
  | 0, g, n, hf, _ => by
    have : n = 0 := by omega
    subst this
    cases g <;> simp [digsF]
  | f + 1, 0, n, _, hg => by
    have : n = 0 := by omega
    subst this
    simp [digsF]
  | f + 1, g + 1, n, hf, hg => by
    by_cases h : n = 0
    · simp [digsF, h]
    · have : n / b < n := Nat.div_lt_self (by omega) (by omega)
      simp only [digsF, if_neg h]
      rw [digsF_more b hb f g (n / b) (by omega) (by omega)]
theorem digs_zero (b : Nat) : digs b 0 = [] := rfl
theorem digs_pos {b n : Nat} (hb : 2 ≤ b) (hn : n ≠ 0) : digs b n = n % b :: digs b (n / b) := by
  have h1 : n / b < n := Nat.div_lt_self (by omega) (by omega)
  unfold digs
  rcases n with _ | n
  · exact absurd rfl hn
  · simp only [digsF]
    rw [if_neg (by omega), digsF_more b hb n ((n + 1) / b) ((n + 1) / b) (by omega) (by omega)]
theorem digs_nil {b n : Nat} (hb : 2 ≤ b) : digs b n = [] ↔ n = 0 := by
  constructor
  · intro h
    by_cases hn : n = 0
    · exact hn
    · rw [digs_pos hb hn] at h
      cases h
  · rintro rfl
    rfl
theorem digs_val {b : Nat} (hb : 2 ≤ b) (n : Nat) : val b (digs b n) = n := by
  induction n using Nat.strongRecOn with
  | _ n ih =>
    by_cases hn : n = 0
    · subst hn
      rfl
    · have h1 : n / b < n := Nat.div_lt_self (by omega) (by omega)
      rw [digs_pos hb hn, val, ih _ h1]
      exact Nat.mod_add_div n b
theorem digs_low {b : Nat} (hb : 2 ≤ b) (n : Nat) : Low b (digs b n) := by
  induction n using Nat.strongRecOn with
  | _ n ih =>
    by_cases hn : n = 0
    · subst hn
      exact Low.nil
    · have h1 : n / b < n := Nat.div_lt_self (by omega) (by omega)
      rw [digs_pos hb hn]
      exact Low.cons (Nat.mod_lt _ (by omega)) (ih _ h1)
theorem trimL_nil {b : Nat} (hb : 2 ≤ b) : ∀ {l : List Nat}, trimL l = [] ↔ val b l = 0
  | [] => by simp [trimL, val]
  | x :: l => by
    have ih := trimL_nil hb (l := l)
    simp only [trimL, val]
    by_cases h : x = 0 ∧ trimL l = []
    · rw [if_pos h, h.1, ih.1 h.2]
      simp
    · rw [if_neg h]
      constructor
      · intro h'
        cases h'
      · intro hv
        have h0 : x = 0 := by omega
        have h1 : b * val b l = 0 := by omega
        rcases Nat.mul_eq_zero.1 h1 with h2 | h2
        · omega
        · exact absurd ⟨h0, ih.2 h2⟩ h
theorem digs_of {b : Nat} (hb : 2 ≤ b) : ∀ {l : List Nat}, Low b l → digs b (val b l) = trimL l
  | [], _ => rfl
  | x :: l, h => by
    have ih := digs_of hb h.tail
    have hx := h.head
    simp only [trimL]
    by_cases hz : x = 0 ∧ trimL l = []
    · rw [if_pos hz]
      refine (digs_nil hb).2 ?_
      simp [val, hz.1, (trimL_nil hb).1 hz.2]
    · rw [if_neg hz]
      have hn : val b (x :: l) ≠ 0 := fun h0 => by
        have := (trimL_nil hb (l := x :: l)).2 h0
        simp only [trimL, if_neg hz] at this
        cases this
      rw [digs_pos hb hn]
      simp only [val]
      rw [Nat.add_mul_mod_self_left, Nat.mod_eq_of_lt hx, Nat.add_mul_div_left _ _ (by omega), Nat.div_eq_of_lt hx, Nat.zero_add, ih]
theorem digs_trim {b : Nat} (hb : 2 ≤ b) (n : Nat) : trimL (digs b n) = digs b n := by
  rw [← digs_of hb (digs_low hb n), digs_val hb]
theorem val_trim {b : Nat} (hb : 2 ≤ b) {l : List Nat} (h : Low b l) : val b (trimL l) = val b l := by
  rw [← digs_of hb h, digs_val hb]
theorem val_append (b : Nat) : ∀ (l m : List Nat), val b (l ++ m) = val b l + b ^ l.length * val b m
  | [], m => by simp [val]
  | x :: l, m => by
    simp only [List.cons_append, val, val_append b l m, List.length_cons, Nat.pow_succ]
    rw [Nat.mul_add, Nat.mul_comm (b ^ l.length) b, Nat.mul_assoc, Nat.add_assoc]
theorem val_lt {b : Nat} (hb : 2 ≤ b) : ∀ {l : List Nat}, Low b l → val b l < b ^ l.length
  | [], _ => by simp [val]
  | x :: l, h => by
    have ih := val_lt hb h.tail
    have hx := h.head
    simp only [val, List.length_cons, Nat.pow_succ]
    have h1 : b * (val b l + 1) ≤ b * b ^ l.length := Nat.mul_le_mul_left _ ih
    rw [Nat.mul_add] at h1
    rw [Nat.mul_comm (b ^ l.length) b]
    omega
theorem val_rep (b n : Nat) : val b (List.replicate n 0) = 0 := by
  induction n with
  | zero => rfl
  | succ n ih => simp [List.replicate_succ, val, ih]
theorem trimL_len : ∀ (l : List Nat), (trimL l).length ≤ l.length
  | [] => by simp [trimL]
  | x :: l => by
    have := trimL_len l
    simp only [trimL]
    split <;> simp <;> omega
theorem trimL_take : ∀ (l : List Nat), trimL l = l.take (trimL l).length
  | [] => by simp [trimL]
  | x :: l => by
    have := trimL_take l
    simp only [trimL]
    split
    · simp
    · simp only [List.length_cons, List.take_succ_cons]
      rw [← this]
theorem trimL_zero : ∀ (l : List Nat), trimL (l ++ [0]) = trimL l
  | [] => by simp [trimL]
  | x :: l => by
    have := trimL_zero l
    simp only [List.cons_append, trimL, this]
theorem trimL_last {x : Nat} (hx : x ≠ 0) : ∀ (l : List Nat), trimL (l ++ [x]) = l ++ [x]
  | [] => by simp [trimL, hx]
  | y :: l => by
    have := trimL_last hx l
    simp [List.cons_append, trimL, this]
theorem pow_mono {b i j : Nat} (hb : 2 ≤ b) (h : i ≤ j) : b ^ i ≤ b ^ j := Nat.pow_le_pow_right (by omega) h
theorem digs_pow {b : Nat} (hb : 2 ≤ b) (n : Nat) (hn : n ≠ 0) : b ^ ((digs b n).length - 1) ≤ n := by
  induction n using Nat.strongRecOn with
  | _ n ih =>
    have h1 : n / b < n := Nat.div_lt_self (by omega) (by omega)
    rw [digs_pos hb hn]
    simp only [List.length_cons, Nat.add_sub_cancel]
    by_cases hz : n / b = 0
    · rw [hz, digs_zero]
      simp
      omega
    · have := ih _ h1 hz
      have hp : 0 < (digs b (n / b)).length := by
        rcases hd : digs b (n / b) with _ | ⟨x, l⟩
        · exact absurd ((digs_nil hb).1 hd) hz
        · simp
      have h2 : b ^ (digs b (n / b)).length = b ^ ((digs b (n / b)).length - 1) * b := by
        rw [← Nat.pow_succ, Nat.succ_eq_add_one, Nat.sub_add_cancel hp]
      rw [h2]
      exact Nat.le_trans (Nat.mul_le_mul_right b this) (Nat.div_mul_le_self n b)
theorem digs_lt_pow {b : Nat} (hb : 2 ≤ b) (n : Nat) : n < b ^ (digs b n).length := by
  have := val_lt hb (digs_low hb n)
  rwa [digs_val hb] at this
theorem digs_len_le {b : Nat} (hb : 2 ≤ b) (n k : Nat) : (digs b n).length ≤ k ↔ n < b ^ k := by
  constructor
  · intro h
    exact Nat.lt_of_lt_of_le (digs_lt_pow hb n) (pow_mono hb h)
  · intro h
    by_cases hn : n = 0
    · subst hn
      simp [digs_zero]
    · have h1 := digs_pow hb n hn
      rcases Nat.lt_or_ge k (digs b n).length with hlt | hge
      · have := pow_mono (b := b) hb (i := k) (j := (digs b n).length - 1) (by omega)
        omega
      · exact hge
theorem digs_len_mono {b : Nat} (hb : 2 ≤ b) {m n : Nat} (h : m ≤ n) : (digs b m).length ≤ (digs b n).length :=
  (digs_len_le hb m _).2 (Nat.lt_of_le_of_lt h (digs_lt_pow hb n))
theorem digs_inj {b : Nat} (hb : 2 ≤ b) {m n : Nat} (h : digs b m = digs b n) : m = n := by
  rw [← digs_val hb m, h, digs_val hb]
theorem val_take_drop (b : Nat) (l : List Nat) (k : Nat) (hk : k ≤ l.length) : val b l = val b (l.take k) + b ^ k * val b (l.drop k) := by
  have := val_append b (l.take k) (l.drop k)
  rw [List.take_append_drop, List.length_take, Nat.min_eq_left hk] at this
  exact this
theorem val_snoc (b : Nat) (l : List Nat) (x : Nat) : val b (l ++ [x]) = val b l + b ^ l.length * x := by
  rw [val_append]; simp [val]
theorem take_snoc (l : List Nat) (k : Nat) (h : k < l.length) : l.take (k + 1) = l.take k ++ [l[k]] := by
  rw [List.take_succ_eq_append_getElem h]
theorem val_take_succ (b : Nat) (l : List Nat) (k : Nat) (h : k < l.length) : val b (l.take (k + 1)) = val b (l.take k) + b ^ k * l[k] := by
  rw [take_snoc l k h, val_snoc, List.length_take, Nat.min_eq_left (by omega)]
end Go.Proofs.YtocoflojlliapaaDoor
