/- For every limit and all acts, SegWords returns true: a word that was written is read so till it is written anew or its segment is given, a word newly used is 0, no other word is touched. No condition. -/
import Derived.Test.YtmhbbhlmiinobaaW3
import Derived.Deep.DeepCutAuto
set_option linter.unusedVariables false
set_option linter.unusedSimpArgs false
namespace Go.Proofs.Ytmhbbhlmiinobaa.segWords
open Go.ChangeShapes Go.WideShapes Go.ChangeAt Go.RowKit
open Go.Maps
/-- What holds at each round's head: the map has the words that are used. -/
def Inv (w : World) (mb n B i : Nat) (wr : World) : Prop := ∃ m : M, m.S.length = n ∧ WS w (fun k => k < w.heap.size ∨ k = B) mb m B (64 * i) (valOf m.S) (usedS m.S) wr
theorem Inv.mk' {w : World} {mb n B X i cnt sz : Nat} {m : M} {f : Int → Option Int} {wr : World} (hm : m.S.length = n) (h : WS w (fun k => (k < w.heap.size ∨ k = B) ∨ k = X) mb m B cnt f sz wr) (hf : ∀ a, f a = valOf m.S a) (hs : sz = usedS m.S) (hc : cnt ≤ 64 * (i + 1)) : Inv w mb n B (i + 1) wr := by
  subst hs
  exact ⟨m, hm, ((h.mono hc).congr hf).less (fun k hk => Or.inl hk) (Or.inr rfl) (fun k hk => Or.inl hk)⟩
theorem new_val (n : Nat) (a : Int) : valOf (M.new n).S a = none := by
  unfold valOf
  split
  · rfl
  · split
    · rename_i s hs
      have := (List.mem_replicate.1 (List.mem_of_getElem? hs)).2
      subst this
      rw [if_neg (by rintro ⟨h, _⟩; cases h)]
    · rfl
theorem new_used : ∀ n : Nat, usedS (List.replicate n Sg.zero) = 0
  | 0 => rfl
  | n + 1 => by simp only [List.replicate_succ, usedS, new_used n]; rfl
theorem start (w w1 : World) (mb n : Nat) (h1 : At (fun k => k < w.heap.size) w1 mb (M.new n)) (b1 : Below w.heap.size w w1) : Inv w mb n w1.heap.size 0 (w1.alloc (.map #[] 0)) :=
  ⟨M.new n, by simp [M.new], ⟨h1.more _, ⟨.map [], World.ownsMap_made _ _ _ _, ⟨tidy_empty, fun a => ⟨by rw [new_val]; rfl, fun x hx => by rw [new_val] at hx; cases hx⟩⟩, (new_used n).symm⟩, b1.alloc b1.size _, Or.inr rfl, b1.size, fun k hk => Or.inl hk⟩⟩
structure X5 (V : World) (b : Nat) (t : Ac) : Prop where
  o : V.heap[b]? = some (.cells #[.int .i64 t.d, .int .i64 t.a, .int .i64 t.b, .int .i64 t.c, .int .u64 t.x] 34 (0, 0))
theorem X5.keep {G : Nat → Prop} {V V' : World} {b : Nat} {t : Ac} (h : X5 V b t) (hk : Keep G V V') (hb : G b) : X5 V' b t := ⟨hk.heap hb h.o⟩
theorem X5.c0 {V : World} {b : Nat} {t : Ac} (h : X5 V b t) : V.cell? ⟨b, 0, none⟩ = some (.int .i64 t.d) := by rw [cell_of_row _ _ _ _ _ _ h.o]; rfl
theorem X5.c1 {V : World} {b : Nat} {t : Ac} (h : X5 V b t) : V.cell? ⟨b, 1, none⟩ = some (.int .i64 t.a) := by rw [cell_of_row _ _ _ _ _ _ h.o]; rfl
theorem X5.al {V : World} {b : Nat} {t : Ac} (h : X5 V b t) (o : Obj) : X5 (V.alloc o) b t := ⟨by rw [Below.heap_alloc _ _ _ (lt_of_block h.o)]; exact h.o⟩
theorem X5.c2 {V : World} {b : Nat} {t : Ac} (h : X5 V b t) : V.cell? ⟨b, 2, none⟩ = some (.int .i64 t.b) := by rw [cell_of_row _ _ _ _ _ _ h.o]; rfl
theorem X5.c4 {V : World} {b : Nat} {t : Ac} (h : X5 V b t) : V.cell? ⟨b, 4, none⟩ = some (.int .u64 t.x) := by rw [cell_of_row _ _ _ _ _ _ h.o]; rfl
set_option maxRecDepth 100000 in
set_option maxHeartbeats 8000000 in
theorem walk_good (n : Nat) (A : Option Addr) (l : List Ac) (c : Nat) (w : World) (h8 : 8 ≤ n) (hn : n ≤ 1024) (hA : Acts w A l) (hl : l.length ≤ 300) :
    Calls Try.prog 5 #[.int .i64 n, .slice A l.length c] w fun e w' => e = .returned (.bool true) ∧ Below w.heap.size w w' := by
  have H9 := Lib.hid (at_new (G := fun k => k < w.heap.size) n w (fun k hk => hk) h8 hn)
  have HA := Lib.hid hA
  clear hA
  obtain ⟨L, hL⟩ : ∃ L, L = l.length := ⟨_, rfl⟩
  rw [← hL] at hl ⊢
  have HL := Lib.hid hL
  clear hL
  have hmm := @run_makeMap Try.prog
  go_enter Try.func5, Try.ntmps5
  go_wp2_with fail
  go_at_call 9
  refine H9.out.mono ?_
  rintro e w1 ⟨rfl, h1, b1⟩
  obtain ⟨mb, hmb⟩ : ∃ mb, mb = w.heap.size + 1 := ⟨_, rfl⟩
  rw [← hmb] at h1 ⊢
  clear hmb
  have HI := Lib.hid (start w w1 mb n h1 (b1.below (Nat.le_refl _) (fun k hk => hk)))
  clear h1 b1
  go_wp2_with fail
  generalize w1.alloc (.map #[] 0) = w2 at HI ⊢
  generalize w1.heap.size = B at HI ⊢
  clear hmm
  go_loopw [8] (fun iv wr => ∃ i : Nat, i ≤ L ∧ iv = .int .i64 i ∧ Hid (Inv w mb n B i wr)) (fun iv _ => L - (intOf iv).toNat)
  case atStart => exact ⟨0, by omega, rfl, HI⟩
  case round =>
    obtain ⟨i, hi, rfl, hI⟩ := hrel
    obtain ⟨V, hV⟩ : ∃ V, V = wr := ⟨_, rfl⟩
    rw [← hV] at hI ⊢
    clear hV
    by_cases hlt : i < L
    · obtain ⟨t, ht⟩ : ∃ t, l[i]? = some t := ⟨_, List.getElem?_eq_getElem (by have := HL.out; omega)⟩
      obtain ⟨m, hm, hws⟩ := hI.out
      have hbV := hws.b
      rcases HA.out with h0 | ⟨b, o, rfl, hb, hc⟩
      · rw [h0] at ht; simp at ht
      obtain ⟨tok, hcells⟩ := hc i t ht
      have k0 : V.cell? ⟨b, o + i * 5, none⟩ = some (.int .i64 t.d) := (hbV.cell (p := ⟨b, o + i * 5, none⟩) hb).trans (hcells 0 _ rfl)
      have k1 : V.cell? ⟨b, o + i * 5 + 1, none⟩ = some (.int .i64 t.a) := (hbV.cell (p := ⟨b, o + i * 5 + 1, none⟩) hb).trans (hcells 1 _ rfl)
      have k2 : V.cell? ⟨b, o + i * 5 + 2, none⟩ = some (.int .i64 t.b) := (hbV.cell (p := ⟨b, o + i * 5 + 2, none⟩) hb).trans (hcells 2 _ rfl)
      have k3 : V.cell? ⟨b, o + i * 5 + 3, none⟩ = some (.int .i64 t.c) := (hbV.cell (p := ⟨b, o + i * 5 + 3, none⟩) hb).trans (hcells 3 _ rfl)
      have k4 : V.cell? ⟨b, o + i * 5 + 4, none⟩ = some (.int .u64 t.x) := (hbV.cell (p := ⟨b, o + i * 5 + 4, none⟩) hb).trans (hcells 4 _ rfl)
      clear hcells hc ht hbV
      obtain ⟨X, hX⟩ : ∃ X, X = V.heap.size := ⟨_, rfl⟩
      have hws1 := hws.more (.cells #[.int .i64 t.d, .int .i64 t.a, .int .i64 t.b, .int .i64 t.c, .int .u64 t.x] 34)
      have hx1 : X5 (V.alloc (.cells #[.int .i64 t.d, .int .i64 t.a, .int .i64 t.b, .int .i64 t.c, .int .u64 t.x] 34)) X t := ⟨by rw [hX]; exact heap_alloc_new _ _⟩
      have hBX : B ≠ X := by
        obtain ⟨D, h1, _⟩ := hws.d
        have := h1.lt
        omega
      rw [← hX] at hws1
      have HX := Lib.hid hX
      clear hX
      have HM := Lib.hid hm
      have ta := tok.a
      have hWS0 := Lib.hid hws
      clear hws hm hI
      by_cases hd0 : t.d = 0
      · have e0 : (t.d == 0) = true := by rw [hd0]; rfl
        clear hd0
        go_wp2_with fail
        rw [show V.heap.size = X from HX.out.symm]
        generalize V.alloc (.cells #[.int .i64 t.d, .int .i64 t.a, .int .i64 t.b, .int .i64 t.c, .int .u64 t.x] 34) = V1 at hws1 hx1 ⊢
        clear k0 k1 k2 k3 k4
        go_at_call 13
        refine (at_take_any hws1.a t.a t.b).mono ?_
        rintro e V2 ⟨r, x, m2, rfl, hm2, hv2, hu2, hat2, kp2⟩
        have x0 := (hx1.keep kp2 (Or.inr rfl)).c0
        have HF : Hid (Inv w mb n B (i + 1) V2) := Lib.hid (Inv.mk' (hm2.trans HM.out) (hws1.call hat2 kp2) hv2 hu2.symm (by omega))
        clear hws1
        go_wp2_with fail
        go_roundw
        case rel => exact ⟨i + 1, by omega, by go_num, HF⟩
        case measure => simp [intOf]; omega
      · by_cases hd1 : t.d = 1
        · have e0 : (t.d == 0) = false := beq_eq_false_iff_ne.2 hd0
          have e1 : (t.d == 1) = true := by rw [hd1]; rfl
          clear hd0 hd1
          rcases has_dec m t.a with ⟨j, s, hja, hi'⟩ | hno
          · have HJ := Lib.hid hja
            clear hja
            go_wp2_with fail
            rw [show V.heap.size = X from HX.out.symm]
            generalize V.alloc (.cells #[.int .i64 t.d, .int .i64 t.a, .int .i64 t.b, .int .i64 t.c, .int .u64 t.x] 34) = V1 at hws1 hx1 ⊢
            clear k0 k1 k2 k3 k4
            rw [HJ.out]
            go_at_call 15
            refine (at_give hws1.a hi').mono ?_
            rintro e V2 ⟨rfl, hat2, kp2⟩
            have hsn := (hws1.a.ok.all.get hi'.1).n
            have hj1 : j < 1024 := by have := get_lt hi'.1; have := hws1.a.ok.hi; omega
            have hnu := n_le_used hi'
            have HH := Lib.hid (And.intro hws1.a.ok hi')
            have hx2 := hx1.keep kp2 (Or.inr rfl)
            have hws2 := ((hws1.call hat2 kp2).congr (f' := gone m j 0) (fun a => (gone_start a).symm))
            have HL1 : Hid (X5 V2 X t ∧ WS w (fun k => (k < w.heap.size ∨ k = B) ∨ k = X) mb (m.given j s) B (64 * i) (gone m j 0) (usedS m.S - min 0 s.n) V2) := Lib.hid ⟨hx2, by simpa using hws2⟩
            clear hws1 hx1 hat2 kp2 hx2 hws2 hi'
            go_wp2_with fail
            go_loopw [10] (fun kv wr => ∃ k : Nat, k ≤ 64 ∧ kv = .int .i64 k ∧ Hid (X5 wr X t ∧ WS w (fun k => (k < w.heap.size ∨ k = B) ∨ k = X) mb (m.given j s) B (64 * i) (gone m j k) (usedS m.S - min k s.n) wr)) (fun kv _ => 64 - (intOf kv).toNat)
            case atStart => exact ⟨0, by omega, rfl, HL1⟩
            case round =>
              obtain ⟨k, hk, rfl, hJ⟩ := hrel
              obtain ⟨U, hU⟩ : ∃ U, U = wr := ⟨_, rfl⟩
              rw [← hU] at hJ ⊢
              clear hU
              have x0 := hJ.out.1.c0
              by_cases hk64 : k < 64
              · have x1 : U.cell? ⟨X, 1, none⟩ = some (.int .i64 j) := by rw [hJ.out.1.c1, HJ.out]
                obtain ⟨U2, hrun, hws3, hkp3⟩ := hJ.out.2.del (a := (j : Int) * 64 + (k : Int)) (by omega) 0
                rw [gone_at HH.out.1 HH.out.2 hk64] at hws3
                have HL2 : Hid (X5 U2 X t ∧ WS w (fun k => (k < w.heap.size ∨ k = B) ∨ k = X) mb (m.given j s) B (64 * i) (gone m j (k + 1)) (usedS m.S - min (k + 1) s.n) U2) := by
                  refine Lib.hid ⟨hJ.out.1.keep hkp3 (fun e => hBX e.symm), ?_⟩
                  have h4 := hws3.congr (f' := gone m j (k + 1)) (fun a => (gone_step k a).symm)
                  have e1 : usedS m.S - min k s.n - (if decide (k < s.n) = true then 1 else 0) = usedS m.S - min (k + 1) s.n := by
                    by_cases h5 : k < s.n
                    · rw [if_pos (by simpa using h5)]; omega
                    · rw [if_neg (by simpa using h5)]; omega
                  rw [e1] at h4
                  exact h4
                clear hws3 hkp3
                go_wp2_with fail
                go_roundw
                case rel => exact ⟨k + 1, by omega, by go_num, HL2⟩
                case measure => simp [intOf]; omega
              · obtain rfl : k = 64 := by omega
                have HF : Hid (Inv w mb n B (i + 1) U) := Lib.hid (Inv.mk' (given_S.trans HM.out) hJ.out.2 (fun a => gone_end HH.out.2 a) (by rw [used_given HH.out.2]; omega) (by omega))
                go_wp2_with fail
                go_roundw
                case rel => exact ⟨i + 1, by omega, by go_num, HF⟩
                case measure => simp [intOf]; omega
          · go_wp2_with fail
            rw [show V.heap.size = X from HX.out.symm]
            generalize V.alloc (.cells #[.int .i64 t.d, .int .i64 t.a, .int .i64 t.b, .int .i64 t.c, .int .u64 t.x] 34) = V1 at hws1 hx1 ⊢
            clear k0 k1 k2 k3 k4
            go_at_call 15
            refine (give_none hws1.a.2 hno).mono ?_
            rintro e V2 ⟨rfl, hb2⟩
            have x0 := (hx1.keep (Keep.any (G := fun _ => True) hb2) trivial).c0
            have HF : Hid (Inv w mb n B (i + 1) V2) := Lib.hid (Inv.mk' HM.out (hws1.below hb2) (fun _ => rfl) rfl (by omega))
            clear hws1 hno
            go_wp2_with fail
            go_roundw
            case rel => exact ⟨i + 1, by omega, by go_num, HF⟩
            case measure => simp [intOf]; omega
        · by_cases hd2 : t.d = 2
          · have e0 : (t.d == 0) = false := beq_eq_false_iff_ne.2 hd0
            have e1 : (t.d == 1) = false := beq_eq_false_iff_ne.2 hd1
            have e2 : (t.d == 2) = true := by rw [hd2]; rfl
            clear hd0 hd1 hd2
            have tb := tok.b
            rcases bump_refused hws1.a t.a t.b tb.2 with ⟨j, s, q, hja, hi', hq, hq1, hq2⟩ | ⟨x, hx0, hcall⟩
            · have HJ := Lib.hid hja
              have HQ := Lib.hid hq
              clear hja hq
              go_wp2_with fail
              rw [show V.heap.size = X from HX.out.symm]
              generalize V.alloc (.cells #[.int .i64 t.d, .int .i64 t.a, .int .i64 t.b, .int .i64 t.c, .int .u64 t.x] 34) = V1 at hws1 hx1 ⊢
              clear k0 k1 k2 k3 k4
              rw [HJ.out, HQ.out]
              go_at_call 17
              refine (at_bump hws1.a hi' hq1 hq2).mono ?_
              rintro e V2 ⟨rfl, hat2, kp2⟩
              have hj1 : j < 1024 := by have := get_lt hi'.1; have := hws1.a.ok.hi; omega
              have HH := Lib.hid (And.intro hws1.a.ok hi')
              have hx2 := hx1.keep kp2 (Or.inr rfl)
              have hws2 := ((hws1.call hat2 kp2).congr (f' := valOf (m.put j (s.bump 0)).S) (fun a => by rw [put_self hi']))
              have HL1 : Hid (X5 V2 X t ∧ WS w (fun k => (k < w.heap.size ∨ k = B) ∨ k = X) mb (m.put j (s.bump q)) B (64 * i + 0) (valOf (m.put j (s.bump 0)).S) (usedS m.S + 0) V2) := Lib.hid ⟨hx2, hws2⟩
              clear hws1 hx1 hat2 kp2 hx2 hws2 hi'
              go_wp2_with fail
              go_loopw [13] (fun kv wr => ∃ k : Nat, k ≤ q ∧ kv = .int .i64 k ∧ Hid (X5 wr X t ∧ WS w (fun k => (k < w.heap.size ∨ k = B) ∨ k = X) mb (m.put j (s.bump q)) B (64 * i + k) (valOf (m.put j (s.bump k)).S) (usedS m.S + k) wr)) (fun kv _ => q - (intOf kv).toNat)
              case atStart => exact ⟨0, by omega, rfl, HL1⟩
              case round =>
                obtain ⟨k, hk, rfl, hJ⟩ := hrel
                obtain ⟨U, hU⟩ : ∃ U, U = wr := ⟨_, rfl⟩
                rw [← hU] at hJ ⊢
                clear hU
                have x0 := hJ.out.1.c0
                have x2 : U.cell? ⟨X, 2, none⟩ = some (.int .i64 q) := by rw [hJ.out.1.c2, HQ.out]
                by_cases hkq : k < q
                · obtain ⟨cc, hlook⟩ := hJ.out.2.look (a := (j : Int) * 64 + (s.n : Int) + (k : Int)) (by omega)
                  rw [bump_new HH.out.2 (by omega)] at hlook
                  obtain ⟨U2, hrun, hws3, hkp3⟩ := hJ.out.2.put (a := (j : Int) * 64 + (s.n : Int) + (k : Int)) (x := 0) (by omega) (by omega) (by omega)
                  rw [bump_new HH.out.2 (by omega)] at hws3
                  have HL2 : Hid (X5 U2 X t ∧ WS w (fun k => (k < w.heap.size ∨ k = B) ∨ k = X) mb (m.put j (s.bump q)) B (64 * i + (k + 1)) (valOf (m.put j (s.bump (k + 1))).S) (usedS m.S + (k + 1)) U2) := by
                    refine Lib.hid ⟨hJ.out.1.keep hkp3 (fun e => hBX e.symm), ?_⟩
                    exact hws3.congr (fun a => (bump_step HH.out.1 HH.out.2 (by omega) a).symm)
                  clear hws3 hkp3
                  go_wp2_with fail
                  go_roundw
                  case rel => exact ⟨k + 1, by omega, by go_num, HL2⟩
                  case measure => simp [intOf]; omega
                · obtain rfl : k = q := by omega
                  have HF : Hid (Inv w mb n B (i + 1) U) := Lib.hid (Inv.mk' (by simp only [M.put, List.length_set]; exact HM.out) hJ.out.2 (fun _ => rfl) (used_bump HH.out.2 k).symm (by omega))
                  go_wp2_with fail
                  go_roundw
                  case rel => exact ⟨i + 1, by omega, by go_num, HF⟩
                  case measure => simp [intOf]; omega
            · have HF : Hid (Inv w mb n B (i + 1) (V.alloc (.cells #[.int .i64 t.d, .int .i64 t.a, .int .i64 t.b, .int .i64 t.c, .int .u64 t.x] 34))) := Lib.hid (Inv.mk' HM.out hws1 (fun _ => rfl) rfl (by omega))
              clear hws1
              go_wp2_with fail
              rw [show V.heap.size = X from HX.out.symm]
              go_at_call 17
              refine hcall.mono ?_
              rintro e V2 ⟨rfl, rfl⟩
              clear hcall
              go_wp2_with fail
              go_roundw
              case rel => exact ⟨i + 1, by omega, by go_num, HF⟩
              case measure => simp [intOf]; omega
          · by_cases hd3 : t.d = 3
            · have e0 : (t.d == 0) = false := beq_eq_false_iff_ne.2 hd0
              have e1 : (t.d == 1) = false := beq_eq_false_iff_ne.2 hd1
              have e2 : (t.d == 2) = false := beq_eq_false_iff_ne.2 hd2
              have e3 : (t.d == 3) = true := by rw [hd3]; rfl
              clear hd0 hd1 hd2 hd3
              obtain ⟨cc, hlook⟩ := hws1.look ta
              have hxx := tok.x
              rcases used_dec m t.a with ⟨j, s, hu⟩ | hno
              · obtain ⟨y, hy1, hy2⟩ := val_some hws1.a.ok hu
                rw [hy2] at hlook
                have hbb : (true != (some y : Option Int).isSome) = false := rfl
                go_wp2_with fail
                clear hlook
                rw [show V.heap.size = X from HX.out.symm]
                generalize V.alloc (.cells #[.int .i64 t.d, .int .i64 t.a, .int .i64 t.b, .int .i64 t.c, .int .u64 t.x] 34) = V1 at hws1 hx1 ⊢
                clear k0 k1 k2 k3 k4
                go_at_call 14
                refine (at_write hws1.a hu t.x).mono ?_
                rintro e V2 ⟨rfl, hat2, kp2⟩
                have hx2 := hx1.keep kp2 (Or.inr rfl)
                have x0 := hx2.c0
                have x1 := hx2.c1
                have x4 := hx2.c4
                obtain ⟨V3, hrun, hws3, hkp3⟩ := (hws1.call hat2 kp2).put ta hxx (by omega)
                rw [hy2] at hws3
                have y0 := (hx2.keep hkp3 (fun e => hBX e.symm)).c0
                have HF : Hid (Inv w mb n B (i + 1) V3) := Lib.hid (Inv.mk' (by simp only [M.put, List.length_set]; exact HM.out) hws3 (fun a => (val_write hws1.a.ok hu t.x a).symm) (by rw [used_write hu.2.2.1]; rfl) (by omega))
                clear hws1 hws3 hu hx2 hy1 hy2
                go_wp2_with fail
                go_roundw
                case rel => exact ⟨i + 1, by omega, by go_num, HF⟩
                case measure => simp [intOf]; omega
              · rw [val_none hno] at hlook
                go_wp2_with fail
                clear hlook
                rw [show V.heap.size = X from HX.out.symm]
                generalize V.alloc (.cells #[.int .i64 t.d, .int .i64 t.a, .int .i64 t.b, .int .i64 t.c, .int .u64 t.x] 34) = V1 at hws1 hx1 ⊢
                clear k0 k1 k2 k3 k4
                go_at_call 14
                refine (write_no hws1.a.2 ta.2 hno t.x).mono ?_
                rintro e V2 ⟨rfl, rfl⟩
                have x0 := hx1.c0
                have HF : Hid (Inv w mb n B (i + 1) V1) := Lib.hid (Inv.mk' HM.out hws1 (fun _ => rfl) rfl (by omega))
                clear hws1 hno
                go_wp2_with fail
                go_roundw
                case rel => exact ⟨i + 1, by omega, by go_num, HF⟩
                case measure => simp [intOf]; omega
            · have e0 : (t.d == 0) = false := beq_eq_false_iff_ne.2 hd0
              have e1 : (t.d == 1) = false := beq_eq_false_iff_ne.2 hd1
              have e2 : (t.d == 2) = false := beq_eq_false_iff_ne.2 hd2
              have e3 : (t.d == 3) = false := beq_eq_false_iff_ne.2 hd3
              clear hd0 hd1 hd2 hd3
              have HF : Hid (Inv w mb n B (i + 1) (V.alloc (.cells #[.int .i64 t.d, .int .i64 t.a, .int .i64 t.b, .int .i64 t.c, .int .u64 t.x] 34))) := Lib.hid (Inv.mk' HM.out hws1 (fun _ => rfl) rfl (by omega))
              clear hws1
              go_wp2_with fail
              go_roundw
              case rel => exact ⟨i + 1, by omega, by go_num, HF⟩
              case measure => simp [intOf]; omega
    · obtain rfl : i = L := by omega
      obtain ⟨m, hm, hws⟩ := hI.out
      obtain ⟨D, hown, hsay, hsz⟩ := hws.d
      have HM := Lib.hid hm
      have HOK := Lib.hid hws.a.ok
      have HSAY := Lib.hid (And.intro hsay hsz)
      have HWS := Lib.hid hws
      have hol : m.o.length ≤ 1024 := by have := hws.a.ok.olen; have := hws.a.ok.hi; omega
      have hus : usedS m.S ≤ 65536 := by have h1 := used_le hws.a.ok.all; have h2 := hws.a.ok.hi; omega
      have HSL : Hid (∀ q, sumN m.S (m.o.take q) ≤ 65536) := Lib.hid (fun q => by have h1 := sumN_take_le m.S m.o q; have h2 := sum_order HOK.out; omega)
      have hBV : B < V.heap.size := hown.lt
      clear hm hws hsay hsz hI
      go_wp2_with (at_range; refine wpList_range_own _ rfl _ 58 rfl 3 32 law3 Try.underlying58 _ B (64 * i) D rfl hown ?_; intro w0 hrg0 hg0 hs0)
      go_frame
      have hb0 : Below V.heap.size V w0 := ⟨hg0.os, hg0.tape, hg0.output, hg0.size, fun k hk => hg0.block k hk (by simp)⟩
      obtain ⟨G1, hG1⟩ : ∃ G1 : Nat → Prop, G1 = fun k => (k < w.heap.size ∨ k = B) ∨ (V.heap.size ≤ k ∧ k < w0.heap.size) := ⟨_, rfl⟩
      have HR0 : Hid (At G1 w0 mb m ∧ Below w.heap.size w w0 ∧ ∀ kl, has D kl = true → has D kl = true) := Lib.hid ⟨by rw [hG1]; exact HWS.out.a.fence hb0, HWS.out.b.trans (hb0.mono HWS.out.b.size), fun _ h => h⟩
      have HG1 : Hid (G1 V.heap.size ∧ G1 B ∧ ∀ k, k < w.heap.size → G1 k) := Lib.hid ⟨by rw [hG1]; exact Or.inr ⟨Nat.le_refl _, by omega⟩, by rw [hG1]; exact Or.inl (Or.inr rfl), fun k hk => by rw [hG1]; exact Or.inl (Or.inl hk)⟩
      clear hG1 hg0 hs0 hb0
      go_loopw [19] (fun _ wr => ∃ (left : Lit → Bool) (cnt : Nat), wr.ranges Try.prog 3 (plainElem (H := Unit) Try.prog 32) B V.heap.size (64 * i) D left cnt ∧ Hid (At G1 wr mb m ∧ Below w.heap.size w wr ∧ ∀ kl, left kl = true → has D kl = true)) (fun _ wr => wr.rangeLeft B V.heap.size)
      case atStart => exact ⟨_, _, hrg0, HR0⟩
      case round =>
        obtain ⟨left, cnt, hrg, hR⟩ := hrel
        obtain ⟨T, hT⟩ : ∃ T, T = wr := ⟨_, rfl⟩
        rw [← hT] at hrg hR ⊢
        clear hT
        go_wp2_with (at_next; refine wpList_next_ranges_ii _ rfl _ rfl 3 32 .i64 .u64 law3 Try.underlying3 Try.underlying32 B V.heap.size (64 * i) _ _ _ rfl hrg ?_ ?_)
        · intro _ _
          have hwsT : WS w (fun k => k < w.heap.size ∨ k = B) mb m B (64 * i) (valOf m.S) (usedS m.S) T := ⟨hR.out.1.less (fun k hk => by rcases hk with h | rfl; exact HG1.out.2.2 k h; exact HG1.out.2.1), ⟨D, hrg.owns, HSAY.out.1, HSAY.out.2⟩, hR.out.2.1, Or.inr rfl, HWS.out.l, fun k hk => Or.inl hk⟩
          have HT := Lib.hid hwsT
          clear hwsT hrg hR HWS
          go_wp2_with fail
          go_at_call 21
          refine (at_taken HT.out.a).mono ?_
          rintro e T2 ⟨A', c', rfl, hr2, hb2⟩
          have HT2 : Hid (WS w (fun k => k < w.heap.size ∨ k = B) mb m B (64 * i) (valOf m.S) (usedS m.S) T2 ∧ T2.ownsRow T.heap.size 3 1 (.slice A' m.o.length c') m.o.length (ints m.o)) := Lib.hid ⟨HT.out.below hb2, hr2⟩
          clear hr2 hb2 HT
          generalize T.heap.size = base at HT2
          obtain ⟨K, hK⟩ : ∃ K, K = m.o.length := ⟨_, rfl⟩
          rw [← hK] at hol ⊢
          have HK := Lib.hid hK
          clear hK
          go_wp2_with fail
          go_loopw [23, 25] (fun nv qv wr => ∃ q : Nat, q ≤ K ∧ qv = .int .i64 q ∧ nv = .int .i64 (sumN m.S (m.o.take q)) ∧ Hid (WS w (fun k => k < w.heap.size ∨ k = B) mb m B (64 * i) (valOf m.S) (usedS m.S) wr ∧ wr.ownsRow base 3 1 (.slice A' m.o.length c') m.o.length (ints m.o))) (fun _ qv _ => K - (intOf qv).toNat)
          case atStart => exact ⟨0, by omega, rfl, rfl, HT2⟩
          case round =>
            obtain ⟨q, hq, rfl, rfl, hJ⟩ := hrel
            obtain ⟨U, hU⟩ : ∃ U, U = wr := ⟨_, rfl⟩
            rw [← hU] at hJ ⊢
            clear hU
            by_cases hqK : q < K
            · obtain ⟨x, hx⟩ : ∃ x, m.o[q]? = some x := ⟨_, List.getElem?_eq_getElem (by have := HK.out; omega)⟩
              obtain ⟨s, hs⟩ := (HOK.out.mem x).1 (List.mem_of_getElem? hx)
              have hsn := (HOK.out.all.get hs.1).n
              have hsl := HSL.out q
              obtain ⟨rb, rfl, hrb, hrl, hrc⟩ := row_cell hJ.out.2 hx
              have HS := Lib.hid (at_seg hJ.out.1.a hs)
              have HST := Lib.hid (sumN_take hx hs.1)
              have hx1 : x ≤ 1024 := by have := get_lt hs.1; have := HOK.out.hi; omega
              clear hx hs
              go_wp2_with fail
              go_at_call 19
              refine HS.out.mono ?_
              rintro e U2 ⟨y0, y1, y2, y3, rfl, hbU⟩
              have HJ2 : ∀ o : Obj, Hid (WS w (fun k => k < w.heap.size ∨ k = B) mb m B (64 * i) (valOf m.S) (usedS m.S) (U2.alloc o) ∧ (U2.alloc o).ownsRow base 3 1 (.slice (some ⟨rb, 0, none⟩) m.o.length c') m.o.length (ints m.o)) := fun o =>
                Lib.hid ⟨(hJ.out.1.below hbU).below ((Below.refl _ _).alloc (Nat.le_refl _) _), ((Keep.any (G := fun _ => True) hbU).own hJ.out.2 (fun _ _ => trivial)).alloc o⟩
              go_wp2_with fail
              go_roundw
              case rel => exact ⟨q + 1, by omega, by go_num, by rw [HST.out]; go_num, HJ2 _⟩
              case measure => simp [intOf]; omega
            · obtain rfl : q = K := by omega
              rw [show sumN m.S (m.o.take q) = usedS m.S from by rw [HK.out, List.take_length]; exact sum_order HOK.out]
              have hlen := fun ty => hJ.out.1.len ty
              have H8 := Lib.hid (awake_any U)
              go_wp2_with fail
              go_at_call 8
              refine H8.out.mono ?_
              rintro e U3 ⟨rfl, hb8⟩
              go_wp2_with fail
              go_ret
              exact ⟨rfl, hJ.out.1.b.trans (hb8.mono hJ.out.1.b.size)⟩
        · intro x c' w1 cnt1 hwx hwc hlx hat hrg1 hlt1 hg1 hs1 hen
          have hh := hR.out.2.2 _ hlx
          rw [(HSAY.out.1.2 x).1] at hh
          obtain ⟨y, hy⟩ := Option.isSome_iff_exists.1 hh
          have hyc : y = c' := by
            have h1 := (HSAY.out.1.2 x).2 y hy (.lit (.int .u64 0))
            rw [hat] at h1
            simpa using h1.symm
          subst hyc
          obtain ⟨js, s, hu, hwd⟩ := used_val HOK.out hy
          have hat1 : At G1 w1 mb m := hR.out.1.kept (Keep.grown (Keep.refl _ _) hg1 (fun k e => by cases e; exact Or.inl (fun hn => hn HG1.out.1)))
          have HRD := Lib.hid (read_yes hat1.2 hu hwd)
          have bcc : (y != y) = false := by simp
          have HR1 : Hid (At G1 w1 mb m ∧ Below w.heap.size w w1 ∧ ∀ kl, (left kl && !kl.sameKey (.int .i64 x)) = true → has D kl = true) := Lib.hid ⟨hat1, hR.out.2.1.grown hg1 hR.out.2.1.size (fun k e => by cases e; exact Nat.le_trans HWS.out.l (Nat.le_of_lt hBV)), fun kl h => hR.out.2.2 kl (by simp at h; exact h.1)⟩
          have HM1 := Lib.hid (show w1.rangeLeft B V.heap.size < T.rangeLeft B V.heap.size by rw [hrg1.left_eq, hrg.left_eq]; exact hlt1)
          have HRG := Lib.hid hrg1
          clear hh hy hu hwd hat1 hat hrg1 hrg hlx hg1 hs1 hlt1 hR
          go_wp2_with (go_at_call 18; refine HRD.out.mono ?_; rintro e w' ⟨rfl, rfl⟩)
          go_roundw
          case rel => exact ⟨_, cnt1, HRG.out, HR1⟩
          case measure => exact HM1.out
set_option maxRecDepth 100000 in
theorem walk_bad (z : Int) (A : Option Addr) (k c : Nat) (w : World) (hz : z < 8 ∨ 1024 < z) (hk : k ≤ maxLen) :
    Calls Try.prog 5 #[.int .i64 z, .slice A k c] w fun e w' => e = .returned (.bool true) ∧ Below w.heap.size w w' := by
  have H9 := Lib.hid (new_bad z w hz)
  have H8 := Lib.hid (awake_any w)
  unfold maxLen at hk
  clear hz
  by_cases h3 : 300 < k
  all_goals
    go_enter Try.func5, Try.ntmps5
    go_wp2_with (first | (go_at_call 9; refine H9.out.mono ?_; rintro e w' ⟨rfl, rfl⟩) | (go_at_call 8; refine H8.out.mono ?_; rintro e w' ⟨rfl, hb⟩))
    go_ret
    exact ⟨rfl, hb⟩
set_option maxRecDepth 100000 in
theorem walk_long (n : Nat) (A : Option Addr) (k c : Nat) (w : World) (h8 : 8 ≤ n) (hn : n ≤ 1024) (hk : k ≤ maxLen) (h3 : 300 < k) :
    Calls Try.prog 5 #[.int .i64 n, .slice A k c] w fun e w' => e = .returned (.bool true) ∧ Below w.heap.size w w' := by
  have H9 := Lib.hid (new_good n w h8 hn)
  have H8 := Lib.hid (fun (V : World) => awake_any V)
  unfold maxLen at hk
  go_enter Try.func5, Try.ntmps5
  go_wp2_with (first | (go_at_call 9; refine H9.out.mono ?_; rintro e w1 ⟨rfl, _, hb1⟩) | (go_at_call 8; refine (H8.out _).mono ?_; rintro e w' ⟨rfl, hb⟩))
  go_ret
  exact ⟨rfl, hb1.trans (hb.mono hb1.size)⟩
theorem walk (z : Int) (A : Option Addr) (l : List Ac) (c : Nat) (w : World) (hA : Acts w A l) (hm : l.length ≤ maxLen) :
    Calls Try.prog 5 #[.int .i64 z, .slice A l.length c] w fun e w' => e = .returned (.bool true) ∧ Below w.heap.size w w' := by
  by_cases hz : z < 8 ∨ 1024 < z
  · exact walk_bad z A _ c w hz hm
  · obtain ⟨n, rfl⟩ : ∃ n : Nat, z = (n : Int) := ⟨z.toNat, by omega⟩
    by_cases h3 : 300 < l.length
    · exact walk_long n A _ c w (by omega) (by omega) hm h3
    · exact walk_good n A l c w (by omega) (by omega) hA (by omega)
/-! The row's step. -/
set_option maxRecDepth 100000 in
theorem lifted (os : Os) (started : os.Started) (H : Type) (enc : TypeId × Value → H) :
    ReturnsInHanded {} Try.checked os 5 .any (Rows.segWordsSpec.pre6 enc Try.prog Try.f5 Rows.segWordsRow.domain false) (Rows.segWordsSpec.post enc Try.prog Try.f5 false true false false) := by
  refine returnsInHanded_of_change (C := Try.checked) own started (by kernel_rfl) Try.func5
    (ChangeSpec.witness6 (enc := enc) (C := Try.checked) false ⟨#[], #[.int .i64 0, .slice none 0 0], []⟩ 8 (by kernel_rfl) (by kernel_rfl) (by kernel_rfl) (by kernel_rfl)) ?_
  intro W base args ds gs before hval0 hW hcnd _
  have hval : ∀ (j : Nat) t v, Try.f5.params[j]? = some t → args[j]? = some v → Value.okWide Try.prog W .any base t v := hval0
  have hW' := hW
  obtain ⟨p, q, hA0, hV, rfl, hfz, hnd⟩ := hW
  have hA : DataW.TrodAll enc Try.prog W 0 (fun _ => true) true Try.f5.params.toList args.toList ds p := hA0
  obtain ⟨rfl, rfl⟩ := trodVars_none hV
  simp only [List.append_nil] at hW'
  have hlt : ∀ x ∈ p, x.block < W.heap.size := fun x hx => by simpa using hW'.lt x hx
  have hAk := hA
  rw [Try.params5] at hA hval
  obtain ⟨v0, vs0, d0, ds0, p0, q0, hargs, rfl, rfl, h0, r0⟩ := trodAll_cons hA
  obtain ⟨v1, vs1, d1, ds1, p1, q1, rfl, rfl, rfl, h1, r1⟩ := trodAll_cons r0
  obtain ⟨rfl, rfl, rfl⟩ := trodAll_nil r1
  obtain rfl : args = #[v0, v1] := by cases args; simp_all
  obtain ⟨z0, rfl, rfl, rfl, w0⟩ := open_int Try.underlying3 (hval 0 3 v0 rfl rfl) h0
  obtain ⟨A1, l1, c1, rfl, a1, m1⟩ := open_acts (hval 1 22 v1 rfl rfl) h1
  refine (walk z0 A1 l1 c1 W a1 m1).mono fun e W' ⟨he, hg⟩ => ?_
  subst he
  exact ⟨_, rfl, _, _, _, [], _, [], hW', (trodAll_cons_mk (shut_bool Try.underlying4 _) trodAll_mk0), below_all hg (by kernel_rfl) hAk hlt, rfl, hg.frame _, fun h => by cases h⟩
theorem over : Rows.segWordsRow.holds Try.pinned (OpenSpec.ofChange Rows.segWordsSpec) :=
  OpenClaim.holds_of_wide 5 Try.f5 rfl rfl rfl rfl rfl rfl rfl ⟨rfl, rfl, rfl, rfl, rfl⟩ rfl rfl rfl rfl rfl (by kernel_rfl) Try.func5 (by kernel_rfl)
    (of_decide_eq_true (by kernel_rfl)) (by unfold Func.isWrapper; first | (rw [if_pos (by decide +kernel)]; kernel_rfl) | (rw [if_neg (by decide +kernel)]; exact ⟨rfl, rfl⟩))
    (fun os started H enc _ => lifted os started H enc)
/-- THE STATEMENT -/
theorem proved : Rows.SegWordsSaid :=
  over
#print axioms proved
end Go.Proofs.Ytmhbbhlmiinobaa.segWords
