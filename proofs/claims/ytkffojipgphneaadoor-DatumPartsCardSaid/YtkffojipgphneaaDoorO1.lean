/- A datum that came in, opened: by its value, with all that is in it. -/
import Derived.Test.YtkffojipgphneaaDoorU2
import Derived.Deep.Slices
import Derived.Lib.SmallJoins
import Derived.SizedLaws
import Derived.OpenShut
set_option linter.unusedVariables false
set_option linter.unusedSimpArgs false
namespace Go.Proofs.YtkffojipgphneaaDoor
open Go.ChangeShapes Go.WideShapes Go.RowKit Go.Deep
/-! ### A forest by its parts -/
def mkF (g : Nat → D × F) : Nat → Nat → F
  | _, 0 => .nil
  | i, n + 1 => .cons (g i).1 (g i).2 (mkF g (i + 1) n)
theorem mkF_len (g : Nat → D × F) : ∀ n i, (mkF g i n).len = n := by
  intro n
  induction n with
  | zero => exact fun _ => rfl
  | succ n ih => intro i; simp [mkF, F.len, ih]
theorem mkF_nth (g : Nat → D × F) : ∀ n i j, j < n → (mkF g i n).nthD j = (g (i + j)).1 ∧ (mkF g i n).nthK j = (g (i + j)).2 := by
  intro n
  induction n with
  | zero => intro i j h; omega
  | succ n ih =>
    intro i j h
    cases j with
    | zero => exact ⟨rfl, rfl⟩
    | succ j =>
      have := ih (i + 1) j (by omega)
      simp only [mkF, F.nthD, F.nthK, this]
      rw [show i + 1 + j = i + (j + 1) by omega]
      exact ⟨rfl, rfl⟩
theorem spot_none {w : World} {a : Addr} {v : Value} (h : w.cell? a = some v) : a.spot = none := by
  unfold World.cell? at h
  split at h
  · split at h
    · cases h
    · rename_i h2; simpa using h2
  · cases h
theorem add_at {a : Addr} (h : a.spot = none) (n : Nat) : a.add n = ⟨a.block, a.off + n, none⟩ := by
  unfold Addr.add
  split
  · rename_i h0; subst h0; cases a; simp_all
  · rfl
section
variable {H : Type} {enc : TypeId × Value → H} {W : World}
theorem all_reach {l : List Nat} (h : l.all (· ≤ reachBytes) = true) {n : Nat} (hn : n ∈ l) : n ≤ 140737488355327 := by
  have h1 := List.all_eq_true.1 h n hn
  have h2 := reachBytes_lt
  have e : (2 : Nat) ^ 47 = 140737488355328 := rfl
  simp only [decide_eq_true_eq] at h1
  rw [e] at h2
  generalize reachBytes = R at *
  omega
theorem open_mag {n : Nat} {cs : List Value} {y : DataW H × List MemPlace} (t1 : DataW.trod enc Tryd.prog W 0 (fun _ => true) true n 22 cs = some y) (hw : (y.1.weights Tryd.prog 22).all (· ≤ reachBytes) = true) :
    ∃ A xs c, cs = [.slice A (List.length (α := Nat) xs) c] ∧ MagAt (fun k => k < W.heap.size) W A xs ∧ (∀ x ∈ xs, x < 4294967296) ∧ xs.length ≤ c ∧ xs.length ≤ 35184372088832 := by
  rcases open_ints Tryd.underlying22 Tryd.underlying60 (by kernel_rfl) t1 with ⟨hcs, hx⟩ | ⟨a, len, cap, zs, hcs, _, hl, hm, hz, hx, hc, hwf⟩
  · subst hcs hx
    exact ⟨none, [], 0, rfl, fun i hi => by simp at hi, by simp, by simp, by simp⟩
  · subst hcs hx
    have hz' : zs.length = cap := by simpa using hz
    have hlen : ((zs.take len).map Int.toNat).length = len := by simp; omega
    have hbytes : Tryd.prog.bytesOf 60 = 4 := by kernel_rfl
    have hwt := all_reach hw (n := ((lits (H := H) .u32 (zs.take len)).length + (lits (H := H) .u32 (zs.drop len)).length) * Tryd.prog.bytesOf 60) (by simp [DataW.weights, Tryd.underlying22])
    rw [hbytes] at hwt
    have hln : (lits (H := H) .u32 (zs.take len)).length = len := by simp [lits]; omega
    refine ⟨some a, (zs.take len).map Int.toNat, cap, by rw [hlen], fun i hi => ?_, ?_, by omega, by omega⟩
    · have hi' : i < len := by rw [hlen] at hi; exact hi
      have hi2 : i < zs.length := by omega
      have hcc := hc i hi2
      refine ⟨a, rfl, ?_, ?_⟩
      · have := cell_lt hcc
        rwa [YtkffojipgphneaaDoor.add_block] at this
      · rw [hcc]
        have e1 : zs.getD i 0 = zs[i] := by simp [List.getD, hi2]
        have e2 : ((zs.take len).map Int.toNat)[i] = (zs[i]).toNat := by simp
        have hb := (bounds_u32 (hwf zs[i] (List.getElem_mem hi2))).1
        rw [e1, e2, Int.toNat_of_nonneg hb]
    · intro x hx
      obtain ⟨z, hz'', rfl⟩ := List.mem_map.1 hx
      have hb := bounds_u32 (hwf z (List.mem_of_mem_take hz''))
      omega
theorem weights_all_mem {P : Program} {e : TypeId} : ∀ {l : List (DataW H)} {d : DataW H}, d ∈ l → ∀ n ∈ d.weights P e, n ∈ DataW.weightsAll P e l
  | a :: l, d, hd, n, hn => by
    rw [DataW.weightsAll]
    rcases List.mem_cons.1 hd with rfl | h
    · exact List.mem_append_left _ hn
    · exact List.mem_append_right _ (weights_all_mem h n hn)
def Opened (W : World) (cs : List Value) (p : D × F) : Prop :=
  cs = [.int .i64 p.1.k, .int .i32 p.1.c, .bool p.1.neg, .slice p.1.mA p.1.mag.length p.1.mcap, .string p.1.t, .slice p.1.lA p.2.len p.1.lcap] ∧ Val (fun k => k < W.heap.size) W p.1 p.2
def Reads (enc : TypeId × Value → H) (W : World) (n : Nat) : Prop :=
  ∀ (cs : List Value) (y : DataW H × List MemPlace), DataW.trod enc Tryd.prog W 0 (fun _ => true) true n 27 cs = some y → (y.1.weights Tryd.prog 27).all (· ≤ reachBytes) = true → ∃ p, Opened W cs p
theorem open_items {n : Nat} (ih : ∀ m, m < n → Reads enc W m) {cs : List Value} {y : DataW H × List MemPlace} (t : DataW.trod enc Tryd.prog W 0 (fun _ => true) true n 25 cs = some y) (hw : (y.1.weights Tryd.prog 25).all (· ≤ reachBytes) = true) :
    ∃ A f c, cs = [.slice A (F.len f) c] ∧ (0 < f.len → ∃ b o, A = some ⟨b, o, none⟩ ∧ AtF (fun k => k < W.heap.size) W f b o) ∧ f.len ≤ c ∧ f.len ≤ 140737488355328 := by
  rcases DataW.trod_slice Tryd.underlying25 t with ⟨rfl, rfl⟩ | ⟨a, len, cap, elems, rest, m, rfl, rfl, rfl, _, hl, hm, hlen, hel, _, _⟩
  · exact ⟨none, .nil, 0, rfl, fun h => by simp [F.len] at h, by simp [F.len], by simp [F.len]⟩
  · have hcell : Tryd.prog.cellsOf 27 = 6 := by kernel_rfl
    have hbytes : 1 ≤ Tryd.prog.bytesOf 27 := by
      have : Tryd.prog.bytesOf 27 = 88 := by kernel_rfl
      omega
    simp only [DataW.weights, Tryd.underlying25, List.all_cons, List.all_append, Bool.and_eq_true, decide_eq_true_eq, List.length_map] at hw
    obtain ⟨hw0, hw1, _⟩ := hw
    have hr := reachBytes_lt
    have hlr : len ≤ 140737488355328 := by
      have h1 : (elems.length + rest.length) * 1 ≤ (elems.length + rest.length) * Tryd.prog.bytesOf 27 := Nat.mul_le_mul_left _ hbytes
      have e : (2 : Nat) ^ 47 = 140737488355328 := rfl
      rw [e] at hr
      have hw0' := hw0
      generalize reachBytes = R at *
      omega
    have each : ∀ i, i < len → ∃ p : D × F, ElAt (fun k => k < W.heap.size) W ⟨a.block, a.off + i * 6, 0, p.1, p.2⟩ ∧ a.spot = none := fun i hi => by
      have h1 := hel i hi
      rw [List.getElem?_eq_getElem (by omega)] at h1
      obtain ⟨cs', c1, c2⟩ := Option.bind_eq_some_iff.1 h1
      rw [hcell] at c1
      obtain ⟨_, cl, cc⟩ := World.cells?_some c1
      obtain ⟨p, hp, hv⟩ := ih m (Nat.lt_succ_self m) cs' _ c2 (List.all_eq_true.2 fun n hn => List.all_eq_true.1 hw1 n (weights_all_mem (List.mem_map.2 ⟨_, List.getElem_mem (by omega), rfl⟩) n hn))
      have sp : a.spot = none := by
        obtain ⟨k, hk⟩ : ∃ k : Nat, k = 0 := ⟨0, rfl⟩
        have h0 := hel k (by omega)
        rw [List.getElem?_eq_getElem (by omega)] at h0
        obtain ⟨cs0, d1, d2⟩ := Option.bind_eq_some_iff.1 h0
        rw [hcell] at d1
        obtain ⟨_, dl, dc⟩ := World.cells?_some d1
        have e0 := dc k (by omega)
        rw [List.getElem?_eq_getElem (by omega)] at e0
        have s1 := spot_none e0
        subst hk
        simpa [Addr.add] using s1
      have at_ : ∀ j, j < 6 → W.cell? ⟨a.block, a.off + i * 6 + j, none⟩ = cs'[j]? := fun j hj => by
        have := cc j hj
        rwa [Go.Deep.add_add, add_at sp, ← Nat.add_assoc] at this
      rw [hp] at at_
      refine ⟨p, ⟨?_, ⟨at_ 0 (by omega), at_ 1 (by omega), at_ 2 (by omega), at_ 3 (by omega), at_ 4 (by omega), at_ 5 (by omega)⟩, hv.ok, hv.mag, hv.kids⟩, sp⟩
      exact cell_lt (p := ⟨a.block, a.off + i * 6 + 0, none⟩) (at_ 0 (by omega))
    have hall : ∃ g : Nat → D × F, ∀ i, i < len → ElAt (fun k => k < W.heap.size) W ⟨a.block, a.off + i * 6, 0, (g i).1, (g i).2⟩ ∧ a.spot = none :=
      ⟨fun i => if hi : i < len then (each i hi).choose else (D.zero, .nil), fun i hi => by simp only [dif_pos hi]; exact (each i hi).choose_spec⟩
    obtain ⟨g, hg⟩ := hall
    have hlF := mkF_len g len 0
    refine ⟨some a, mkF g 0 len, cap, by rw [hlF], fun h0 => ⟨a.block, a.off, ?_, AtF.of_nth fun i hi => ?_⟩, by rw [hlF]; exact hl, by rw [hlF]; exact hlr⟩
    · rw [hlF] at h0
      have := (hg 0 h0).2
      cases a
      simp_all
    · rw [hlF] at hi
      obtain ⟨e1, e2⟩ := mkF_nth g len 0 i hi
      rw [e1, e2, Nat.zero_add]
      exact (hg i hi).1
set_option maxRecDepth 100000 in
theorem open_cells : ∀ n : Nat, Reads enc W n := by
  intro n
  induction n using Nat.strongRecOn with
  | _ n ih =>
    intro cs y t hw
    obtain ⟨xs, m, rfl, rfl, hlen, hxl, hf⟩ := DataW.trod_struct Tryd.underlying27 t
    have c27 : Tryd.prog.cellsOf 27 = 6 := by kernel_rfl
    rw [c27] at hlen
    match cs, hlen with
    | [a0, a1, a2, a3, a4, a5], _ =>
    match xs, hxl with
    | [y0, y1, y2, y3, y4], _ =>
      have e3 : Tryd.prog.cellsOf 3 = 1 := by kernel_rfl
      have e21 : Tryd.prog.cellsOf 21 = 1 := by kernel_rfl
      have e24 : Tryd.prog.cellsOf 24 = 2 := by kernel_rfl
      have e9 : Tryd.prog.cellsOf 9 = 1 := by kernel_rfl
      have e25 : Tryd.prog.cellsOf 25 = 1 := by kernel_rfl
      have t0 : DataW.trod enc Tryd.prog W 0 (fun _ => true) true m 3 [a0] = some y0 := by have h := hf 0 _ rfl; simpa [e3] using h
      have t1 : DataW.trod enc Tryd.prog W 0 (fun _ => true) true m 21 [a1] = some y1 := by have h := hf 1 _ rfl; simpa [e21] using h
      have t2 : DataW.trod enc Tryd.prog W 0 (fun _ => true) true m 24 [a2, a3] = some y2 := by have h := hf 2 _ rfl; simpa [e24] using h
      have t3 : DataW.trod enc Tryd.prog W 0 (fun _ => true) true m 9 [a4] = some y3 := by have h := hf 3 _ rfl; simpa [e9] using h
      have t4 : DataW.trod enc Tryd.prog W 0 (fun _ => true) true m 25 [a5] = some y4 := by have h := hf 4 _ rfl; simpa [e25] using h
      simp only [DataW.weights, Tryd.underlying27, List.map_cons, List.map_nil, DataW.weightsEach, List.all_append, Bool.and_eq_true] at hw
      obtain ⟨_, _, hw2, hw3, hw4, _⟩ := hw
      obtain ⟨k, hk, _, wk⟩ := DataW.trod_int Tryd.underlying3 t0
      obtain ⟨c, hc, _, wc⟩ := DataW.trod_int Tryd.underlying21 t1
      obtain ⟨zs, m2, rfl, hy2, _, hzl, hz⟩ := DataW.trod_struct Tryd.underlying24 t2
      match zs, hzl with
      | [z0, z1], _ =>
        subst hy2
        have e4 : Tryd.prog.cellsOf 4 = 1 := by kernel_rfl
        have e22 : Tryd.prog.cellsOf 22 = 1 := by kernel_rfl
        have u0 : DataW.trod enc Tryd.prog W 0 (fun _ => true) true m2 4 [a2] = some z0 := by have h := hz 0 _ rfl; simpa [e4] using h
        have u1 : DataW.trod enc Tryd.prog W 0 (fun _ => true) true m2 22 [a3] = some z1 := by have h := hz 1 _ rfl; simpa [e22] using h
        simp only [DataW.weights, Tryd.underlying24, List.map_cons, List.map_nil, DataW.weightsEach, List.all_append, Bool.and_eq_true] at hw2
        obtain ⟨ng, hg, _⟩ := DataW.trod_bool Tryd.underlying4 u0
        obtain ⟨mA, mag, mc, hm, hmat, hmlt, hml, hmc⟩ := open_mag u1 hw2.2.1
        obtain ⟨s, hs, hys, _⟩ := DataW.trod_string Tryd.underlying9 t3
        rw [hys] at hw3
        obtain ⟨lA, f, lc, hl, hlat, hll, hlm⟩ := open_items (fun i hi => ih i (by omega)) t4 hw4
        have hst : s.size ≤ 140737488355328 := by
          have := all_reach hw3 (n := s.data.toList.length) (by simp only [DataW.weights, List.mem_singleton])
          have e : s.data.toList.length = s.size := rfl
          omega
        simp only [List.cons.injEq, and_true] at hk hc hg hm hs hl
        subst hk hc hg hm hs hl
        have bk := bounds_i64 wk
        have bc := bounds_i32 wc
        refine ⟨(⟨k, c, ng, mA, mag, mc, s, lA, lc⟩, f), rfl, ⟨⟨bk.1, bk.2, bc.1, bc.2, hmlt, hml, hmc, hst, hll, hlm, fun h0 => ?_⟩, hmat, ?_⟩⟩
        · obtain ⟨b, o, rfl, _⟩ := hlat h0
          rfl
        · by_cases h0 : 0 < f.len
          · obtain ⟨b, o, rfl, hF⟩ := hlat h0
            exact hF
          · cases f with
            | nil => trivial
            | cons d k r => simp [F.len] at h0
end
end Go.Proofs.YtkffojipgphneaaDoor
