import Derived.Shelf.Strings.Builder1
import Derived.Shelf.Strings.Builder2
import Derived.Shelf.Small.Bits
import Derived.Shelf.Strings.BuilderF
import Derived.Shelf.Strings.BuilderK
import Derived.Shelf.Strconv.Itoa0
import Derived.Shelf.Strconv.Itoa1
import Derived.Shelf.LaysM
import Derived.Shelf.Strconv.Itoa2
import Derived.Shelf.Strings.Prefix
import Derived.Shelf.Bits.Mul64
import Derived.Shelf.Strings.Repeat
import Derived.Test.YtocoflojlliapaaDoorProg
import Derived.Test.YtocoflojlliapaaDoorK3
import Derived.Lib.Strings
import Derived.Lib.Builder
import Derived.Lib.AppendStr
import Derived.Lib.UnsafeStr
import Derived.Laws.Externs
import Derived.Lib.AppendIntMem
import Derived.Lib.ItoaMem
import Derived.Lib.Walk
import Derived.Shelf.Strconv.Itoa4
import Derived.WalkKit
import Derived.BigCall
import Derived.BigGuard
import Derived.Test.YtocoflojlliapaaDoorK1
import Derived.Deep.LoopGhost
/-
  DERIVED: THE SHELF's CONTRACTS AT THIS DUMP, IN PLAIN WORDS (tools/lay-plain.mjs out of 'TrydShelf.lean', which tools/lay-shelf.mjs wrote): THE SAME DECLARATIONS UNDER THE SAME YtocoflojlliapaaDoorS: 'import', 'namespace', 'open', 'def', 'theorem' AND NOTHING ELSE: no command of the shelf's: FOR A HAND-IN. Each laying: the table of numbers ('.._ren') and one theorem, a field a fact of the dump's own or the kernel's comparison; each contract: ONE APPLICATION.
-/
namespace Go.Proofs
open Go.Shelf
def Tryd.lays170_ren : Go.Shelf.Ren := ⟨fun | 170 => 88 | n => n, fun | 70 => 83 | 3 => 3 | 0 => 0 | 72 => 85 | 37 => 28 | 5 => 5 | n => n, fun | n => n⟩
theorem Tryd.lays170 : Go.Proofs.Lays.n170 Tryd.prog Tryd.lays170_ren := {
  mixed := by kernel_rfl
  f170 := Tryd.func88.trans (congrArg some (by kernel_rfl))
  t0 := Tryd.underlying0
  a0 := Tryd.isAgg0
  z0 := Tryd.sizeOf0
  v0 := Tryd.zeroValue0
  t3 := Tryd.underlying3
  a3 := Tryd.isAgg3
  z3 := Tryd.sizeOf3
  v3 := Tryd.zeroValue3
  t37 := Tryd.underlying28
  a37 := Tryd.isAgg28
  z37 := Tryd.sizeOf28
  v37 := Tryd.zeroValue28
  t70 := Tryd.underlying83
  a70 := Tryd.isAgg83
  z70 := Tryd.sizeOf83
  v70 := Tryd.zeroValue83
  t72 := Tryd.underlying85
  a72 := Tryd.isAgg85
  z72 := Tryd.sizeOf85
  v72 := Tryd.zeroValue85 }
open Go.RowKit in
/-- (*strings.Builder).Len: "Len returns the number of accumulated bytes; b.Len() == len(b.String()).": the world is as it was. (LAID: no walk: one application.) -/
theorem Tryd.Builder_Len (B b : Nat) (bs : List Value) (w : World) (h : Lib.IsBuilder 85 5 B b bs w) :
    Calls Tryd.prog 88 #[.pointer (some ⟨b, 0, none⟩)] w fun e w' => e = .returned (.int .i64 bs.length) ∧ w' = w := Any.Builder_Len Tryd.lays170 B b bs w h
def Tryd.lays169_ren : Go.Shelf.Ren := ⟨fun | 169 => 72 | n => n, fun | 70 => 83 | 9 => 9 | 0 => 0 | 72 => 85 | 37 => 28 | 127 => 106 | 3 => 3 | 5 => 5 | n => n, fun | n => n⟩
theorem Tryd.lays169 : Go.Proofs.Lays.n169 Tryd.prog Tryd.lays169_ren := {
  mixed := by kernel_rfl
  f169 := Tryd.func72.trans (congrArg some (by kernel_rfl))
  t0 := Tryd.underlying0
  a0 := Tryd.isAgg0
  z0 := Tryd.sizeOf0
  v0 := Tryd.zeroValue0
  t3 := Tryd.underlying3
  a3 := Tryd.isAgg3
  z3 := Tryd.sizeOf3
  v3 := Tryd.zeroValue3
  t9 := Tryd.underlying9
  a9 := Tryd.isAgg9
  z9 := Tryd.sizeOf9
  v9 := Tryd.zeroValue9
  t37 := Tryd.underlying28
  a37 := Tryd.isAgg28
  z37 := Tryd.sizeOf28
  v37 := Tryd.zeroValue28
  t70 := Tryd.underlying83
  a70 := Tryd.isAgg83
  z70 := Tryd.sizeOf83
  v70 := Tryd.zeroValue83
  t72 := Tryd.underlying85
  a72 := Tryd.isAgg85
  z72 := Tryd.sizeOf85
  v72 := Tryd.zeroValue85
  t127 := Tryd.underlying106
  a127 := Tryd.isAgg106
  z127 := Tryd.sizeOf106
  v127 := Tryd.zeroValue106 }
theorem Tryd.Builder_Extra_169 : Builder.Extra Tryd.prog Tryd.lays169_ren := {
  sizeBuilder := by kernel_rfl
  liesBuilder := by kernel_rfl
  t5 := Tryd.underlying5
  a5 := Tryd.isAgg5
  z5 := Tryd.sizeOf5
  v5 := Tryd.zeroValue5
  infoByte := by kernel_rfl
  cellsByte := by kernel_rfl
  sizeByte := by kernel_rfl
  neB5 := by decide }
open Go.RowKit in
/-- (*strings.Builder).String: "String returns the accumulated string.": OF A BUILDER THAT HOLDS AT LEAST ONE BYTE. ✋ THE MODEL FREEZES THOSE BYTES IN THE BUFFER (unsafe.String): a later write INTO them ends the model's run without an answer; a later append BEHIND them goes on. The statement's order of evaluation is drawn: one draw. (LAID: no walk: one application.) -/
theorem Tryd.Builder_String (B b : Nat) (l : List UInt8) (w : World) (h : Lib.IsBuilder 85 5 B b (Lib.byteCells l) w) (h0 : l ≠ []) :
    Calls Tryd.prog 72 #[.pointer (some ⟨b, 0, none⟩)] w fun e w' => e = .returned (.string ⟨l.toArray⟩) ∧ Below B w w' := Any.Builder_String Tryd.lays169 Tryd.Builder_Extra_169 B b l w h h0
open Go.RowKit in
/-- (*strings.Builder).String OF A BUILDER THAT HOLDS NO BYTE: the empty string. (Its buffer is nil, or a row of which it has taken nothing yet; where that row has NO capacity the model lays one new block for unsafe.SliceData's 'some address'.) One draw. (LAID: no walk: one application.) -/
theorem Tryd.Builder_String_empty (B b : Nat) (w : World) (h : Lib.IsBuilder 85 5 B b [] w) (hBw : B ≤ w.heap.size) :
    Calls Tryd.prog 72 #[.pointer (some ⟨b, 0, none⟩)] w fun e w' => e = .returned (.string ⟨#[]⟩) ∧ Below B w w' := Any.Builder_String_empty Tryd.lays169 Tryd.Builder_Extra_169 B b w h hBw
open Go.RowKit in
/-- (*strings.Builder).String: "String returns the accumulated string.": WHATEVER THE BUILDER HOLDS. (LAID: no walk: one application.) -/
theorem Tryd.Builder_String_any (B b : Nat) (l : List UInt8) (w : World) (h : Lib.IsBuilder 85 5 B b (Lib.byteCells l) w) (hBw : B ≤ w.heap.size) :
    Calls Tryd.prog 72 #[.pointer (some ⟨b, 0, none⟩)] w fun e w' => e = .returned (.string ⟨l.toArray⟩) ∧ Below B w w' := Any.Builder_String_any Tryd.lays169 Tryd.Builder_Extra_169 B b l w h hBw
def Tryd.lays241_ren : Go.Shelf.Ren := ⟨fun | 241 => 103 | 277 => 110 | n => n, fun | 70 => 83 | 3 => 3 | 0 => 0 | 72 => 85 | 37 => 28 | 5 => 5 | n => n, fun | n => n⟩
theorem Tryd.lays241 : Go.Proofs.Lays.n241 Tryd.prog Tryd.lays241_ren := {
  mixed := by kernel_rfl
  f241 := Tryd.func103.trans (congrArg some (by kernel_rfl))
  f277 := Tryd.func110.trans (congrArg some (by kernel_rfl))
  t0 := Tryd.underlying0
  a0 := Tryd.isAgg0
  z0 := Tryd.sizeOf0
  v0 := Tryd.zeroValue0
  t3 := Tryd.underlying3
  a3 := Tryd.isAgg3
  z3 := Tryd.sizeOf3
  v3 := Tryd.zeroValue3
  t37 := Tryd.underlying28
  a37 := Tryd.isAgg28
  z37 := Tryd.sizeOf28
  v37 := Tryd.zeroValue28
  t70 := Tryd.underlying83
  a70 := Tryd.isAgg83
  z70 := Tryd.sizeOf83
  v70 := Tryd.zeroValue83
  t72 := Tryd.underlying85
  a72 := Tryd.isAgg85
  z72 := Tryd.sizeOf85
  v72 := Tryd.zeroValue85 }
theorem Tryd.Builder_Extra_241 : Builder.Extra Tryd.prog Tryd.lays241_ren := {
  sizeBuilder := by kernel_rfl
  liesBuilder := by kernel_rfl
  t5 := Tryd.underlying5
  a5 := Tryd.isAgg5
  z5 := Tryd.sizeOf5
  v5 := Tryd.zeroValue5
  infoByte := by kernel_rfl
  cellsByte := by kernel_rfl
  sizeByte := by kernel_rfl
  neB5 := by decide }
open Go.RowKit in
/-- (*strings.Builder).grow (no doc but "grow copies the buffer to a new, larger buffer so that there are at least n bytes of capacity beyond len(b.buf)."): AT A BUILDER WITHOUT A BUFFER: a new row of whatever bytes for its buffer, none of them its own yet. Three draws. (LAID: no walk: one application.) -/
theorem Tryd.Builder_grow_fresh (B b n : Nat) (w : World) (hB : B ≤ b) (hbk : w.heap[b]? = some (.cells #[.pointer (some ⟨b, 0, none⟩), .slice none 0 0] 85 (0, 0))) (hBw : B ≤ w.heap.size) (hn : n ≤ 281474976710656) :
    Calls Tryd.prog 103 #[.pointer (some ⟨b, 0, none⟩), .int .i64 n] w fun e w' => e = .returned (.tuple #[]) ∧ (Lib.BuilderAt 85 5 B b (.pointer (some ⟨b, 0, none⟩)) [] w' ∧ Below B w w') := Any.Builder_grow_fresh Tryd.lays241 Tryd.Builder_Extra_241 B b n w hB hbk hBw hn
def Tryd.lays165_ren : Go.Shelf.Ren := ⟨fun | 165 => 87 | 240 => 84 | 241 => 103 | 276 => 96 | 277 => 110 | n => n, fun | 70 => 83 | 3 => 3 | 0 => 0 | 4 => 4 | 9 => 9 | 20 => 20 | 72 => 85 | 37 => 28 | 164 => 112 | 5 => 5 | n => n, fun | n => n⟩
theorem Tryd.lays165 : Go.Proofs.Lays.n165 Tryd.prog Tryd.lays165_ren := {
  mixed := by kernel_rfl
  f165 := Tryd.func87.trans (congrArg some (by kernel_rfl))
  f240 := Tryd.func84.trans (congrArg some (by kernel_rfl))
  f241 := Tryd.func103.trans (congrArg some (by kernel_rfl))
  f276 := Tryd.func96.trans (congrArg some (by kernel_rfl))
  f277 := Tryd.func110.trans (congrArg some (by kernel_rfl))
  t0 := Tryd.underlying0
  a0 := Tryd.isAgg0
  z0 := Tryd.sizeOf0
  v0 := Tryd.zeroValue0
  t3 := Tryd.underlying3
  a3 := Tryd.isAgg3
  z3 := Tryd.sizeOf3
  v3 := Tryd.zeroValue3
  t4 := Tryd.underlying4
  a4 := Tryd.isAgg4
  z4 := Tryd.sizeOf4
  v4 := Tryd.zeroValue4
  t9 := Tryd.underlying9
  a9 := Tryd.isAgg9
  z9 := Tryd.sizeOf9
  v9 := Tryd.zeroValue9
  t20 := Tryd.underlying20
  a20 := Tryd.isAgg20
  z20 := Tryd.sizeOf20
  v20 := Tryd.zeroValue20
  t37 := Tryd.underlying28
  a37 := Tryd.isAgg28
  z37 := Tryd.sizeOf28
  v37 := Tryd.zeroValue28
  t70 := Tryd.underlying83
  a70 := Tryd.isAgg83
  z70 := Tryd.sizeOf83
  v70 := Tryd.zeroValue83
  t72 := Tryd.underlying85
  a72 := Tryd.isAgg85
  z72 := Tryd.sizeOf85
  v72 := Tryd.zeroValue85
  t164 := Tryd.underlying112
  a164 := Tryd.isAgg112
  z164 := Tryd.sizeOf112
  v164 := Tryd.zeroValue112 }
theorem Tryd.Builder_Extra_165 : Builder.Extra Tryd.prog Tryd.lays165_ren := {
  sizeBuilder := by kernel_rfl
  liesBuilder := by kernel_rfl
  t5 := Tryd.underlying5
  a5 := Tryd.isAgg5
  z5 := Tryd.sizeOf5
  v5 := Tryd.zeroValue5
  infoByte := by kernel_rfl
  cellsByte := by kernel_rfl
  sizeByte := by kernel_rfl
  neB5 := by decide }
open Go.RowKit in
/-- (*strings.Builder).Grow AT A BUILDER THAT HAS NOT BEEN WRITTEN ('var b strings.Builder; b.Grow(n)'): "Grow grows b's capacity, if necessary, to guarantee space for another n bytes.": it holds no byte behind it as before it. (LAID: no walk: one application.) -/
theorem Tryd.Builder_Grow_fresh (B b n : Nat) (w : World) (hB : B ≤ b) (hbk : w.heap[b]? = some (.cells #[.pointer none, .slice none 0 0] 85 (0, 0))) (hBw : B ≤ w.heap.size) (hn : n ≤ 281474976710656) :
    Calls Tryd.prog 87 #[.pointer (some ⟨b, 0, none⟩), .int .i64 n] w fun e w' => e = .returned (.tuple #[]) ∧ (Lib.BuilderAt 85 5 B b (.pointer (some ⟨b, 0, none⟩)) [] w' ∧ Below B w w') := Any.Builder_Grow_fresh Tryd.lays165 Tryd.Builder_Extra_165 B b n w hB hbk hBw hn
def Tryd.lays128_ren : Go.Shelf.Ren := ⟨fun | 128 => 104 | n => n, fun | 51 => 43 | 3 => 3 | 4 => 4 | 46 => 72 | 5 => 5 | 9 => 9 | n => n, fun | n => n⟩
theorem Tryd.lays128 : Go.Proofs.Lays.n128 Tryd.prog Tryd.lays128_ren := {
  mixed := by kernel_rfl
  f128 := Tryd.func104.trans (congrArg some (by kernel_rfl))
  t3 := Tryd.underlying3
  a3 := Tryd.isAgg3
  z3 := Tryd.sizeOf3
  v3 := Tryd.zeroValue3
  t4 := Tryd.underlying4
  a4 := Tryd.isAgg4
  z4 := Tryd.sizeOf4
  v4 := Tryd.zeroValue4
  t5 := Tryd.underlying5
  a5 := Tryd.isAgg5
  z5 := Tryd.sizeOf5
  v5 := Tryd.zeroValue5
  t9 := Tryd.underlying9
  a9 := Tryd.isAgg9
  z9 := Tryd.sizeOf9
  v9 := Tryd.zeroValue9
  t46 := Tryd.underlying72
  a46 := Tryd.isAgg72
  z46 := Tryd.sizeOf72
  v46 := Tryd.zeroValue72
  t51 := Tryd.underlying43
  a51 := Tryd.isAgg43
  z51 := Tryd.sizeOf43
  v51 := Tryd.zeroValue43 }
/-- bits.Len32: "Len32 returns the minimum number of bits required to represent x; the result is 0 for x == 0.": IT RETURNS 'Lib.bitLen x'; the world is as it was. ('h0', 'h1': x is a uint32.) (LAID: no walk: one application.) -/
theorem Tryd.bits_Len32 (x : Int) (w : World) (h0 : 0 ≤ x) (h1 : x ≤ 4294967295) :
    Calls Tryd.prog 104 #[.int .u32 x] w fun e w' => e = .returned (.int .i64 (Lib.bitLen x.toNat)) ∧ w' = w := Any.bits_Len32 Tryd.lays128 x w h0 h1
def Tryd.lays133_ren : Go.Shelf.Ren := ⟨fun | 133 => 92 | 128 => 104 | n => n, fun | 51 => 43 | 3 => 3 | 4 => 4 | 46 => 72 | 5 => 5 | 9 => 9 | n => n, fun | n => n⟩
theorem Tryd.lays133 : Go.Proofs.Lays.n133 Tryd.prog Tryd.lays133_ren := {
  mixed := by kernel_rfl
  f128 := Tryd.func104.trans (congrArg some (by kernel_rfl))
  f133 := Tryd.func92.trans (congrArg some (by kernel_rfl))
  t3 := Tryd.underlying3
  a3 := Tryd.isAgg3
  z3 := Tryd.sizeOf3
  v3 := Tryd.zeroValue3
  t4 := Tryd.underlying4
  a4 := Tryd.isAgg4
  z4 := Tryd.sizeOf4
  v4 := Tryd.zeroValue4
  t5 := Tryd.underlying5
  a5 := Tryd.isAgg5
  z5 := Tryd.sizeOf5
  v5 := Tryd.zeroValue5
  t9 := Tryd.underlying9
  a9 := Tryd.isAgg9
  z9 := Tryd.sizeOf9
  v9 := Tryd.zeroValue9
  t46 := Tryd.underlying72
  a46 := Tryd.isAgg72
  z46 := Tryd.sizeOf72
  v46 := Tryd.zeroValue72
  t51 := Tryd.underlying43
  a51 := Tryd.isAgg43
  z51 := Tryd.sizeOf43
  v51 := Tryd.zeroValue43 }
/-- bits.LeadingZeros32: "LeadingZeros32 returns the number of leading zero bits in x; the result is 32 for x == 0.": IT RETURNS '32 - Lib.bitLen x'; the world is as it was. ITS CALLEE bits.Len32 IS MET BY ITS OWN CONTRACT OFF THE SHELF (lay that first): entered in place it sends the kernel out of memory. (LAID: no walk: one application.) -/
theorem Tryd.bits_LeadingZeros32 (x : Int) (w : World) (h0 : 0 ≤ x) (h1 : x ≤ 4294967295) :
    Calls Tryd.prog 92 #[.int .u32 x] w fun e w' => e = .returned (.int .i64 (32 - (Lib.bitLen x.toNat : Int))) ∧ w' = w := Any.bits_LeadingZeros32 Tryd.lays133 x w h0 h1
open Go.RowKit in
/-- (*strings.Builder).Len: "Len returns the number of accumulated bytes; b.Len() == len(b.String()).": the world is as it was. (THE FORM '_f': 'Lib.IsBuilderF'.) (LAID: no walk: one application.) -/
theorem Tryd.Builder_Len_f (B b : Nat) (bs : List Value) (w : World) (h : Lib.IsBuilderF 85 5 B b bs w) :
    Calls Tryd.prog 88 #[.pointer (some ⟨b, 0, none⟩)] w fun e w' => e = .returned (.int .i64 bs.length) ∧ w' = w := Any.Builder_Len_f Tryd.lays170 B b bs w h
open Go.RowKit in
/-- (*strings.Builder).String: "String returns the accumulated string.": OF A BUILDER THAT HOLDS AT LEAST ONE BYTE. ✋ THE MODEL FREEZES THOSE BYTES IN THE BUFFER (unsafe.String): a later write INTO them ends the model's run without an answer; a later append BEHIND them goes on. The statement's order of evaluation is drawn: one draw. THE FORM '_f': IT SAYS BESIDES THAT THE BUILDER IS A BUILDER STILL ('Lib.IsBuilderF', the same bytes): SO IT CAN BE WRITTEN ON: 'b.WriteString(b.String()[:k])'. (LAID: no walk: one application.) -/
theorem Tryd.Builder_String_f (B b : Nat) (l : List UInt8) (w : World) (h : Lib.IsBuilderF 85 5 B b (Lib.byteCells l) w) (h0 : l ≠ []) :
    Calls Tryd.prog 72 #[.pointer (some ⟨b, 0, none⟩)] w fun e w' => e = .returned (.string ⟨l.toArray⟩) ∧ (Lib.IsBuilderF 85 5 B b (Lib.byteCells l) w' ∧ Below B w w') := Any.Builder_String_f Tryd.lays169 Tryd.Builder_Extra_169 B b l w h h0
open Go.RowKit in
/-- (*strings.Builder).String OF A BUILDER THAT HOLDS NO BYTE: the empty string; THE FORM '_f': a builder still. (LAID: no walk: one application.) -/
theorem Tryd.Builder_String_empty_f (B b : Nat) (w : World) (h : Lib.IsBuilderF 85 5 B b [] w) (hBw : B ≤ w.heap.size) :
    Calls Tryd.prog 72 #[.pointer (some ⟨b, 0, none⟩)] w fun e w' => e = .returned (.string ⟨#[]⟩) ∧ (Lib.IsBuilderF 85 5 B b [] w' ∧ Below B w w') := Any.Builder_String_empty_f Tryd.lays169 Tryd.Builder_Extra_169 B b w h hBw
open Go.RowKit in
/-- (*strings.Builder).String: "String returns the accumulated string.": WHATEVER THE BUILDER HOLDS; THE FORM '_f': OF A BUILDER THAT MAY HAVE BEEN READ BEFORE; AND IT IS A BUILDER STILL, holding the same bytes: it can be written on. (LAID: no walk: one application.) -/
theorem Tryd.Builder_String_any_f (B b : Nat) (l : List UInt8) (w : World) (h : Lib.IsBuilderF 85 5 B b (Lib.byteCells l) w) (hBw : B ≤ w.heap.size) :
    Calls Tryd.prog 72 #[.pointer (some ⟨b, 0, none⟩)] w fun e w' => e = .returned (.string ⟨l.toArray⟩) ∧ (Lib.IsBuilderF 85 5 B b (Lib.byteCells l) w' ∧ Below B w w') := Any.Builder_String_any_f Tryd.lays169 Tryd.Builder_Extra_169 B b l w h hBw
open Go.RowKit in
/-- (*strings.Builder).String: "String returns the accumulated string.": OF A BUILDER THAT HOLDS AT LEAST ONE BYTE. ✋ THE MODEL FREEZES THOSE BYTES IN THE BUFFER (unsafe.String): a later write INTO them ends the model's run without an answer; a later append BEHIND them goes on. The statement's order of evaluation is drawn: one draw. THE FORM '_k': OVER 'Lib.IsBuilderF' (a builder that 'String()' may have read), AND WITH THE FRAME THAT REACHES ABOVE THE BUILDER: 'Lib.OthersKept': every block that is not b and is no row of uint8's stands as it stood: the iterator of a range among them. (LAID: no walk: one application.) -/
theorem Tryd.Builder_String_k (B b : Nat) (l : List UInt8) (w : World) (h : Lib.IsBuilderF 85 5 B b (Lib.byteCells l) w) (h0 : l ≠ []) :
    Calls Tryd.prog 72 #[.pointer (some ⟨b, 0, none⟩)] w fun e w' => e = .returned (.string ⟨l.toArray⟩) ∧ (Lib.IsBuilderF 85 5 B b (Lib.byteCells l) w' ∧ Below B w w' ∧ Lib.OthersKept 5 (some b) w w') := Any.Builder_String_k Tryd.lays169 Tryd.Builder_Extra_169 B b l w h h0
open Go.RowKit in
/-- (*strings.Builder).String OF A BUILDER THAT HOLDS NO BYTE: the empty string; THE FORM '_k': OVER 'Lib.IsBuilderF' (a builder that 'String()' may have read), AND WITH THE FRAME THAT REACHES ABOVE THE BUILDER: 'Lib.OthersKept': every block that is not b and is no row of uint8's stands as it stood: the iterator of a range among them. (LAID: no walk: one application.) -/
theorem Tryd.Builder_String_empty_k (B b : Nat) (w : World) (h : Lib.IsBuilderF 85 5 B b [] w) (hBw : B ≤ w.heap.size) :
    Calls Tryd.prog 72 #[.pointer (some ⟨b, 0, none⟩)] w fun e w' => e = .returned (.string ⟨#[]⟩) ∧ (Lib.IsBuilderF 85 5 B b [] w' ∧ Below B w w' ∧ Lib.OthersKept 5 (some b) w w') := Any.Builder_String_empty_k Tryd.lays169 Tryd.Builder_Extra_169 B b w h hBw
open Go.RowKit in
/-- (*strings.Builder).String: "String returns the accumulated string.": WHATEVER THE BUILDER HOLDS; THE FORM '_k': OVER 'Lib.IsBuilderF' (a builder that 'String()' may have read), AND WITH THE FRAME THAT REACHES ABOVE THE BUILDER: 'Lib.OthersKept': every block that is not b and is no row of uint8's stands as it stood: the iterator of a range among them. (LAID: no walk: one application.) -/
theorem Tryd.Builder_String_any_k (B b : Nat) (l : List UInt8) (w : World) (h : Lib.IsBuilderF 85 5 B b (Lib.byteCells l) w) (hBw : B ≤ w.heap.size) :
    Calls Tryd.prog 72 #[.pointer (some ⟨b, 0, none⟩)] w fun e w' => e = .returned (.string ⟨l.toArray⟩) ∧ (Lib.IsBuilderF 85 5 B b (Lib.byteCells l) w' ∧ Below B w w' ∧ Lib.OthersKept 5 (some b) w w') := Any.Builder_String_any_k Tryd.lays169 Tryd.Builder_Extra_169 B b l w h hBw
def Tryd.lays129_ren : Go.Shelf.Ren := ⟨fun | 129 => 106 | n => n, fun | 53 => 70 | 3 => 3 | 4 => 4 | 46 => 72 | 5 => 5 | 9 => 9 | n => n, fun | n => n⟩
theorem Tryd.lays129 : Go.Proofs.Lays.n129 Tryd.prog Tryd.lays129_ren := {
  mixed := by kernel_rfl
  f129 := Tryd.func106.trans (congrArg some (by kernel_rfl))
  t3 := Tryd.underlying3
  a3 := Tryd.isAgg3
  z3 := Tryd.sizeOf3
  v3 := Tryd.zeroValue3
  t4 := Tryd.underlying4
  a4 := Tryd.isAgg4
  z4 := Tryd.sizeOf4
  v4 := Tryd.zeroValue4
  t5 := Tryd.underlying5
  a5 := Tryd.isAgg5
  z5 := Tryd.sizeOf5
  v5 := Tryd.zeroValue5
  t9 := Tryd.underlying9
  a9 := Tryd.isAgg9
  z9 := Tryd.sizeOf9
  v9 := Tryd.zeroValue9
  t46 := Tryd.underlying72
  a46 := Tryd.isAgg72
  z46 := Tryd.sizeOf72
  v46 := Tryd.zeroValue72
  t53 := Tryd.underlying70
  a53 := Tryd.isAgg70
  z53 := Tryd.sizeOf70
  v53 := Tryd.zeroValue70 }
/-- bits.Len64: "Len64 returns the minimum number of bits required to represent x; the result is 0 for x == 0.": IT RETURNS 'Lib.bitLen x'; the world is as it was. ('h0', 'h1': x is a uint64.) (LAID: no walk: one application.) -/
theorem Tryd.bits_Len64 (x : Int) (w : World) (h0 : 0 ≤ x) (h1 : x ≤ 18446744073709551615) :
    Calls Tryd.prog 106 #[.int .u64 x] w fun e w' => e = .returned (.int .i64 (Lib.bitLen x.toNat)) ∧ w' = w := Any.bits_Len64 Tryd.lays129 x w h0 h1
def Tryd.lays317_ren : Go.Shelf.Ren := ⟨fun | 317 => 105 | n => n, fun | 3 => 3 | 46 => 72 | n => n, fun | n => n⟩
theorem Tryd.lays317 : Go.Proofs.Lays.n317 Tryd.prog Tryd.lays317_ren := {
  mixed := by kernel_rfl
  f317 := Tryd.func105.trans (congrArg some (by kernel_rfl))
  t3 := Tryd.underlying3
  a3 := Tryd.isAgg3
  z3 := Tryd.sizeOf3
  v3 := Tryd.zeroValue3
  t46 := Tryd.underlying72
  a46 := Tryd.isAgg72
  z46 := Tryd.sizeOf72
  v46 := Tryd.zeroValue72 }
open Go.Lib in
/-- internal/strconv.log10Pow2: "log10Pow2(x) returns ⌊log₁₀ 2**x⌋ = ⌊x * log₁₀ 2⌋.": '(x * 78913) >> 18', at an x up to 64 (a length in bits). The world is as it was. (LAID: no walk: one application.) -/
theorem Tryd.internal_strconv_log10Pow2 (x : Nat) (h : x ≤ 64) (w : World) :
    Calls Tryd.prog 105 #[.int .i64 x] w fun e w' => e = .returned (.int .i64 (Lib.l10 x)) ∧ w' = w := Any.internal_strconv_log10Pow2 Tryd.lays317 x h w
def Tryd.lays318_ren : Go.Shelf.Ren := ⟨fun | 318 => 107 | n => n, fun | 3 => 3 | 4 => 4 | n => n, fun | n => n⟩
theorem Tryd.lays318 : Go.Proofs.Lays.n318 Tryd.prog Tryd.lays318_ren := {
  mixed := by kernel_rfl
  f318 := Tryd.func107.trans (congrArg some (by kernel_rfl))
  t3 := Tryd.underlying3
  a3 := Tryd.isAgg3
  z3 := Tryd.sizeOf3
  v3 := Tryd.zeroValue3
  t4 := Tryd.underlying4
  a4 := Tryd.isAgg4
  z4 := Tryd.sizeOf4
  v4 := Tryd.zeroValue4 }
open Go.Lib in
/-- internal/strconv.bool2: "bool2 converts b to an integer: 1 for true, 0 for false." The world is as it was. (LAID: no walk: one application.) -/
theorem Tryd.internal_strconv_bool2_int (b : Bool) (w : World) :
    Calls Tryd.prog 107 #[.bool b] w fun e w' => e = .returned (.int .i64 (if b then 1 else 0)) ∧ w' = w := Any.internal_strconv_bool2_int Tryd.lays318 b w
def Tryd.lays283_ren : Go.Shelf.Ren := ⟨fun | 283 => 97 | n => n, fun | 3 => 3 | 9 => 9 | 4 => 4 | n => n, fun | n => n⟩
theorem Tryd.lays283 : Go.Proofs.Lays.n283 Tryd.prog Tryd.lays283_ren := {
  mixed := by kernel_rfl
  f283 := Tryd.func97.trans (congrArg some (by kernel_rfl))
  t3 := Tryd.underlying3
  a3 := Tryd.isAgg3
  z3 := Tryd.sizeOf3
  v3 := Tryd.zeroValue3
  t4 := Tryd.underlying4
  a4 := Tryd.isAgg4
  z4 := Tryd.sizeOf4
  v4 := Tryd.zeroValue4
  t9 := Tryd.underlying9
  a9 := Tryd.isAgg9
  z9 := Tryd.sizeOf9
  v9 := Tryd.zeroValue9 }
open Go.Lib in
/-- internal/strconv.small: "small returns the string for an i with 0 <= i < nSmalls.": i's decimal numeral. The world is as it was. (LAID: no walk: one application.) -/
theorem Tryd.internal_strconv_small (i : Nat) (h : i < 100) (w : World) :
    Calls Tryd.prog 97 #[.int .i64 i] w fun e w' => e = .returned (.string ⟨(Lib.decDigits i).toArray⟩) ∧ w' = w := Any.internal_strconv_small Tryd.lays283 i h w
def Tryd.laysM284_ren : Go.Shelf.Ren := ⟨fun | 284 => 98 | 129 => 106 | 317 => 105 | 318 => 107 | n => n, fun | 53 => 70 | 3 => 3 | 212 => 125 | 0 => 0 | 4 => 4 | 46 => 72 | 5 => 5 | 9 => 9 | n => n, fun | 17 => 1 | n => n⟩
theorem Tryd.laysM284 : Go.Proofs.LaysM.n284 Tryd.prog Tryd.laysM284_ren := {
  mixed := by kernel_rfl
  f129 := Tryd.func106.trans (congrArg some (by kernel_rfl))
  f284 := Tryd.func98.trans (congrArg some (by kernel_rfl))
  f317 := Tryd.func105.trans (congrArg some (by kernel_rfl))
  f318 := Tryd.func107.trans (congrArg some (by kernel_rfl))
  t0 := Tryd.underlying0
  a0 := Tryd.isAgg0
  z0 := Tryd.sizeOf0
  v0 := Tryd.zeroValue0
  t3 := Tryd.underlying3
  a3 := Tryd.isAgg3
  z3 := Tryd.sizeOf3
  v3 := Tryd.zeroValue3
  t4 := Tryd.underlying4
  a4 := Tryd.isAgg4
  z4 := Tryd.sizeOf4
  v4 := Tryd.zeroValue4
  t5 := Tryd.underlying5
  a5 := Tryd.isAgg5
  z5 := Tryd.sizeOf5
  v5 := Tryd.zeroValue5
  t9 := Tryd.underlying9
  a9 := Tryd.isAgg9
  z9 := Tryd.sizeOf9
  v9 := Tryd.zeroValue9
  t46 := Tryd.underlying72
  a46 := Tryd.isAgg72
  z46 := Tryd.sizeOf72
  v46 := Tryd.zeroValue72
  t53 := Tryd.underlying70
  a53 := Tryd.isAgg70
  z53 := Tryd.sizeOf70
  v53 := Tryd.zeroValue70
  t212 := Tryd.underlying125
  a212 := Tryd.isAgg125
  z212 := Tryd.sizeOf125
  v212 := Tryd.zeroValue125
  g17 := by kernel_rfl
  i0 := by kernel_rfl
  i3 := by kernel_rfl
  i4 := by kernel_rfl
  i5 := by kernel_rfl
  i9 := by kernel_rfl
  i46 := by kernel_rfl
  i53 := by kernel_rfl
  i212 := by kernel_rfl
  m17 := by kernel_rfl }
open Go.Lib in
/-- internal/strconv.numDigits, at a d that is not 0: THE NUMBER OF d's DECIMAL DIGITS. The world is as it was. (LAID: no walk: one application.) -/
theorem Tryd.internal_strconv_numDigits (u : Nat) (h1 : 1 ≤ u) (h2 : u < 18446744073709551616) (w : World) (htab : Lib.TabIs Tryd.prog w "internal/strconv.uint64pow10" .u64 Lib.pow10Tab) :
    Calls Tryd.prog 98 #[.int .u64 u] w fun e w' => e = .returned (.int .i64 (Lib.nDigits u)) ∧ w' = w := Any.internal_strconv_numDigits Tryd.laysM284 u h1 h2 w htab
def Tryd.lays285_ren : Go.Shelf.Ren := ⟨fun | 285 => 99 | n => n, fun | 37 => 28 | 53 => 70 | 3 => 3 | 4 => 4 | 51 => 43 | 9 => 9 | 5 => 5 | 0 => 0 | n => n, fun | n => n⟩
theorem Tryd.lays285 : Go.Proofs.Lays.n285 Tryd.prog Tryd.lays285_ren := {
  mixed := by kernel_rfl
  f285 := Tryd.func99.trans (congrArg some (by kernel_rfl))
  t0 := Tryd.underlying0
  a0 := Tryd.isAgg0
  z0 := Tryd.sizeOf0
  v0 := Tryd.zeroValue0
  t3 := Tryd.underlying3
  a3 := Tryd.isAgg3
  z3 := Tryd.sizeOf3
  v3 := Tryd.zeroValue3
  t4 := Tryd.underlying4
  a4 := Tryd.isAgg4
  z4 := Tryd.sizeOf4
  v4 := Tryd.zeroValue4
  t5 := Tryd.underlying5
  a5 := Tryd.isAgg5
  z5 := Tryd.sizeOf5
  v5 := Tryd.zeroValue5
  t9 := Tryd.underlying9
  a9 := Tryd.isAgg9
  z9 := Tryd.sizeOf9
  v9 := Tryd.zeroValue9
  t37 := Tryd.underlying28
  a37 := Tryd.isAgg28
  z37 := Tryd.sizeOf28
  v37 := Tryd.zeroValue28
  t51 := Tryd.underlying43
  a51 := Tryd.isAgg43
  z51 := Tryd.sizeOf43
  v51 := Tryd.zeroValue43
  t53 := Tryd.underlying70
  a53 := Tryd.isAgg70
  z53 := Tryd.sizeOf70
  v53 := Tryd.zeroValue70 }
open Go.RowKit Go.Sort Go.Lib in
/-- internal/strconv.formatBase10: "formatBase10 formats the decimal representation of u into a. The caller is responsible for ensuring that a is big enough to hold u. If a is too big, leading zeros will be filled in as needed.": THE ROW HOLDS u's DIGITS ('FmtInv .. 0 ..': every place t holds 'dg u (len - 1 - t)'); all else is as it was but for the count of draws. (LAID: no walk: one application.) -/
theorem Tryd.internal_strconv_formatBase10 (blk off cap : Nat) (u : Nat) (d : Array UInt8) (w : World) (hH : Holds (fun (b : UInt8) => Value.int .u8 (b.toNat : Int)) w blk off d) (hu : u < 10 ^ d.size) (hu64 : u < 18446744073709551616) (hsz : d.size < 4611686018427387904) :
    Calls Tryd.prog 99 #[.slice (some ⟨blk, off, none⟩) d.size cap, .int .u64 u] w fun e w' =>
      e = .returned (.tuple #[]) ∧ ∃ (n v' : Nat) (dk : Array UInt8), w' = (putRow (fun (b : UInt8) => Value.int .u8 (b.toNat : Int)) w blk off dk).drewN n ∧ FmtInv d.size u 0 v' dk := Any.internal_strconv_formatBase10 Tryd.lays285 blk off cap u d w hH hu hu64 hsz
def Tryd.lays206_ren : Go.Shelf.Ren := ⟨fun | 206 => 89 | n => n, fun | 9 => 9 | 4 => 4 | 3 => 3 | n => n, fun | n => n⟩
theorem Tryd.lays206 : Go.Proofs.Lays.n206 Tryd.prog Tryd.lays206_ren := {
  mixed := by kernel_rfl
  f206 := Tryd.func89.trans (congrArg some (by kernel_rfl))
  t3 := Tryd.underlying3
  a3 := Tryd.isAgg3
  z3 := Tryd.sizeOf3
  v3 := Tryd.zeroValue3
  t4 := Tryd.underlying4
  a4 := Tryd.isAgg4
  z4 := Tryd.sizeOf4
  v4 := Tryd.zeroValue4
  t9 := Tryd.underlying9
  a9 := Tryd.isAgg9
  z9 := Tryd.sizeOf9
  v9 := Tryd.zeroValue9 }
open Go.RowKit Go.Lib in
/-- internal/stringslite.HasPrefix (what strings.HasPrefix calls). (LAID: no walk: one application.) -/
theorem Tryd.stringslite_HasPrefix (s p : ByteArray) (w : World) :
    Calls Tryd.prog 89 #[.string s, .string p] w fun e w' => e = .returned (.bool (Lib.hasPrefix s.data.toList p.data.toList)) ∧ w' = w := Any.stringslite_HasPrefix Tryd.lays206 s p w
def Tryd.lays99_ren : Go.Shelf.Ren := ⟨fun | 99 => 75 | 206 => 89 | n => n, fun | 9 => 9 | 4 => 4 | 3 => 3 | n => n, fun | n => n⟩
theorem Tryd.lays99 : Go.Proofs.Lays.n99 Tryd.prog Tryd.lays99_ren := {
  mixed := by kernel_rfl
  f99 := Tryd.func75.trans (congrArg some (by kernel_rfl))
  f206 := Tryd.func89.trans (congrArg some (by kernel_rfl))
  t3 := Tryd.underlying3
  a3 := Tryd.isAgg3
  z3 := Tryd.sizeOf3
  v3 := Tryd.zeroValue3
  t4 := Tryd.underlying4
  a4 := Tryd.isAgg4
  z4 := Tryd.sizeOf4
  v4 := Tryd.zeroValue4
  t9 := Tryd.underlying9
  a9 := Tryd.isAgg9
  z9 := Tryd.sizeOf9
  v9 := Tryd.zeroValue9 }
open Go.RowKit Go.Lib in
/-- strings.HasPrefix: "HasPrefix reports whether the string s begins with prefix.": IT RETURNS 'Lib.hasPrefix s prefix'; the world is as it was. (LAID: no walk: one application.) -/
theorem Tryd.strings_HasPrefix (s p : ByteArray) (w : World) :
    Calls Tryd.prog 75 #[.string s, .string p] w fun e w' => e = .returned (.bool (Lib.hasPrefix s.data.toList p.data.toList)) ∧ w' = w := Any.strings_HasPrefix Tryd.lays99 s p w
def Tryd.lays264_ren : Go.Shelf.Ren := ⟨fun | 264 => 102 | n => n, fun | 53 => 70 | 46 => 72 | n => n, fun | n => n⟩
theorem Tryd.lays264 : Go.Proofs.Lays.n264 Tryd.prog Tryd.lays264_ren := {
  mixed := by kernel_rfl
  f264 := Tryd.func102.trans (congrArg some (by kernel_rfl))
  t46 := Tryd.underlying72
  a46 := Tryd.isAgg72
  z46 := Tryd.sizeOf72
  v46 := Tryd.zeroValue72
  t53 := Tryd.underlying70
  a53 := Tryd.isAgg70
  z53 := Tryd.sizeOf70
  v53 := Tryd.zeroValue70 }
open Go.RowKit Go.Lib in
theorem Tryd.bits_Mul64 (x y : Nat) (hx : x < 18446744073709551616) (hy : y < 18446744073709551616) (w : World) :
    Calls Tryd.prog 102 #[.int .u64 x, .int .u64 y] w fun e w' => e = .returned (.tuple #[.int .u64 ((x * y / 18446744073709551616 : Nat) : Int), .int .u64 ((x * y % 18446744073709551616 : Nat) : Int)]) ∧ w' = w := Any.bits_Mul64 Tryd.lays264 x y hx hy w
def Tryd.lays212_ren : Go.Shelf.Ren := ⟨fun | 212 => 86 | 263 => 101 | 264 => 102 | n => n, fun | 46 => 72 | 51 => 43 | 146 => 100 | 53 => 70 | 148 => 121 | n => n, fun | n => n⟩
theorem Tryd.lays212 : Go.Proofs.Lays.n212 Tryd.prog Tryd.lays212_ren := {
  mixed := by kernel_rfl
  f212 := Tryd.func86.trans (congrArg some (by kernel_rfl))
  f263 := Tryd.func101.trans (congrArg some (by kernel_rfl))
  f264 := Tryd.func102.trans (congrArg some (by kernel_rfl))
  t46 := Tryd.underlying72
  a46 := Tryd.isAgg72
  z46 := Tryd.sizeOf72
  v46 := Tryd.zeroValue72
  t51 := Tryd.underlying43
  a51 := Tryd.isAgg43
  z51 := Tryd.sizeOf43
  v51 := Tryd.zeroValue43
  t53 := Tryd.underlying70
  a53 := Tryd.isAgg70
  z53 := Tryd.sizeOf70
  v53 := Tryd.zeroValue70
  t146 := Tryd.underlying100
  a146 := Tryd.isAgg100
  z146 := Tryd.sizeOf100
  v146 := Tryd.zeroValue100
  t148 := Tryd.underlying121
  a148 := Tryd.isAgg121
  z148 := Tryd.sizeOf121
  v148 := Tryd.zeroValue121 }
open Go.RowKit Go.Lib in
/-- math/bits.Mul: "Mul returns the full-width product of x and y": on a machine of 64 bits: Mul64's. (LAID: no walk: one application.) -/
theorem Tryd.bits_Mul (x y : Nat) (hx : x < 18446744073709551616) (hy : y < 18446744073709551616) (w : World) :
    Calls Tryd.prog 86 #[.int .u64 x, .int .u64 y] w fun e w' => e = .returned (.tuple #[.int .u64 ((x * y / 18446744073709551616 : Nat) : Int), .int .u64 ((x * y % 18446744073709551616 : Nat) : Int)]) ∧ w' = w := Any.bits_Mul Tryd.lays212 x y hx hy w
def Tryd.lays105_ren : Go.Shelf.Ren := ⟨fun | 105 => 71 | 212 => 86 | 99 => 75 | 165 => 87 | 166 => 70 | 170 => 88 | 169 => 72 | 263 => 101 | 264 => 102 | 206 => 89 | 240 => 84 | 241 => 103 | 276 => 96 | 277 => 110 | n => n, fun | 9 => 9 | 3 => 3 | 4 => 4 | 20 => 20 | 0 => 0 | 46 => 72 | 109 => 102 | 5 => 5 | 72 => 85 | 76 => 90 | 51 => 43 | 146 => 100 | 53 => 70 | 148 => 121 | 70 => 83 | 37 => 28 | 75 => 87 | 127 => 106 | 164 => 112 | 80 => 93 | n => n, fun | n => n⟩
theorem Tryd.lays105 : Go.Proofs.Lays.n105 Tryd.prog Tryd.lays105_ren := {
  mixed := by kernel_rfl
  f99 := Tryd.func75.trans (congrArg some (by kernel_rfl))
  f105 := Tryd.func71.trans (congrArg some (by kernel_rfl))
  f165 := Tryd.func87.trans (congrArg some (by kernel_rfl))
  f166 := Tryd.func70.trans (congrArg some (by kernel_rfl))
  f169 := Tryd.func72.trans (congrArg some (by kernel_rfl))
  f170 := Tryd.func88.trans (congrArg some (by kernel_rfl))
  f206 := Tryd.func89.trans (congrArg some (by kernel_rfl))
  f212 := Tryd.func86.trans (congrArg some (by kernel_rfl))
  f240 := Tryd.func84.trans (congrArg some (by kernel_rfl))
  f241 := Tryd.func103.trans (congrArg some (by kernel_rfl))
  f263 := Tryd.func101.trans (congrArg some (by kernel_rfl))
  f264 := Tryd.func102.trans (congrArg some (by kernel_rfl))
  f276 := Tryd.func96.trans (congrArg some (by kernel_rfl))
  f277 := Tryd.func110.trans (congrArg some (by kernel_rfl))
  t0 := Tryd.underlying0
  a0 := Tryd.isAgg0
  z0 := Tryd.sizeOf0
  v0 := Tryd.zeroValue0
  t3 := Tryd.underlying3
  a3 := Tryd.isAgg3
  z3 := Tryd.sizeOf3
  v3 := Tryd.zeroValue3
  t4 := Tryd.underlying4
  a4 := Tryd.isAgg4
  z4 := Tryd.sizeOf4
  v4 := Tryd.zeroValue4
  t5 := Tryd.underlying5
  a5 := Tryd.isAgg5
  z5 := Tryd.sizeOf5
  v5 := Tryd.zeroValue5
  t9 := Tryd.underlying9
  a9 := Tryd.isAgg9
  z9 := Tryd.sizeOf9
  v9 := Tryd.zeroValue9
  t20 := Tryd.underlying20
  a20 := Tryd.isAgg20
  z20 := Tryd.sizeOf20
  v20 := Tryd.zeroValue20
  t37 := Tryd.underlying28
  a37 := Tryd.isAgg28
  z37 := Tryd.sizeOf28
  v37 := Tryd.zeroValue28
  t46 := Tryd.underlying72
  a46 := Tryd.isAgg72
  z46 := Tryd.sizeOf72
  v46 := Tryd.zeroValue72
  t51 := Tryd.underlying43
  a51 := Tryd.isAgg43
  z51 := Tryd.sizeOf43
  v51 := Tryd.zeroValue43
  t53 := Tryd.underlying70
  a53 := Tryd.isAgg70
  z53 := Tryd.sizeOf70
  v53 := Tryd.zeroValue70
  t70 := Tryd.underlying83
  a70 := Tryd.isAgg83
  z70 := Tryd.sizeOf83
  v70 := Tryd.zeroValue83
  t72 := Tryd.underlying85
  a72 := Tryd.isAgg85
  z72 := Tryd.sizeOf85
  v72 := Tryd.zeroValue85
  t75 := Tryd.underlying87
  a75 := Tryd.isAgg87
  z75 := Tryd.sizeOf87
  v75 := Tryd.zeroValue87
  t76 := Tryd.underlying90
  a76 := Tryd.isAgg90
  z76 := Tryd.sizeOf90
  v76 := Tryd.zeroValue90
  t109 := Tryd.underlying102
  a109 := Tryd.isAgg102
  z109 := Tryd.sizeOf102
  v109 := Tryd.zeroValue102
  t127 := Tryd.underlying106
  a127 := Tryd.isAgg106
  z127 := Tryd.sizeOf106
  v127 := Tryd.zeroValue106
  t146 := Tryd.underlying100
  a146 := Tryd.isAgg100
  z146 := Tryd.sizeOf100
  v146 := Tryd.zeroValue100
  t148 := Tryd.underlying121
  a148 := Tryd.isAgg121
  z148 := Tryd.sizeOf121
  v148 := Tryd.zeroValue121
  t164 := Tryd.underlying112
  a164 := Tryd.isAgg112
  z164 := Tryd.sizeOf112
  v164 := Tryd.zeroValue112 }
theorem Tryd.Builder_Extra_105 : Builder.Extra Tryd.prog Tryd.lays105_ren := {
  sizeBuilder := by kernel_rfl
  liesBuilder := by kernel_rfl
  t5 := Tryd.underlying5
  a5 := Tryd.isAgg5
  z5 := Tryd.sizeOf5
  v5 := Tryd.zeroValue5
  infoByte := by kernel_rfl
  cellsByte := by kernel_rfl
  sizeByte := by kernel_rfl
  neB5 := by decide }
open Go.RowKit Go.Lib in
/-- THE MAIN CASE: at least two copies of a string that is not empty. (LAID: no walk: one application.) -/
theorem Tryd.strings_Repeat_main (s : ByteArray) (c : Nat) (w : World) (hc2 : 2 ≤ c) (hc : c ≤ 9223372036854775807) (hlen : s.size * c ≤ 140737488355328) (h0 : 0 < s.size) :
    Calls Tryd.prog 71 #[.string s, .int .i64 c] w fun e w' => e = .returned (.string ⟨(Lib.repeatL s.data.toList c).toArray⟩) ∧ Below w.heap.size w w' := Any.strings_Repeat_main Tryd.lays105 Tryd.Builder_Extra_105 s c w hc2 hc hlen h0
open Go.RowKit Go.Lib in
theorem Tryd.strings_Repeat_zero (s : ByteArray) (w : World) :
    Calls Tryd.prog 71 #[.string s, .int .i64 0] w fun e w' => e = .returned (.string ⟨#[]⟩) ∧ w' = w := Any.strings_Repeat_zero Tryd.lays105 s w
open Go.RowKit Go.Lib in
theorem Tryd.strings_Repeat_one (s : ByteArray) (w : World) :
    Calls Tryd.prog 71 #[.string s, .int .i64 1] w fun e w' => e = .returned (.string s) ∧ w' = w := Any.strings_Repeat_one Tryd.lays105 s w
open Go.RowKit Go.Lib in
/-- Copies of the empty string. (LAID: no walk: one application.) -/
theorem Tryd.strings_Repeat_empty (s : ByteArray) (c : Nat) (w : World) (hc2 : 2 ≤ c) (hc : c ≤ 9223372036854775807) (h0 : s.size = 0) :
    Calls Tryd.prog 71 #[.string s, .int .i64 c] w fun e w' => e = .returned (.string ⟨#[]⟩) ∧ w' = w := Any.strings_Repeat_empty Tryd.lays105 s c w hc2 hc h0
open Go.RowKit Go.Lib in
/-- count < 0: "It panics if count is negative". (LAID: no walk: one application.) -/
theorem Tryd.strings_Repeat_negative (s : ByteArray) (c : Int) (w : World) (hc : c < 0) :
    Calls Tryd.prog 71 #[.string s, .int .i64 c] w fun e w' => e = .panicked [{ v := repeatPanic Tryd.lays105_ren "strings: negative Repeat count", recovered := false }] ∧ w' = w := Any.strings_Repeat_negative Tryd.lays105 s c w hc
open Go.RowKit Go.Lib in
/-- len(s) * count is no int: ".. or if the result of (len(s) * count) overflows". (LAID: no walk: one application.) -/
theorem Tryd.strings_Repeat_overflow (s : ByteArray) (c : Nat) (w : World) (hc : c ≤ 9223372036854775807) (hs : s.size ≤ 9223372036854775807) (hbig : 9223372036854775807 < s.size * c) :
    Calls Tryd.prog 71 #[.string s, .int .i64 c] w fun e w' => e = .panicked [{ v := repeatPanic Tryd.lays105_ren "strings: Repeat output length overflow", recovered := false }] ∧ w' = w := Any.strings_Repeat_overflow Tryd.lays105 s c w hc hs hbig
open Go.RowKit Go.Lib in
/-- **strings.Repeat: count ≥ 0, the result within one allocation: count copies of s.** (LAID: no walk: one application.) -/
theorem Tryd.strings_Repeat (s : ByteArray) (c : Nat) (w : World) (hc : c ≤ 9223372036854775807) (hlen : s.size * c ≤ 140737488355328) :
    Calls Tryd.prog 71 #[.string s, .int .i64 c] w fun e w' => e = .returned (.string ⟨(Lib.repeatL s.data.toList c).toArray⟩) ∧ Below w.heap.size w w' := Any.strings_Repeat Tryd.lays105 Tryd.Builder_Extra_105 s c w hc hlen
end Go.Proofs
set_option linter.unusedVariables false
namespace Go.Proofs.YtocoflojlliapaaDoor
open Go.RowKit
theorem builder_info : (Tryd.prog.info? 85).map (fun i => i.size) = some 2 := by kernel_rfl
theorem builder_lies : liesAt Tryd.prog Tryd.prog.depth 85 (2 / Tryd.prog.cellsOf 85) 0 85 1 = true := by kernel_rfl
set_option maxHeartbeats 1000000 in
set_option maxRecDepth 100000 in
theorem copyCheck_used (b : Nat) (w : World) (h0 : w.cell? ⟨b, 0, none⟩ = some (.pointer (some ⟨b, 0, none⟩))) :
    Calls Tryd.prog 84 #[.pointer (some ⟨b, 0, none⟩)] w fun e w' => e = .returned (.tuple #[]) ∧ w = w' := by
  obtain ⟨j, hj, _⟩ := Option.map_eq_some_iff.1 builder_info
  go_enter Tryd.func84, Tryd.ntmps84
  go_wp2
  rw [Lib.run_neq_ptr_same w _ Tryd.underlying83 hj]
  go_wp2
  go_end0
  exact ⟨rfl, rfl⟩
set_option maxHeartbeats 1000000 in
set_option maxRecDepth 100000 in
theorem copyCheck_fresh (b : Nat) (w : World) (h0 : w.cell? ⟨b, 0, none⟩ = some (.pointer none)) (hsh : w.shape? b = some (85, 2)) (hfz : w.frozen? ⟨b, 0, none⟩ = false) :
    Calls Tryd.prog 84 #[.pointer (some ⟨b, 0, none⟩)] w fun e w' => e = .returned (.tuple #[]) ∧ w.setCell ⟨b, 0, none⟩ (.pointer (some ⟨b, 0, none⟩)) = w' := by
  obtain ⟨j, hj, hjs⟩ := Option.map_eq_some_iff.1 builder_info
  have HJ := Lib.hid hj
  clear hj
  go_enter Tryd.func84, Tryd.ntmps84
  go_wp2
  rw [Lib.run_to_unsafe w ⟨b, 0, none⟩ Tryd.underlying83 Tryd.underlying112 HJ.out (by rw [hjs]; decide) hsh (Nat.zero_lt_succ 1)]
  simp only [Result.andThen]
  rw [Oper.upon_value]
  go_wp2
  rw [run_callFunc_extern Tryd.func96 (by kernel_rfl) (by kernel_rfl) (by kernel_rfl) (e := Extern.AbiNoEscape.same) (by kernel_rfl)]
  rw [Lib.run_noEscape]
  simp only [Result.andThen]
  rw [Oper.upon_value]
  go_wp2
  rw [Lib.run_from_unsafe w ⟨b, 0, none⟩ Tryd.underlying112 Tryd.underlying83 HJ.out hsh builder_lies]
  simp only [Result.andThen]
  rw [Oper.upon_value]
  go_wp2
  go_end0
  exact ⟨rfl, rfl⟩
/-- the builder at block b that this call has made holds the bytes l -/
def Bld (B b : Nat) (l : List UInt8) (w : World) : Prop := Lib.IsBuilder 85 5 B b (Lib.byteCells l) w
/-- all blocks but the builder's and rows of bytes stand -/
def Stand (b : Nat) (w w' : World) : Prop := ∀ k cs t fr, k ≠ b → t ≠ 5 → w.heap[k]? = some (.cells cs t fr) → w'.heap[k]? = some (.cells cs t fr)
theorem Stand.refl (b : Nat) (w : World) : Stand b w w := fun _ _ _ _ _ _ h => h
theorem Stand.trans {b : Nat} {w w1 w2 : World} (h : Stand b w w1) (k : Stand b w1 w2) : Stand b w w2 := fun i cs t fr h1 h2 h3 => k i cs t fr h1 h2 (h i cs t fr h1 h2 h3)
theorem Stand.below {b : Nat} {w w1 : World} (h : Below w.heap.size w w1) : Stand b w w1 := fun i cs t fr _ _ h3 => by
  have hl : i < w.heap.size := by
    rcases Nat.lt_or_ge i w.heap.size with h1 | h1
    · exact h1
    · rw [Array.getElem?_eq_none h1] at h3
      cases h3
  exact (h.block i hl).trans h3
theorem Stand.nums {b g : Nat} {k : IntKind} {t : TypeId} {w w1 : World} {xs : List Nat} (h : Stand b w w1) (hn : Nums k t w g xs) (hg : g ≠ b) (ht : t ≠ 5) : Nums k t w1 g xs := h g _ t _ hg ht hn
theorem bytes_cl (l : List UInt8) : Lib.byteCells l = cl .u8 (l.map UInt8.toNat) := by simp [Lib.byteCells, cl, nv]
theorem copyCheck_any (B b : Nat) (l : List UInt8) (w : World) (h : Bld B b l w) :
    Calls Tryd.prog 84 #[.pointer (some ⟨b, 0, none⟩)] w fun e w' => e = .returned (.tuple #[]) ∧ Lib.BuilderAt 85 5 B b (.pointer (some ⟨b, 0, none⟩)) (Lib.byteCells l) w' ∧ Below B w w' ∧ Stand b w w' ∧ w.heap.size = w'.heap.size := by
  rcases h with h | h
  · refine (copyCheck_fresh b w h.cell0 h.shape h.frozen0).mono ?_
    rintro e w' ⟨rfl, rfl⟩
    exact ⟨rfl, h.used _, (Below.refl B w).setCell (p := ⟨b, 0, none⟩) h.1 _, fun i cs t fr h1 _ h3 => (Below.heap_setCell w ⟨b, 0, none⟩ _ i h1).trans h3, by simp⟩
  · refine (copyCheck_used b w h.cell0).mono ?_
    rintro e w' ⟨rfl, rfl⟩
    exact ⟨rfl, h, Below.refl B _, Stand.refl _ _, rfl⟩
set_option maxHeartbeats 2000000 in
set_option maxRecDepth 100000 in
theorem writeByte_any (B b : Nat) (l : List UInt8) (c : UInt8) (w : World) (h : Bld B b l w) (hlen : l.length ≤ 1000000) (hBw : B ≤ w.heap.size) :
    Calls Tryd.prog 67 #[.pointer (some ⟨b, 0, none⟩), .int .u8 c.toNat] w fun e w' => e = .returned .nilIface ∧ Bld B b (l ++ [c]) w' ∧ Below B w w' ∧ Stand b w w' ∧ w.heap.size ≤ w'.heap.size := by
  go_enter Tryd.func67, Tryd.ntmps67
  go_wp2_with (go_at_call 84; refine (copyCheck_any B b l _ h).mono ?_; rintro e w1 ⟨rfl, h1, hb1, hs1, hz1⟩; refine Hid.out ?_)
  refine Lib.hid ?_
  obtain ⟨hB, v, hbk, hown, hne⟩ := h1
  have c0 : w1.cell? ⟨b, 0, none⟩ = some (.pointer (some ⟨b, 0, none⟩)) := by rw [Lib.cell_of_heap hbk]; rfl
  have c1 : w1.cell? ⟨b, 1, none⟩ = some v := by rw [Lib.cell_of_heap hbk]; rfl
  have hBw1 : B ≤ w1.heap.size := by omega
  have hlt : b < w1.heap.size := by
    rcases Nat.lt_or_ge b w1.heap.size with h' | h'
    · exact h'
    · simp [Array.getElem?_eq_none h'] at hbk
  have hbk2 := (Below.heap_alloc w1 (.cells #[.int .u8 c.toNat] 5) b hlt).trans hbk
  have HBK := Lib.hid hbk2
  have HOWN := Lib.hid hown
  clear hbk hbk2 hown
  have hcells : Lib.byteCells l = cl .u8 (l.map UInt8.toNat) := by simp [Lib.byteCells, cl, nv]
  have HC := Lib.hid hcells
  clear hcells
  have hown2 : w1.ownsRow B 5 1 v l.length (cl .u8 (l.map UInt8.toNat)) := by
    rw [← HC.out]
    have := HOWN.out
    simpa [Lib.byteCells] using this
  go_wp2_with (at_builtin; refine app_any (k := .u8) 28 5 1 Tryd.underlying28 u8_info (by decide) _ rfl _ _ rfl rfl B v l.length _ rfl (hown2.alloc _) _ (some ⟨w1.heap.size, 0, none⟩) 1 1 [c.toNat] rfl (one_lim .u8 w1 5 c.toNat) (Lib.hid rfl) (by omega) (by simp; omega) ?_; intro v' w2 hown' hgrow; refine Hid.out ?_)
  refine Lib.hid ?_
  have hb2 : w2.heap[b]? = some (.cells #[.pointer (some ⟨b, 0, none⟩), v] 85 (0, 0)) := by
    rw [hgrow.block b (by simp; omega) (fun e => hne e.symm)]
    exact HBK.out
  have d0 : w2.cell? ⟨b, 0, none⟩ = some (.pointer (some ⟨b, 0, none⟩)) := by rw [Lib.cell_of_heap hb2]; rfl
  have d1 : w2.cell? ⟨b, 1, none⟩ = some v := by rw [Lib.cell_of_heap hb2]; rfl
  have f1 : w2.frozen? ⟨b, 1, none⟩ = false := Lib.frozen_of_heap hb2 1
  have HB2 := Lib.hid hb2
  clear hb2
  obtain ⟨A', c', rfl⟩ := own_slice hown'
  have HOWN2 := Lib.hid hown'
  have HGR := Lib.hid hgrow
  clear hown' hgrow
  go_wp2
  go_ret
  have hsz := HGR.out.size
  simp at hsz
  refine ⟨rfl, .inr ?_, ?_, ?_, by simp; omega⟩
  · refine Lib.BuilderAt.put (T := 85) (e := 5) hB HB2.out (bs' := Lib.byteCells (l ++ [c])) ?_ (by decide)
    have hg : Lib.byteCells (l ++ [c]) = cl .u8 (l.map UInt8.toNat ++ [c.toNat]) := by rw [bytes_cl]; simp
    have hl : (cl .u8 (l.map UInt8.toNat ++ [c.toNat])).length = l.length + 1 := by rw [cl_len]; simp
    rw [hg, hl]
    exact HOWN2.out
  · exact ((hb1.alloc hBw1 _).grown HGR.out (by simp; omega) (own_ge hown2)).setCell (p := ⟨b, 1, none⟩) hB _
  · refine hs1.trans fun i cs t fr h1 h2 h3 => ?_
    have hi : i < w1.heap.size := by
      rcases Nat.lt_or_ge i w1.heap.size with h' | h'
      · exact h'
      · rw [Array.getElem?_eq_none h'] at h3
        cases h3
    have hni : some i ≠ v.ownBlock := by
      intro e
      rcases hown2.2 with ⟨rfl, _⟩ | ⟨g, cap, cur, rfl, _, hg, _⟩
      · simp [Value.ownBlock] at e
      · have : i = g := by simpa [Value.ownBlock] using e
        subst this
        rw [hg] at h3
        injection h3 with h3
        injection h3 with _ h4
        exact h2 h4.symm
    exact (Below.heap_setCell w2 ⟨b, 1, none⟩ _ i h1).trans ((HGR.out.block i (by simp; omega) hni).trans ((Below.heap_alloc w1 _ i hi).trans h3))
theorem app_str (w : World) {ops : Array Oper} {rest : List Oper} {o : Oper} {a : Act} {Q : Exit → Act → World → Prop} (hgd : o.guard = none) (sl x : Operand)
    (ho : o.op = .call { callee := .builtin .append, args := #[sl, x], argTypes := #[28, 9] }) (base : Nat) (v : Value) (n : Nat) (xs : List Value) (hs : a.eval sl = v) (hown : w.ownsRow base 5 1 v n xs) (m : List UInt8) (hx : a.eval x = .string ⟨m.toArray⟩)
    (hb : n + m.length ≤ 140737488355328) (hbase : base ≤ w.heap.size)
    (h : ∀ v' w', w'.ownsRow base 5 1 v' (n + m.length) (xs ++ Lib.byteCells m) → w.grownBy w' v.ownBlock → wpList Tryd.prog ops Q rest (a.put o.dst v') w') : wpList Tryd.prog ops Q (o :: rest) a w := by
  obtain ⟨i0, hi, hz0, hz1, hz2⟩ := info_parts u8_info
  have hsz : (⟨m.toArray⟩ : ByteArray).size = m.length := by simp [ByteArray.size]
  refine Lib.wpList_append_own_string w hgd sl x 28 9 ho base 5 i0 Tryd.underlying28 Tryd.underlying9 hi hz0 hz1 hz2 v n xs hs hown _ hx (by rw [hsz]; unfold maxLen; omega) (by rw [hsz]; exact hb) hbase ?_
  intro v' w' h1 h2 _
  rw [hsz] at h1
  exact h v' w' (by simpa [Lib.strCells, Lib.byteCells] using h1) h2
set_option maxHeartbeats 2000000 in
set_option maxRecDepth 100000 in
theorem writeString_any (B b : Nat) (l m : List UInt8) (w : World) (h : Bld B b l w) (hlen : l.length ≤ 1000000) (hm : m.length ≤ 1000000) (hBw : B ≤ w.heap.size) :
    Calls Tryd.prog 70 #[.pointer (some ⟨b, 0, none⟩), .string ⟨m.toArray⟩] w fun e w' => e = .returned (.tuple #[.int .i64 m.length, .nilIface]) ∧ Bld B b (l ++ m) w' ∧ Below B w w' ∧ Stand b w w' ∧ w.heap.size ≤ w'.heap.size := by
  go_enter Tryd.func70, Tryd.ntmps70
  go_wp2_with (go_at_call 84; refine (copyCheck_any B b l _ h).mono ?_; rintro e w1 ⟨rfl, h1, hb1, hs1, hz1⟩; refine Hid.out ?_)
  refine Lib.hid ?_
  obtain ⟨hB, v, hbk, hown, hne⟩ := h1
  have c0 : w1.cell? ⟨b, 0, none⟩ = some (.pointer (some ⟨b, 0, none⟩)) := by rw [Lib.cell_of_heap hbk]; rfl
  have c1 : w1.cell? ⟨b, 1, none⟩ = some v := by rw [Lib.cell_of_heap hbk]; rfl
  have hBw1 : B ≤ w1.heap.size := by omega
  have hlt : b < w1.heap.size := by
    rcases Nat.lt_or_ge b w1.heap.size with h' | h'
    · exact h'
    · simp [Array.getElem?_eq_none h'] at hbk
  have HBK := Lib.hid hbk
  have HOWN := Lib.hid hown
  clear hbk hown
  have hms : (⟨m.toArray⟩ : ByteArray).size = m.length := by simp [ByteArray.size]
  go_wp2_with (at_builtin; refine app_str _ rfl _ _ rfl B v (Lib.byteCells l).length _ rfl HOWN.out m rfl (by simp [Lib.byteCells]; omega) hBw1 ?_; intro v' w2 hown' hgrow; refine Hid.out ?_)
  refine Lib.hid ?_
  have hb2 : w2.heap[b]? = some (.cells #[.pointer (some ⟨b, 0, none⟩), v] 85 (0, 0)) := by
    rw [hgrow.block b hlt (fun e => hne e.symm)]
    exact HBK.out
  have d0 : w2.cell? ⟨b, 0, none⟩ = some (.pointer (some ⟨b, 0, none⟩)) := by rw [Lib.cell_of_heap hb2]; rfl
  have d1 : w2.cell? ⟨b, 1, none⟩ = some v := by rw [Lib.cell_of_heap hb2]; rfl
  have f1 : w2.frozen? ⟨b, 1, none⟩ = false := Lib.frozen_of_heap hb2 1
  have HB2 := Lib.hid hb2
  clear hb2
  obtain ⟨A', c', rfl⟩ := own_slice hown'
  have HOWN2 := Lib.hid hown'
  have HGR := Lib.hid hgrow
  clear hown' hgrow
  go_wp2
  go_ret2
  have hsz := HGR.out.size
  refine ⟨rfl, .inr ?_, ?_, ?_, by simp; omega⟩
  · refine Lib.BuilderAt.put (T := 85) (e := 5) hB HB2.out (bs' := Lib.byteCells (l ++ m)) ?_ (by decide)
    have hl : (Lib.byteCells (l ++ m)).length = (Lib.byteCells l).length + m.length := by simp [Lib.byteCells]
    rw [hl, Lib.byteCells_append]
    exact HOWN2.out
  · exact (hb1.grown HGR.out hBw1 (own_ge HOWN.out)).setCell (p := ⟨b, 1, none⟩) hB _
  · refine hs1.trans fun i cs t fr h1 h2 h3 => ?_
    have hi : i < w1.heap.size := by
      rcases Nat.lt_or_ge i w1.heap.size with h' | h'
      · exact h'
      · rw [Array.getElem?_eq_none h'] at h3
        cases h3
    have hni : some i ≠ v.ownBlock := by
      intro e
      rcases HOWN.out.2 with ⟨rfl, _⟩ | ⟨g, cap, cur, rfl, _, hg, _⟩
      · simp [Value.ownBlock] at e
      · have : i = g := by simpa [Value.ownBlock] using e
        subst this
        rw [hg] at h3
        injection h3 with h3
        injection h3 with _ h4
        exact h2 h4.symm
    exact (Below.heap_setCell w2 ⟨b, 1, none⟩ _ i h1).trans ((HGR.out.block i hi hni).trans h3)
end Go.Proofs.YtocoflojlliapaaDoor
set_option linter.unusedVariables false
namespace Go.Proofs.YtocoflojlliapaaDoor
open Go.RowKit Go.Sort Go.Lib
/-- the table of powers of ten, as the program's text lays it -/
def Tab (w : World) : Prop := Lib.TabIs Tryd.prog w "internal/strconv.uint64pow10" .u64 Lib.pow10Tab
theorem Tab.below {w w' : World} (h : Tab w) (hb : Below w.heap.size w w') : Tab w' := Lib.tabBelow_of_tabIs h w' hb
theorem Tab.alloc {w : World} (h : Tab w) (o : Obj) : Tab (w.alloc o) := Lib.tabIs_alloc h o
set_option maxHeartbeats 6400000 in
set_option maxRecDepth 100000 in
theorem fmt_small (u : Nat) (hu : u < 100) (w : World) :
    Calls Tryd.prog 85 #[.int .u64 u, .int .i64 10] w fun e w' => e = .returned (.string ⟨(Lib.decDigits u).toArray⟩) ∧ Below w.heap.size w w' := by
  go_enter Tryd.func85, Tryd.ntmps85
  go_wp2_with (go_at_call 97; refine (Tryd.internal_strconv_small u hu _).mono ?_; rintro e w' ⟨rfl, rfl⟩)
  go_ret
  exact ⟨rfl, Below.refl _ _⟩
set_option maxHeartbeats 6400000 in
set_option maxRecDepth 100000 in
theorem fmt_great (u : Nat) (hu : 100 ≤ u) (hu64 : u < 18446744073709551616) (w : World) (htab : Tab w) :
    Calls Tryd.prog 85 #[.int .u64 u, .int .i64 10] w fun e w' => e = .returned (.string ⟨(Lib.decDigits u).toArray⟩) ∧ Below w.heap.size w w' := by
  have hu1 : 1 ≤ u := by omega
  have hnd20 : Lib.nDigits u ≤ 20 := by have := Lib.numDigits_eq u hu1 hu64; split at this <;> omega
  have hsl1 : ∀ W, (Instr.sliceAt 115 (.pointer (some ⟨w.heap.size, 0, none⟩)) none (some (.int .i64 (Lib.nDigits u : Int))) none).run Tryd.prog W = .ok (.slice (some ⟨w.heap.size, 0, none⟩) (Lib.nDigits u) 24) W := fun W => by
    rw [run_sliceAt_array_h W 115 ⟨w.heap.size, 0, none⟩ (by simp [Program.arrayLen, Program.elem, Tryd.underlying115]) .i64 (Lib.nDigits u : Int) (by omega) (by simp [Program.arrayLen, Tryd.underlying115]; omega)]
    go_simp
  have hH0 := Lib.holds_zero0 w 115 (Lib.nDigits u) (by omega)
  have hfmt := Tryd.internal_strconv_formatBase10 w.heap.size 0 24 u (Array.replicate (Lib.nDigits u) 0) (w.alloc (.cells Lib.zeros24 115)) hH0 (by rw [Array.size_replicate]; exact Lib.lt_pow_nDigits u) hu64 (by rw [Array.size_replicate]; omega)
  rw [Array.size_replicate] at hfmt
  have HH0 := Lib.hid hH0
  have HFMT := Lib.hid hfmt
  clear hH0 hfmt
  obtain ⟨z, hz⟩ : ∃ z : Int, z = u := ⟨_, rfl⟩
  go_enter Tryd.func85, Tryd.ntmps85
  go_wp2_with (go_at_call 98; refine (Tryd.internal_strconv_numDigits u hu1 hu64 _ (htab.alloc _)).mono ?_; rintro e w' ⟨rfl, rfl⟩)
  refine HFMT.out.mono ?_
  rintro e w' ⟨rfl, k, v', dk, rfl, hF⟩
  have hcv : (convert 28 9 (.slice (some ⟨w.heap.size, 0, none⟩) (Lib.nDigits u) 24)).run Tryd.prog ((putRow (fun (b : UInt8) => Value.int .u8 (b.toNat : Int)) (w.alloc (.cells Lib.zeros24 115)) w.heap.size 0 dk).drewN k) = .ok (.string ⟨(Lib.decDigits u).toArray⟩) ((putRow (fun (b : UInt8) => Value.int .u8 (b.toNat : Int)) (w.alloc (.cells Lib.zeros24 115)) w.heap.size 0 dk).drewN k) := by
    have h := run_convert_bytes_back (P := Tryd.prog) ((putRow (fun (b : UInt8) => Value.int .u8 (b.toNat : Int)) (w.alloc (.cells Lib.zeros24 115)) w.heap.size 0 dk).drewN k) 28 9 5 ⟨w.heap.size, 0, none⟩ 24 (Lib.decDigits u) Tryd.underlying28 Tryd.underlying5 Tryd.underlying9 (fun j hj => by
      rw [Lib.row_is_numeral hF j hj, Lib.add_plain, World.cell?_drewN]
      exact cell?_putRow (fun (b : UInt8) => Value.int .u8 (b.toNat : Int)) _ w.heap.size 0 _ dk HH0.out (by rw [hF.size, Array.size_replicate]) j (by rw [hF.size]; rw [Lib.decDigits_length] at hj; exact hj))
    rw [Lib.decDigits_length] at h
    exact h
  go_wp2
  go_ret
  obtain ⟨os, eo⟩ := Lib.fin_at w (.cells Lib.zeros24 115) dk k 0
  refine ⟨rfl, ?_⟩
  have hb := Lib.below_grow w.heap.size w (Nat.le_refl _) k os
  rw [← eo] at hb
  exact hb
theorem fmt_in (u : Nat) (hu64 : u < 18446744073709551616) (w : World) (htab : Tab w) :
    Calls Tryd.prog 85 #[.int .u64 u, .int .i64 10] w fun e w' => e = .returned (.string ⟨(Lib.decDigits u).toArray⟩) ∧ Below w.heap.size w w' := by
  rcases Nat.lt_or_ge u 100 with h | h
  · exact fmt_small u h w
  · exact fmt_great u h hu64 w htab
/-- strconv.FormatUint at base 10 -/
theorem fmt_any (u : Nat) (hu64 : u < 18446744073709551616) (w : World) (htab : Tab w) :
    Calls Tryd.prog 69 #[.int .u64 u, .int .i64 10] w fun e w' => e = .returned (.string ⟨(Lib.decDigits u).toArray⟩) ∧ Below w.heap.size w w' := by
  have H := Lib.hid hu64
  clear hu64
  go_enter Tryd.func69, Tryd.ntmps69
  go_wp2_with (go_at_call 85; refine (fmt_in u H.out _ htab).mono ?_; rintro e w' ⟨rfl, hb⟩)
  go_ret
  exact ⟨rfl, hb⟩
end Go.Proofs.YtocoflojlliapaaDoor
set_option linter.unusedVariables false
namespace Go.Proofs.YtocoflojlliapaaDoor
open Go.RowKit
/-- the limbs of a row, the other way round -/
def Flip (n k : Nat) (xs zs : List Nat) : Prop := zs.length = n ∧ ∀ i, i < k → zs[i]? = xs[n - 1 - i]?
theorem Flip.done {n : Nat} {xs zs : List Nat} (h : Flip n n xs zs) (hx : xs.length = n) : zs = xs.reverse := by
  apply List.ext_getElem?
  intro i
  rcases Nat.lt_or_ge i n with hi | hi
  · rw [h.2 i hi, List.getElem?_reverse (by omega), hx]
  · rw [List.getElem?_eq_none (by rw [h.1]; exact hi), List.getElem?_eq_none (by simp [hx]; exact hi)]
theorem Flip.set {n k X : Nat} {xs zs : List Nat} (h : Flip n k xs zs) (hk : k < n) (hX : xs[n - 1 - k]? = some X) : Flip n (k + 1) xs (zs.set k X) := by
  refine ⟨by simp [h.1], fun i hi => ?_⟩
  by_cases e : i = k
  · subst e
    rw [List.getElem?_set_self (by rw [h.1]; exact hk), hX]
  · rw [List.getElem?_set_ne (by omega)]
    exact h.2 i (by omega)
set_option maxHeartbeats 1600000 in
theorem turned_at (A : Option Addr) (xs : List Nat) (n c : Nat) (w : World) (h1 : Lim .u32 w.heap.size w A xs) (l1 : Hid (xs.length = n)) (hl : n ≤ 1000000) :
    Calls Tryd.prog 68 #[.slice A n c] w fun e w' => e = .returned (.slice (some ⟨w.heap.size, 0, none⟩) n n) ∧ Nums .u32 43 w' w.heap.size xs.reverse ∧ Below w.heap.size w w' := by
  have hmk := make32 n (n : Int) rfl (by omega)
  go_enter Tryd.func68, Tryd.ntmps68
  go_wp2_with fail
  go_loopw [10] (fun i wr => ∃ (k : Nat) (zs : List Nat), k ≤ n ∧ i = .int .i64 k ∧ Hid (Flip n k xs zs) ∧ Nums .u32 43 wr w.heap.size zs ∧ Below w.heap.size w wr) (fun i _ => n - (intOf i).toNat)
  case atStart => exact ⟨0, zer n, Nat.zero_le _, rfl, Lib.hid ⟨zer_len n, fun i hi => absurd hi (by omega)⟩, Nums.new _ _ _ _, (Below.refl _ _).alloc (Nat.le_refl _) _⟩
  case round =>
    obtain ⟨k, zs, hk, rfl, hF, hN, hbel⟩ := hrel
    by_cases hlt : k < n
    · have hp : n - 1 - k < n := by omega
      have he : (n : Int) - 1 - k = ((n - 1 - k : Nat) : Int) := by omega
      have KP : Hid (n - 1 - k = n - 1 - k) := Lib.hid rfl
      have hxl : n - 1 - k < xs.length := by rw [l1.out]; exact hp
      have hzl : k < zs.length := by rw [hF.out.1]; exact hlt
      obtain ⟨a1, rfl, hab, cell1⟩ := (h1.below hbel).at hxl
      have KX : Hid (xs[n - 1 - k]? = some (xs[n - 1 - k])) := Lib.hid (List.getElem?_eq_getElem hxl)
      generalize xs[n - 1 - k] = X at cell1 KX
      generalize hpe : n - 1 - k = p at *
      have KPE := Lib.hid hpe
      clear hpe
      have hcell := hN.at hzl
      have hfree := hN.free k
      go_wp2
      go_roundw
      case rel => exact ⟨k + 1, zs.set k X, by omega, by go_num, Lib.hid (hF.out.set hlt (by rw [KPE.out]; exact KX.out)), hN.set _ _, hbel.setCell (p := ⟨w.heap.size, k, none⟩) (Nat.le_refl _) _⟩
      case measure => simp [intOf]; omega
    · obtain rfl : n = k := by omega
      have e : Hid (zs = xs.reverse) := Lib.hid (hF.out.done l1.out)
      go_wp2
      go_ret
      rw [← e.out]
      exact ⟨rfl, hN, hbel⟩
end Go.Proofs.YtocoflojlliapaaDoor
set_option linter.unusedVariables false
namespace Go.Proofs.YtocoflojlliapaaDoor
open Go.RowKit
theorem digs_last {b : Nat} (hb : 2 ≤ b) {N : Nat} {l : List Nat} {x : Nat} (h : digs b N = l ++ [x]) : x ≠ 0 := by
  rintro rfl
  have h1 := digs_trim hb N
  rw [h, trimL_zero] at h1
  have h2 := trimL_len l
  rw [h1] at h2
  simp at h2
  omega
theorem digs9_len (N n : Nat) (h : dl N ≤ n) : (digs 1000000000 N).length ≤ 2 * n := by
  refine (digs_len_le (by decide) N _).2 ?_
  have h1 := (dl_le N n).1 h
  have h2 : (4294967296 : Nat) ^ n ≤ (1000000000 ^ 2) ^ n := Nat.pow_le_pow_left (by decide) n
  rw [← Nat.pow_mul] at h2
  omega
/-- the text of a number -/
def textL (neg : Bool) (N : Nat) : List UInt8 := if N = 0 then [48] else (if neg then [45] else []) ++ Lib.decDigits N
theorem Bld.below {B b : Nat} {l : List UInt8} {w w' : World} (h : Bld B b l w) (hb : Below w.heap.size w w') : Bld B b l w' := by
  have hg : w.grownBy w' none := ⟨hb.os, hb.tape, hb.output, hb.size, fun k hk _ => hb.block k hk⟩
  rcases h with h | h
  · have hlt := h.lt
    obtain ⟨hB, v, hv, hown, hne⟩ := h
    exact .inl ⟨hB, v, (hb.block b hlt).trans hv, hown.kept hg (by
      cases hob : v.ownBlock
      · exact .inl rfl
      · exact .inr (by simp)), hne⟩
  · have hlt := h.lt
    obtain ⟨hB, v, hv, hown, hne⟩ := h
    exact .inr ⟨hB, v, (hb.block b hlt).trans hv, hown.kept hg (by
      cases hob : v.ownBlock
      · exact .inl rfl
      · exact .inr (by simp)), hne⟩
theorem Bld.lt {B b : Nat} {l : List UInt8} {w : World} (h : Bld B b l w) : b < w.heap.size := by
  rcases h with h | h <;> exact h.lt
theorem repeat_zero (c : Nat) : Lib.repeatL [48] c = List.replicate c 48 := by
  induction c with
  | zero => rfl
  | succ c ih => simp [Lib.repeatL, List.replicate_succ] at ih ⊢; exact ih
set_option maxHeartbeats 1600000 in
theorem text_zero (neg : Bool) (A : Option Addr) (n c : Nat) (w : World) (h : Mag w A n c 0) (hl : n ≤ 100) :
    Calls Tryd.prog 46 #[.agg #[.bool neg, .slice A n c]] w fun e w' => e = .returned (.string ⟨#[48]⟩) ∧ Below w.heap.size w w' := by
  have hd : dl 0 = 0 := dl_zero
  go_enter Tryd.func46, Tryd.ntmps46
  go_wp2_with (go_at_call 54; refine (trim_mag A n c 0 _ (h.alloc _) (by omega)).mono ?_; rintro e w' ⟨rfl, rfl⟩)
  refine wp_loop_rounds 1 ?_
  rw [rounds_succ]
  go_wp2
  go_ret
  exact ⟨rfl, (Below.refl _ _).alloc (Nat.le_refl _) _⟩
end Go.Proofs.YtocoflojlliapaaDoor
set_option linter.unusedVariables false
namespace Go.Proofs.YtocoflojlliapaaDoor
open Go.RowKit
theorem own_lim {w : World} {base n c : Nat} {A : Option Addr} {xs : List Nat} (h : w.ownsRow base 43 1 (.slice A n c) n (cl .u32 xs)) (hn : xs.length = n) : Lim .u32 w.heap.size w A xs := by
  subst hn
  exact Lim.of_own h
theorem own_below {w w' : World} {base e n : Nat} {v : Value} {xs : List Value} (h : w.ownsRow base e 1 v n xs) (hb : Below w.heap.size w w') : w'.ownsRow base e 1 v n xs := by
  have hg : w.grownBy w' none := ⟨hb.os, hb.tape, hb.output, hb.size, fun k hk _ => hb.block k hk⟩
  refine h.kept hg ?_
  cases hob : v.ownBlock
  · exact .inl rfl
  · exact .inr (by simp)
theorem Mag.kept {w w' : World} {g o n c N : Nat} {row : Option Nat} (h : Mag w (some ⟨g, o, none⟩) n c N) (hg : w.grownBy w' row) (hne : some g ≠ row) : Mag w' (some ⟨g, o, none⟩) n c N := by
  obtain ⟨xs, h1, h2, h3, h4, h5⟩ := h
  refine ⟨xs, fun h0 => ?_, h2, h3, h4, h5⟩
  obtain ⟨ad, e, hb, hc⟩ := h1 h0
  injection e with e
  subst e
  exact ⟨_, rfl, Nat.lt_of_lt_of_le hb hg.size, fun i hi => (World.cell?_of_block (by rw [add_block]; exact hg.block g hb hne)).trans (hc i hi)⟩
/-- the groups by now, and what is left -/
def Grp (N M : Nat) (gs : List Nat) : Prop := digs 1000000000 N = gs ++ digs 1000000000 M ∧ gs.length ≤ 1000
theorem Grp.next {N M : Nat} {gs : List Nat} (h : Grp N M gs) (hM : M ≠ 0) (hN : (digs 1000000000 N).length ≤ 1000) : Grp N (M / 1000000000) (gs ++ [M % 1000000000]) := by
  have e : digs 1000000000 N = (gs ++ [M % 1000000000]) ++ digs 1000000000 (M / 1000000000) := by
    rw [h.1, digs_pos (by decide) hM]
    simp
  refine ⟨e, ?_⟩
  rw [e] at hN
  simp only [List.length_append] at hN ⊢
  omega
/-- what is written by now: k groups, the highest first -/
def Out (pre : List UInt8) (rs : List Nat) (k : Nat) (l : List UInt8) : Prop :=
  (k = 0 ∧ l = pre) ∨ (k ≠ 0 ∧ 1 ≤ val 1000000000 (rs.take k).reverse ∧ l = pre ++ Lib.decDigits (val 1000000000 (rs.take k).reverse))
theorem rev_take {rs : List Nat} {k : Nat} (h : k < rs.length) : (rs.take (k + 1)).reverse = rs[k] :: (rs.take k).reverse := by
  rw [take_snoc rs k h, List.reverse_append]
  rfl
theorem Out.first {pre l : List UInt8} {rs : List Nat} {R : Nat} (h : Out pre rs 0 l) (hl : 0 < rs.length) (hR : rs[0] = R) (h1 : R ≠ 0) : Out pre rs 1 (l ++ Lib.decDigits R) := by
  rcases h with ⟨_, rfl⟩ | ⟨h0, _⟩
  · have e : (rs.take (0 + 1)).reverse = [R] := by rw [rev_take hl, hR]; simp
    refine .inr ⟨by decide, ?_, ?_⟩ <;> rw [show (1 : Nat) = 0 + 1 from rfl, e] <;> simp [val]
    omega
  · exact absurd rfl h0
theorem Out.next {pre l : List UInt8} {rs : List Nat} {k R : Nat} (h : Out pre rs k l) (hk : k ≠ 0) (hl : k < rs.length) (hR : rs[k] = R) (h1 : R < 1000000000) :
    Out pre rs (k + 1) (l ++ List.replicate (9 - (Lib.decDigits R).length) 48 ++ Lib.decDigits R) := by
  rcases h with ⟨h0, _⟩ | ⟨_, h2, rfl⟩
  · exact absurd h0 hk
  · have e : val 1000000000 (rs.take (k + 1)).reverse = val 1000000000 (rs.take k).reverse * 10 ^ 9 + R := by
      rw [rev_take hl, hR]
      simp only [val]
      omega
    refine .inr ⟨by omega, by omega, ?_⟩
    rw [e, dec_pad _ h2 9 R h1, padL_dec 8 R h1]
    simp
theorem Out.done {pre l : List UInt8} {rs gs : List Nat} {N : Nat} (h : Out pre rs gs.length l) (hrs : rs = gs.reverse) (hg : gs = digs 1000000000 N) (hN : N ≠ 0) : l = pre ++ Lib.decDigits N := by
  have e : (rs.take gs.length).reverse = gs := by
    rw [hrs, List.take_of_length_le (by simp), List.reverse_reverse]
  rcases h with ⟨h0, _⟩ | ⟨_, _, rfl⟩
  · rw [hg] at h0
    exact absurd ((digs_nil (by decide)).1 (List.length_eq_zero_iff.1 h0)) hN
  · rw [e, hg, digs_val (by decide)]
theorem rev_head {gs : List Nat} {N : Nat} (hg : gs = digs 1000000000 N) (h : 0 < gs.reverse.length) : gs.reverse[0] ≠ 0 := by
  have hne : gs ≠ [] := by
    intro h0
    rw [h0] at h
    simp at h
  have e : gs = gs.dropLast ++ [gs.getLast hne] := (List.dropLast_concat_getLast hne).symm
  have h1 := digs_last (by decide) (hg.symm.trans e)
  rw [List.getElem_reverse]
  rw [List.getLast_eq_getElem] at h1
  simpa using h1
set_option maxHeartbeats 6400000 in
theorem text_groups (neg : Bool) (A : Option Addr) (n c N : Nat) (w : World) (h : Mag w A n c N) (hl : n ≤ 100) (hN : N ≠ 0) (htab : Tab w) :
    Calls Tryd.prog 46 #[.agg #[.bool neg, .slice A n c]] w fun e w' => e = .returned (.string ⟨(textL neg N).toArray⟩) ∧ Below w.heap.size w w' := by
  have hdl : dl N ≤ 100 := Nat.le_trans h.le hl
  have h9 : (digs 1000000000 N).length ≤ 1000 := by have := digs9_len N 100 hdl; omega
  have H9 := Lib.hid h9
  clear h9
  obtain ⟨W, hW⟩ : ∃ W, W = w.alloc (.cells #[.bool neg, .slice A n c] 24) := ⟨_, rfl⟩
  have hT : Two W w.heap.size 24 (.bool neg) (.slice A n c) := by rw [hW]; exact Two.made w 24 _ _
  have hbW : Below w.heap.size w W := by rw [hW]; exact below_al (Below.refl _ _) _
  have hM0 : Mag W A n c N := h.below hbW
  have htW : Tab W := htab.below hbW
  have c0 := hT.fst
  have c1 := hT.snd
  go_enter Tryd.func46, Tryd.ntmps46
  go_wp2_with fail
  rw [← hW]
  have HW := Lib.hid hW
  clear hW
  refine (trim_mag A n c N _ hM0 (by omega)).mono ?_
  rintro e w' ⟨rfl, rfl⟩
  go_wp2_with fail
  go_loopg [3, 4] N (fun M gv mv wr => ∃ (gs : List Nat) (A' : Option Addr) (c' : Nat) (B' : Option Addr) (d' : Nat), dl M ≤ 100 ∧ mv = .slice A' (dl M) c' ∧ gv = .slice B' gs.length d' ∧ Mag wr A' (dl M) c' M ∧ wr.ownsRow W.heap.size 43 1 (.slice B' gs.length d') gs.length (cl .u32 gs) ∧ Hid (Grp N M gs) ∧ Below W.heap.size W wr)
  case atStart => exact ⟨[], A, c, none, 0, hdl, rfl, rfl, hM0.trim, own_nil, Lib.hid ⟨rfl, by decide⟩, Below.refl _ _⟩
  case round =>
    obtain ⟨gs, A', c', B', d', hMl, rfl, rfl, hMm, hown, hG, hbel⟩ := hrel
    by_cases hM : gk = 0
    · subst hM
      obtain ⟨wo, hwo⟩ : ∃ wo : World, wo = wr := ⟨_, rfl⟩
      subst hwo
      have hd : (dl 0 : Int) ≤ 0 := by rw [dl_zero]; exact Int.le_refl 0
      have hgd : Hid (gs = digs 1000000000 N) := Lib.hid (by have := hG.out.1; rw [digs_zero, List.append_nil] at this; exact this.symm)
      have hglen : gs.length ≤ 1000 := hG.out.2
      have hgpos : 0 < gs.length := by
        rw [hgd.out]
        rcases hdd : digs 1000000000 N with _ | ⟨x, l⟩
        · exact absurd ((digs_nil (by decide)).1 hdd) hN
        · simp
      have hgz : ((gs.length : Int) == 0) = false := beq_eq_false_iff_ne.2 (by omega)
      have hlow : Hid (Low 1000000000 gs) := Lib.hid (by rw [hgd.out]; exact digs_low (by decide) N)
      have hk0 : ∀ o, (wo.alloc o).cell? ⟨w.heap.size, 0, none⟩ = some (.bool neg) := fun o => ((hT.below' hbel).alloc o).fst
      have hfresh : Bld wo.heap.size wo.heap.size [] (wo.alloc (.cells #[.pointer none, .slice none 0 0] 85)) := Lib.fresh_isBuilder 85 5 wo
      have hbw : Below wo.heap.size wo (wo.alloc (.cells #[.pointer none, .slice none 0 0] 85)) := below_al (Below.refl _ _) _
      have hlim : Lim .u32 wo.heap.size wo B' gs := own_lim hown rfl
      have htr : Tab wo := htW.below hbel
      have hsz1 : wo.heap.size ≤ (wo.alloc (.cells #[.pointer none, .slice none 0 0] 85)).heap.size := hbw.size
      have HNZ := Lib.hid hN
      clear hN hG hM0 h c1
      have HT := fun w h => Lib.hid (turned_at B' gs gs.length d' w h (Lib.hid rfl) (by omega))
      cases neg
      · go_wp2_with (go_at_call 68; refine ((HT _ ((hlim.below hbw).more hsz1)).out).mono ?_; rintro e W3 ⟨rfl, hn3, hb3⟩; refine Hid.out ?_)
        refine Lib.hid ?_
        have HN3 : Hid (Nums .u32 43 W3 (wo.heap.size + 1) gs.reverse) := Lib.hid (by simpa using hn3)
        have HBLD := Lib.hid (hfresh.below hb3)
        have hbe3 : Below wo.heap.size wo W3 := below_then hbw hb3
        clear hn3 hfresh
        clear hk0
        have hbk : wo.heap.size < W3.heap.size := HBLD.out.lt
        go_wp2_with fail
        go_loopw [34] (fun i wr => ∃ (k : Nat) (l : List UInt8), k ≤ gs.length ∧ i = .int .i64 k ∧ Hid (Bld wo.heap.size wo.heap.size l wr) ∧ Hid (Out [] gs.reverse k l) ∧ l.length ≤ 20 * k + 1 ∧ Nums .u32 43 wr (wo.heap.size + 1) gs.reverse ∧ Below wo.heap.size wo wr) (fun i _ => gs.length - (intOf i).toNat)
        case atStart => exact ⟨0, [], Nat.zero_le _, rfl, HBLD, Lib.hid (.inl ⟨rfl, rfl⟩), by simp, HN3.out, hbe3⟩
        case round =>
          obtain ⟨k, l, hk, rfl, hB, hO, hll, hN, hbq⟩ := hrel
          have hBs : wo.heap.size ≤ wr.heap.size := Nat.le_of_lt hB.out.lt
          by_cases hlt : k < gs.length
          · have hrl : k < gs.reverse.length := by simpa using hlt
            have cell := hN.at hrl
            have hRl : gs.reverse[k] < 1000000000 := hlow.out.rev.at hrl
            obtain ⟨R, hR⟩ : ∃ R, R = gs.reverse[k] := ⟨_, rfl⟩
            rw [← hR] at cell hRl
            have KR := Lib.hid hR.symm
            clear hR
            have htq : Tab wr := htr.below hbq
            have hD1 := dec_len_le 8 R hRl
            have hD2 := dec_len_pos R
            obtain ⟨D, hD⟩ : ∃ D, D = Lib.decDigits R := ⟨_, rfl⟩
            have F := fun w h => Lib.hid (fmt_any R (by omega) w h)
            rw [← hD] at F hD1 hD2
            have KD := Lib.hid hD
            clear hD
            have hds : (⟨D.toArray⟩ : ByteArray).size = D.length := by simp [ByteArray.size]
            by_cases hk0 : k = 0
            · have HK0 := Lib.hid hk0
              have hkz : (k : Int) ≤ 0 := by omega
              clear hk0
              go_wp2_with (first
                | (go_at_call 69; refine ((F _ htq).out).mono ?_; rintro e w4 ⟨rfl, hb4⟩)
                | (go_at_call 70; refine (writeString_any wo.heap.size wo.heap.size l D _ (hB.out.below hb4) (by omega) (by omega) (by have := hb4.size; omega)).mono ?_; rintro e w5 ⟨rfl, hB5, hb5, hs5, hz5⟩))
              have hz4 := hb4.size
              have hb5' : Below wo.heap.size wr w5 := (hb4.mono hBs).trans hb5
              go_roundw
              case rel => exact ⟨k + 1, l ++ D, by omega, by go_num, Lib.hid hB5, Lib.hid (by
                have e0 := HK0.out
                subst e0
                rw [KD.out]
                exact hO.out.first hrl KR.out (by rw [← KR.out]; exact rev_head hgd.out hrl)), by simp; omega, hs5.nums (hN.below hb4 hN.lt) (by omega) (by decide), hbq.trans hb5'⟩
              case measure => simp [intOf]; omega
            · have ec : (9 : Int) - D.length = ((9 - D.length : Nat) : Int) := by omega
              have hkp : (0 : Int) < k := by omega
              have RP := fun w => Lib.hid (Tryd.strings_Repeat ⟨#[48]⟩ (9 - D.length) w (by omega) (by simp [ByteArray.size]; omega))
              have er : Lib.repeatL (⟨#[48]⟩ : ByteArray).data.toList (9 - D.length) = List.replicate (9 - D.length) 48 := repeat_zero _
              rw [er] at RP
              clear er
              obtain ⟨P, hP⟩ : ∃ P, P = List.replicate (9 - D.length) (48 : UInt8) := ⟨_, rfl⟩
              have hPl : P.length ≤ 9 := by rw [hP]; simp
              rw [← hP] at RP
              have KP := Lib.hid hP
              clear hP
              go_wp2_with (first
                | (go_at_call 69; refine ((F _ htq).out).mono ?_; rintro e w4 ⟨rfl, hb4⟩)
                | (go_at_call 71; refine ((RP _).out).mono ?_; rintro e w5 ⟨rfl, hb5⟩)
                | (go_at_call 70; (first | (with_reducible refine (writeString_any wo.heap.size wo.heap.size l P _ ((hB.out.below hb4).below hb5) (by omega) (by omega) (by have := hb4.size; have := hb5.size; omega)).mono ?_; rintro e w6 ⟨rfl, hB6, hb6, hs6, hz6⟩) | (with_reducible refine (writeString_any wo.heap.size wo.heap.size (l ++ P) D _ hB6 (by simp; omega) (by omega) (by have := hb4.size; have := hb5.size; omega)).mono ?_; rintro e w7 ⟨rfl, hB7, hb7, hs7, hz7⟩))))
              have hz4 := hb4.size
              have hz5 := hb5.size
              have hbs7 : Below wo.heap.size wr w7 := (((hb4.mono hBs).trans (hb5.mono (by omega))).trans hb6).trans hb7
              go_roundw
              case rel => exact ⟨k + 1, l ++ P ++ D, by omega, by go_num, Lib.hid hB7, Lib.hid (by
                rw [KD.out, KP.out, KD.out]
                exact hO.out.next hk0 hrl KR.out hRl), by simp; omega, hs7.nums (hs6.nums ((hN.below hb4 hN.lt).below hb5 (Nat.lt_of_lt_of_le hN.lt hz4)) (by omega) (by decide)) (by omega) (by decide), hbq.trans hbs7⟩
              case measure => simp [intOf]; omega
          · obtain rfl : gs.length = k := by omega
            have hfin : Hid (l = [] ++ Lib.decDigits N) := Lib.hid (hO.out.done rfl hgd.out HNZ.out)
            go_wp2_with (go_at_call 72; refine (Tryd.Builder_String_any wo.heap.size wo.heap.size l _ hB.out hBs).mono ?_; rintro e w4 ⟨rfl, hb4⟩)
            go_ret
            refine ⟨?_, below_then hbW (below_then hbel (hbq.trans hb4))⟩
            rw [hfin.out]
            simp [textL, HNZ.out]
      · go_wp2_with (first
          | (go_at_call 67; refine (writeByte_any wo.heap.size wo.heap.size [] 45 _ hfresh (by decide) hsz1).mono ?_; rintro e W2 ⟨rfl, hB2, hb2, hs2, hz2⟩)
          | (go_at_call 68; refine ((HT _ (((hlim.below hbw).below hb2).more (by omega))).out).mono ?_; rintro e W3 ⟨rfl, hn3, hb3⟩; refine Hid.out ?_))
        refine Lib.hid ?_
        have HN3 := Lib.hid hn3
        have HBLD := Lib.hid (hB2.below hb3)
        have hbe3 : Below wo.heap.size wo W3 := (hbw.trans hb2).trans (hb3.mono (by omega))
        have hgne : wo.heap.size < W2.heap.size := by simp at hz2; omega
        clear hn3 hfresh hB2
        clear hk0
        have hbk : wo.heap.size < W3.heap.size := HBLD.out.lt
        go_wp2_with fail
        go_loopw [34] (fun i wr => ∃ (k : Nat) (l : List UInt8), k ≤ gs.length ∧ i = .int .i64 k ∧ Hid (Bld wo.heap.size wo.heap.size l wr) ∧ Hid (Out [45] gs.reverse k l) ∧ l.length ≤ 20 * k + 1 ∧ Nums .u32 43 wr W2.heap.size gs.reverse ∧ Below wo.heap.size wo wr) (fun i _ => gs.length - (intOf i).toNat)
        case atStart => exact ⟨0, [45], Nat.zero_le _, rfl, HBLD, Lib.hid (.inl ⟨rfl, rfl⟩), by simp, HN3.out, hbe3⟩
        case round =>
          obtain ⟨k, l, hk, rfl, hB, hO, hll, hN, hbq⟩ := hrel
          have hBs : wo.heap.size ≤ wr.heap.size := Nat.le_of_lt hB.out.lt
          by_cases hlt : k < gs.length
          · have hrl : k < gs.reverse.length := by simpa using hlt
            have cell := hN.at hrl
            have hRl : gs.reverse[k] < 1000000000 := hlow.out.rev.at hrl
            obtain ⟨R, hR⟩ : ∃ R, R = gs.reverse[k] := ⟨_, rfl⟩
            rw [← hR] at cell hRl
            have KR := Lib.hid hR.symm
            clear hR
            have htq : Tab wr := htr.below hbq
            have hD1 := dec_len_le 8 R hRl
            have hD2 := dec_len_pos R
            obtain ⟨D, hD⟩ : ∃ D, D = Lib.decDigits R := ⟨_, rfl⟩
            have F := fun w h => Lib.hid (fmt_any R (by omega) w h)
            rw [← hD] at F hD1 hD2
            have KD := Lib.hid hD
            clear hD
            have hds : (⟨D.toArray⟩ : ByteArray).size = D.length := by simp [ByteArray.size]
            by_cases hk0 : k = 0
            · have HK0 := Lib.hid hk0
              have hkz : (k : Int) ≤ 0 := by omega
              clear hk0
              go_wp2_with (first
                | (go_at_call 69; refine ((F _ htq).out).mono ?_; rintro e w4 ⟨rfl, hb4⟩)
                | (go_at_call 70; refine (writeString_any wo.heap.size wo.heap.size l D _ (hB.out.below hb4) (by omega) (by omega) (by have := hb4.size; omega)).mono ?_; rintro e w5 ⟨rfl, hB5, hb5, hs5, hz5⟩))
              have hz4 := hb4.size
              have hb5' : Below wo.heap.size wr w5 := (hb4.mono hBs).trans hb5
              go_roundw
              case rel => exact ⟨k + 1, l ++ D, by omega, by go_num, Lib.hid hB5, Lib.hid (by
                have e0 := HK0.out
                subst e0
                rw [KD.out]
                exact hO.out.first hrl KR.out (by rw [← KR.out]; exact rev_head hgd.out hrl)), by simp; omega, hs5.nums (hN.below hb4 hN.lt) (by omega) (by decide), hbq.trans hb5'⟩
              case measure => simp [intOf]; omega
            · have ec : (9 : Int) - D.length = ((9 - D.length : Nat) : Int) := by omega
              have hkp : (0 : Int) < k := by omega
              have RP := fun w => Lib.hid (Tryd.strings_Repeat ⟨#[48]⟩ (9 - D.length) w (by omega) (by simp [ByteArray.size]; omega))
              have er : Lib.repeatL (⟨#[48]⟩ : ByteArray).data.toList (9 - D.length) = List.replicate (9 - D.length) 48 := repeat_zero _
              rw [er] at RP
              clear er
              obtain ⟨P, hP⟩ : ∃ P, P = List.replicate (9 - D.length) (48 : UInt8) := ⟨_, rfl⟩
              have hPl : P.length ≤ 9 := by rw [hP]; simp
              rw [← hP] at RP
              have KP := Lib.hid hP
              clear hP
              go_wp2_with (first
                | (go_at_call 69; refine ((F _ htq).out).mono ?_; rintro e w4 ⟨rfl, hb4⟩)
                | (go_at_call 71; refine ((RP _).out).mono ?_; rintro e w5 ⟨rfl, hb5⟩)
                | (go_at_call 70; (first | (with_reducible refine (writeString_any wo.heap.size wo.heap.size l P _ ((hB.out.below hb4).below hb5) (by omega) (by omega) (by have := hb4.size; have := hb5.size; omega)).mono ?_; rintro e w6 ⟨rfl, hB6, hb6, hs6, hz6⟩) | (with_reducible refine (writeString_any wo.heap.size wo.heap.size (l ++ P) D _ hB6 (by simp; omega) (by omega) (by have := hb4.size; have := hb5.size; omega)).mono ?_; rintro e w7 ⟨rfl, hB7, hb7, hs7, hz7⟩))))
              have hz4 := hb4.size
              have hz5 := hb5.size
              have hbs7 : Below wo.heap.size wr w7 := (((hb4.mono hBs).trans (hb5.mono (by omega))).trans hb6).trans hb7
              go_roundw
              case rel => exact ⟨k + 1, l ++ P ++ D, by omega, by go_num, Lib.hid hB7, Lib.hid (by
                rw [KD.out, KP.out, KD.out]
                exact hO.out.next hk0 hrl KR.out hRl), by simp; omega, hs7.nums (hs6.nums ((hN.below hb4 hN.lt).below hb5 (Nat.lt_of_lt_of_le hN.lt hz4)) (by omega) (by decide)) (by omega) (by decide), hbq.trans hbs7⟩
              case measure => simp [intOf]; omega
          · obtain rfl : gs.length = k := by omega
            have hfin : Hid (l = [45] ++ Lib.decDigits N) := Lib.hid (hO.out.done rfl hgd.out HNZ.out)
            go_wp2_with (go_at_call 72; refine (Tryd.Builder_String_any wo.heap.size wo.heap.size l _ hB.out hBs).mono ?_; rintro e w4 ⟨rfl, hb4⟩)
            go_ret
            refine ⟨?_, below_then hbW (below_then hbel (hbq.trans hb4))⟩
            rw [hfin.out]
            simp [textL, HNZ.out]
    · have hp := dl_pos hM
      have hdm : gk / 1000000000 < gk := Nat.div_lt_self (by omega) (by decide)
      have hdl2 : dl (gk / 1000000000) ≤ 100 := Nat.le_trans (dl_mono (Nat.le_of_lt hdm)) hMl
      have hgl : gs.length ≤ 1000 := hG.out.2
      have HG2 := Lib.hid (hG.out.next hM H9.out)
      have HM := Lib.hid hM
      clear hM
      have hmod : gk % 1000000000 < 4294967296 := by omega
      have HBL := fun w h => Lib.hid (byLimb_mag A' (dl gk) c' gk 1000000000 w h (by omega) (by decide) (by decide))
      generalize hq : gk / 1000000000 = Q at *
      generalize hr : gk % 1000000000 = R at *
      clear hq hr
      go_wp2_with (first
        | (go_at_call 66; refine ((HBL _ hMm).out).mono ?_; rintro e w1 ⟨rfl, hm1, hb1⟩)
        | (at_builtin; refine app_any (k := .u32) 22 43 4 Tryd.underlying22 u32_info (by decide) _ rfl _ _ rfl rfl W.heap.size (.slice B' gs.length d') gs.length _ rfl (((own_below hown hb1)).alloc _) _ (some ⟨w1.heap.size, 0, none⟩) 1 1 [R] rfl (one_lim .u32 w1 43 R) (Lib.hid rfl) (by omega) (by have := (below_then hbel hb1).size; simp; omega) ?_; intro v2 w2 hown2 hgr2))
      obtain ⟨B2, d2, rfl⟩ := own_slice hown2
      have hbe : Below W.heap.size W w1 := below_then hbel hb1
      have hm2 : Mag w2 (some ⟨wr.heap.size, 0, none⟩) (dl Q) (dl gk) Q := (hm1.alloc _).kept hgr2 (fun e => by have := (hown.lt _ e.symm).2; omega)
      have hbf : Below W.heap.size W w2 := (below_al hbe _).grown hgr2 (below_al hbe _).size (own_ge hown)
      go_roundg Q
      case rel => exact ⟨gs ++ [R], _, _, B2, d2, hdl2, rfl, by simp, hm2, by simpa using hown2, HG2, hbf⟩
      case measure => exact hdm
end Go.Proofs.YtocoflojlliapaaDoor
