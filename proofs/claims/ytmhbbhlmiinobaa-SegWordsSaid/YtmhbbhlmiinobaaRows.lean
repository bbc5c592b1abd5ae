/-
  No cell of these rows narrows 'for every input' (looked for: loops, veiled, ifaces, maps, wideKeys, modest, calm, conditions, laid).
  DERIVED. THE GIVEN ROWS OF THIS SEAT. 5 by the template 'for every input the law returns true; each argument reads behind the call as it read before'; 0 by the template 'total and deterministic' (their statements: YtmhbbhlmiinobaaTotals.lean).
  GIVEN WITH THE SEED: the statements are not yours to turn. If you find one false, say at which input.
  Laid BY PROGRAM, IN A SANDBOX (cutbox-rows.mjs): the forced cells as the released guide's own fill.sh prints them over the translation fe79dc7ebd7d268b… (all of the seat's roots in one cut). By AI agents, Wed Nov 11 2026. No macro, syntax, notation, axiom, sorry.
-/
import Derived.Test.YtmhbbhlmiinobaaChecked
import GoSem.Claim
import GoSem.ClaimJoined
import GoSem.ClaimMapViews
import Derived.JoinedTies
import Derived.KernelRfl
namespace Go.Proofs.Ytmhbbhlmiinobaa
/- THE CELL 'sum', in the pinned program and in every row, IS THE sha256 OF THE DUMP (.gsa) THAT YtmhbbhlmiinobaaProg.lean LOADS. Nothing in Lean hashes anything: it is a label: what it is worth is what the hold of that sum in a sandbox is worth. -/
noncomputable def Try.pinned : Pinned := { name := "ytmhbbhlmiinobaa", sum := "fe79dc7ebd7d268ba9a3a5f0439815943099834b9915410aafdb704501e6fdd0", checked := Try.checked }
namespace Rows
def none {H : Type} : Left H := { results := [], args := [] }

/-- 'morainelaw07.SegPlays': WHATEVER THE INPUT: true; the input reads as it did. -/
def segPlaysSpec : ChangeSpec := { name := "segPlays", fn := fun _ => fun
  | [d1, d2] => { results := [.lit (.bool true)], args := [d1, d2] }
  | _ => none }
def segPlaysRow : OpenClaim := { program := "ytmhbbhlmiinobaa", sum := "fe79dc7ebd7d268ba9a3a5f0439815943099834b9915410aafdb704501e6fdd0", func := "moraine/morainelaw07.SegPlays", spec := "segPlays", unfollowed := true, recurses := true, apart := false }
def SegPlaysSaid : Prop := segPlaysRow.holds Try.pinned (OpenSpec.ofChange segPlaysSpec)

/-- ITS FALSE NEIGHBOUR: 'it returns false'. Refute it at one input. -/
def segPlaysWrong : ChangeSpec := { name := "segPlays", fn := fun _ => fun
  | [d1, d2] => { results := [.lit (.bool false)], args := [d1, d2] }
  | _ => none }
def SegPlaysWrongFalsely : Prop := segPlaysRow.holds Try.pinned (OpenSpec.ofChange segPlaysWrong)

/-- 'morainelaw07.SegNobody': WHATEVER THE INPUT: true; the input reads as it did. -/
def segNobodySpec : ChangeSpec := { name := "segNobody", fn := fun _ => fun
  | [d] => { results := [.lit (.bool true)], args := [d] }
  | _ => none }
def segNobodyRow : OpenClaim := { program := "ytmhbbhlmiinobaa", sum := "fe79dc7ebd7d268ba9a3a5f0439815943099834b9915410aafdb704501e6fdd0", func := "moraine/morainelaw07.SegNobody", spec := "segNobody", unfollowed := true, recurses := true, apart := false }
def SegNobodySaid : Prop := segNobodyRow.holds Try.pinned (OpenSpec.ofChange segNobodySpec)

/-- ITS FALSE NEIGHBOUR: 'it returns false'. Refute it at one input. -/
def segNobodyWrong : ChangeSpec := { name := "segNobody", fn := fun _ => fun
  | [d] => { results := [.lit (.bool false)], args := [d] }
  | _ => none }
def SegNobodyWrongFalsely : Prop := segNobodyRow.holds Try.pinned (OpenSpec.ofChange segNobodyWrong)

/-- 'morainelaw07.SegWords': WHATEVER THE INPUT: true; the input reads as it did. -/
def segWordsSpec : ChangeSpec := { name := "segWords", fn := fun _ => fun
  | [d1, d2] => { results := [.lit (.bool true)], args := [d1, d2] }
  | _ => none }
def segWordsRow : OpenClaim := { program := "ytmhbbhlmiinobaa", sum := "fe79dc7ebd7d268ba9a3a5f0439815943099834b9915410aafdb704501e6fdd0", func := "moraine/morainelaw07.SegWords", spec := "segWords", unfollowed := true, recurses := true, apart := false }
def SegWordsSaid : Prop := segWordsRow.holds Try.pinned (OpenSpec.ofChange segWordsSpec)

/-- ITS FALSE NEIGHBOUR: 'it returns false'. Refute it at one input. -/
def segWordsWrong : ChangeSpec := { name := "segWords", fn := fun _ => fun
  | [d1, d2] => { results := [.lit (.bool false)], args := [d1, d2] }
  | _ => none }
def SegWordsWrongFalsely : Prop := segWordsRow.holds Try.pinned (OpenSpec.ofChange segWordsWrong)

/-- 'morainelaw07.SegCounts': WHATEVER THE INPUT: true; the input reads as it did. -/
def segCountsSpec : ChangeSpec := { name := "segCounts", fn := fun _ => fun
  | [d1, d2] => { results := [.lit (.bool true)], args := [d1, d2] }
  | _ => none }
def segCountsRow : OpenClaim := { program := "ytmhbbhlmiinobaa", sum := "fe79dc7ebd7d268ba9a3a5f0439815943099834b9915410aafdb704501e6fdd0", func := "moraine/morainelaw07.SegCounts", spec := "segCounts", unfollowed := true, recurses := true, apart := false }
def SegCountsSaid : Prop := segCountsRow.holds Try.pinned (OpenSpec.ofChange segCountsSpec)

/-- ITS FALSE NEIGHBOUR: 'it returns false'. Refute it at one input. -/
def segCountsWrong : ChangeSpec := { name := "segCounts", fn := fun _ => fun
  | [d1, d2] => { results := [.lit (.bool false)], args := [d1, d2] }
  | _ => none }
def SegCountsWrongFalsely : Prop := segCountsRow.holds Try.pinned (OpenSpec.ofChange segCountsWrong)

/-- 'morainelaw07.SegLeast': WHATEVER THE INPUT: true; the input reads as it did. -/
def segLeastSpec : ChangeSpec := { name := "segLeast", fn := fun _ => fun
  | [d1, d2] => { results := [.lit (.bool true)], args := [d1, d2] }
  | _ => none }
def segLeastRow : OpenClaim := { program := "ytmhbbhlmiinobaa", sum := "fe79dc7ebd7d268ba9a3a5f0439815943099834b9915410aafdb704501e6fdd0", func := "moraine/morainelaw07.SegLeast", spec := "segLeast", unfollowed := true, recurses := true, apart := false }
def SegLeastSaid : Prop := segLeastRow.holds Try.pinned (OpenSpec.ofChange segLeastSpec)

/-- ITS FALSE NEIGHBOUR: 'it returns false'. Refute it at one input. -/
def segLeastWrong : ChangeSpec := { name := "segLeast", fn := fun _ => fun
  | [d1, d2] => { results := [.lit (.bool false)], args := [d1, d2] }
  | _ => none }
def SegLeastWrongFalsely : Prop := segLeastRow.holds Try.pinned (OpenSpec.ofChange segLeastWrong)

/- THE SECOND FORM. 'bulk': how many values and letters a reading holds, each counted each time it is reached (what is shared counts as often as it is met; a slice's spare places count too). A statement '..UptoSaid' is the law's where the arguments, and the package variables that the reading takes, are together of bulk at most 1048576: NARROWER than '..Said'. Prove '..Said' where nothing that the law and all that it calls make is longer than what came in: it says more and counts as full. Else prove '..UptoSaid'. A law counts once. -/
mutual
def uptoBulk {H : Type} : DataW H → Nat
  | .lit (.string bytes) => bytes.length + 1
  | .lit _ => 1
  | .nil => 1
  | .ptr d => uptoBulk d + 1
  | .slice elems spare => uptoBulkAll elems + uptoBulkAll spare + 1
  | .agg parts => uptoBulkAll parts + 1
  | .iface _ d => uptoBulk d + 1
  | .map entries => uptoBulkEntries entries + 1
  | .held _ => 1
def uptoBulkAll {H : Type} : List (DataW H) → Nat
  | [] => 0
  | d :: r => uptoBulk d + uptoBulkAll r
def uptoBulkEntries {H : Type} : List (Lit × DataW H) → Nat
  | [] => 0
  | x :: r => uptoBulkEntry x + uptoBulkEntries r
def uptoBulkEntry {H : Type} : Lit × DataW H → Nat
  | (.string bytes, d) => bytes.length + uptoBulk d + 1
  | (_, d) => uptoBulk d + 1
 end
def uptoSmall : (H : Type) → List (DataW H) → Bool := fun _ ds => decide (uptoBulkAll ds ≤ 1048576)
def OpenSpec.upto (s : _root_.Go.ChangeSpec) : _root_.Go.OpenSpec := { _root_.Go.OpenSpec.ofChange s with cond := some uptoSmall }

/-- 'morainelaw07.SegPlays', WHERE WHAT IT READS IS OF BULK AT MOST 1048576: true; the input reads as it did. -/
def segPlaysUptoRow : OpenClaim := { program := "ytmhbbhlmiinobaa", sum := "fe79dc7ebd7d268ba9a3a5f0439815943099834b9915410aafdb704501e6fdd0", func := "moraine/morainelaw07.SegPlays", spec := "segPlays", unfollowed := true, recurses := true, apart := false, narrowed := true }
def SegPlaysUptoSaid : Prop := segPlaysUptoRow.holds Try.pinned (OpenSpec.upto segPlaysSpec)

/-- 'morainelaw07.SegNobody', WHERE WHAT IT READS IS OF BULK AT MOST 1048576: true; the input reads as it did. -/
def segNobodyUptoRow : OpenClaim := { program := "ytmhbbhlmiinobaa", sum := "fe79dc7ebd7d268ba9a3a5f0439815943099834b9915410aafdb704501e6fdd0", func := "moraine/morainelaw07.SegNobody", spec := "segNobody", unfollowed := true, recurses := true, apart := false, narrowed := true }
def SegNobodyUptoSaid : Prop := segNobodyUptoRow.holds Try.pinned (OpenSpec.upto segNobodySpec)

/-- 'morainelaw07.SegWords', WHERE WHAT IT READS IS OF BULK AT MOST 1048576: true; the input reads as it did. -/
def segWordsUptoRow : OpenClaim := { program := "ytmhbbhlmiinobaa", sum := "fe79dc7ebd7d268ba9a3a5f0439815943099834b9915410aafdb704501e6fdd0", func := "moraine/morainelaw07.SegWords", spec := "segWords", unfollowed := true, recurses := true, apart := false, narrowed := true }
def SegWordsUptoSaid : Prop := segWordsUptoRow.holds Try.pinned (OpenSpec.upto segWordsSpec)

/-- 'morainelaw07.SegCounts', WHERE WHAT IT READS IS OF BULK AT MOST 1048576: true; the input reads as it did. -/
def segCountsUptoRow : OpenClaim := { program := "ytmhbbhlmiinobaa", sum := "fe79dc7ebd7d268ba9a3a5f0439815943099834b9915410aafdb704501e6fdd0", func := "moraine/morainelaw07.SegCounts", spec := "segCounts", unfollowed := true, recurses := true, apart := false, narrowed := true }
def SegCountsUptoSaid : Prop := segCountsUptoRow.holds Try.pinned (OpenSpec.upto segCountsSpec)

/-- 'morainelaw07.SegLeast', WHERE WHAT IT READS IS OF BULK AT MOST 1048576: true; the input reads as it did. -/
def segLeastUptoRow : OpenClaim := { program := "ytmhbbhlmiinobaa", sum := "fe79dc7ebd7d268ba9a3a5f0439815943099834b9915410aafdb704501e6fdd0", func := "moraine/morainelaw07.SegLeast", spec := "segLeast", unfollowed := true, recurses := true, apart := false, narrowed := true }
def SegLeastUptoSaid : Prop := segLeastUptoRow.holds Try.pinned (OpenSpec.upto segLeastSpec)

end Rows
end Go.Proofs.Ytmhbbhlmiinobaa
