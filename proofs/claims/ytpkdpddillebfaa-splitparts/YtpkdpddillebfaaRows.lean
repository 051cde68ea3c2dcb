/-
  No cell of these rows narrows 'for every input' (looked for: loops, veiled, ifaces, maps, wideKeys, modest, calm, conditions, laid).
  DERIVED. THE GIVEN ROWS OF THIS SEAT. 5 by the template 'for every input the law returns true; each argument reads behind the call as it read before'; 0 by the template 'total and deterministic' (their statements: YtpkdpddillebfaaTotals.lean).
  GIVEN WITH THE SEED: the statements are not yours to turn. If you find one false, say at which input.
  Laid BY PROGRAM, IN A SANDBOX (cutbox-rows.mjs): the forced cells as the released guide's own fill.sh prints them over the translation a98b836c3c8ba4a2… (all of the seat's roots in one cut). By AI agents, Wed Nov 11 2026. No macro, syntax, notation, axiom, sorry.
-/
import Derived.Test.YtpkdpddillebfaaChecked
import GoSem.Claim
import GoSem.ClaimJoined
import GoSem.ClaimMapViews
import Derived.JoinedTies
import Derived.KernelRfl
namespace Go.Proofs.Ytpkdpddillebfaa
/- THE CELL 'sum', in the pinned program and in every row, IS THE sha256 OF THE DUMP (.gsa) THAT YtpkdpddillebfaaProg.lean LOADS. Nothing in Lean hashes anything: it is a label: what it is worth is what the hold of that sum in a sandbox is worth. -/
noncomputable def Try.pinned : Pinned := { name := "ytpkdpddillebfaa", sum := "a98b836c3c8ba4a200461d4344ed32f2d26771e618dd8c9e23b9e7c5694af5b9", checked := Try.checked }
namespace Rows
def none {H : Type} : Left H := { results := [], args := [] }

/-- 'isthmuskeep.SetsOrder': WHATEVER THE INPUT: true; the input reads as it did. -/
def setsOrderSpec : ChangeSpec := { name := "setsOrder", fn := fun _ => fun
  | [d1, d2, d3] => { results := [.lit (.bool true)], args := [d1, d2, d3] }
  | _ => none }
def setsOrderRow : OpenClaim := { program := "ytpkdpddillebfaa", sum := "a98b836c3c8ba4a200461d4344ed32f2d26771e618dd8c9e23b9e7c5694af5b9", func := "isthmus/isthmuskeep.SetsOrder", spec := "setsOrder", unfollowed := true, recurses := true, plainKeys := false, apart := false }
def SetsOrderSaid : Prop := setsOrderRow.holds Try.pinned (OpenSpec.ofChange setsOrderSpec)

/-- ITS FALSE NEIGHBOUR: 'it returns false'. Refute it at one input. -/
def setsOrderWrong : ChangeSpec := { name := "setsOrder", fn := fun _ => fun
  | [d1, d2, d3] => { results := [.lit (.bool false)], args := [d1, d2, d3] }
  | _ => none }
def SetsOrderWrongFalsely : Prop := setsOrderRow.holds Try.pinned (OpenSpec.ofChange setsOrderWrong)

/-- 'isthmuskeep.BridgeOrder': WHATEVER THE INPUT: true; the input reads as it did. -/
def bridgeOrderSpec : ChangeSpec := { name := "bridgeOrder", fn := fun _ => fun
  | [d1, d2, d3] => { results := [.lit (.bool true)], args := [d1, d2, d3] }
  | _ => none }
def bridgeOrderRow : OpenClaim := { program := "ytpkdpddillebfaa", sum := "a98b836c3c8ba4a200461d4344ed32f2d26771e618dd8c9e23b9e7c5694af5b9", func := "isthmus/isthmuskeep.BridgeOrder", spec := "bridgeOrder", inPlace := ["slices.overlaps[isthmus/api.Edge]"], unfollowed := true, recurses := true, plainKeys := false, apart := false }
def BridgeOrderSaid : Prop := bridgeOrderRow.holds Try.pinned (OpenSpec.ofChange bridgeOrderSpec)

/-- ITS FALSE NEIGHBOUR: 'it returns false'. Refute it at one input. -/
def bridgeOrderWrong : ChangeSpec := { name := "bridgeOrder", fn := fun _ => fun
  | [d1, d2, d3] => { results := [.lit (.bool false)], args := [d1, d2, d3] }
  | _ => none }
def BridgeOrderWrongFalsely : Prop := bridgeOrderRow.holds Try.pinned (OpenSpec.ofChange bridgeOrderWrong)

/-- 'isthmuskeep.BlockParts': WHATEVER THE INPUT: true; the input reads as it did. -/
def blockPartsSpec : ChangeSpec := { name := "blockParts", fn := fun _ => fun
  | [d1, d2] => { results := [.lit (.bool true)], args := [d1, d2] }
  | _ => none }
def blockPartsRow : OpenClaim := { program := "ytpkdpddillebfaa", sum := "a98b836c3c8ba4a200461d4344ed32f2d26771e618dd8c9e23b9e7c5694af5b9", func := "isthmus/isthmuskeep.BlockParts", spec := "blockParts", inPlace := ["slices.overlaps[isthmus/api.Edge]"], unfollowed := true, recurses := true, plainKeys := false, apart := false }
def BlockPartsSaid : Prop := blockPartsRow.holds Try.pinned (OpenSpec.ofChange blockPartsSpec)

/-- ITS FALSE NEIGHBOUR: 'it returns false'. Refute it at one input. -/
def blockPartsWrong : ChangeSpec := { name := "blockParts", fn := fun _ => fun
  | [d1, d2] => { results := [.lit (.bool false)], args := [d1, d2] }
  | _ => none }
def BlockPartsWrongFalsely : Prop := blockPartsRow.holds Try.pinned (OpenSpec.ofChange blockPartsWrong)

/-- 'isthmuslaw.SplitPairs': WHATEVER THE INPUT: true; the input reads as it did. -/
def splitPairsSpec : ChangeSpec := { name := "splitPairs", fn := fun _ => fun
  | [d1, d2] => { results := [.lit (.bool true)], args := [d1, d2] }
  | _ => none }
def splitPairsRow : OpenClaim := { program := "ytpkdpddillebfaa", sum := "a98b836c3c8ba4a200461d4344ed32f2d26771e618dd8c9e23b9e7c5694af5b9", func := "isthmus/isthmuslaw.SplitPairs", spec := "splitPairs", inPlace := ["slices.overlaps[isthmus/api.Edge]"], unfollowed := true, recurses := true, plainKeys := false, apart := false }
def SplitPairsSaid : Prop := splitPairsRow.holds Try.pinned (OpenSpec.ofChange splitPairsSpec)

/-- ITS FALSE NEIGHBOUR: 'it returns false'. Refute it at one input. -/
def splitPairsWrong : ChangeSpec := { name := "splitPairs", fn := fun _ => fun
  | [d1, d2] => { results := [.lit (.bool false)], args := [d1, d2] }
  | _ => none }
def SplitPairsWrongFalsely : Prop := splitPairsRow.holds Try.pinned (OpenSpec.ofChange splitPairsWrong)

/-- 'isthmuskeep.SplitParts': WHATEVER THE INPUT: true; the input reads as it did. -/
def splitPartsSpec : ChangeSpec := { name := "splitParts", fn := fun _ => fun
  | [d1, d2] => { results := [.lit (.bool true)], args := [d1, d2] }
  | _ => none }
def splitPartsRow : OpenClaim := { program := "ytpkdpddillebfaa", sum := "a98b836c3c8ba4a200461d4344ed32f2d26771e618dd8c9e23b9e7c5694af5b9", func := "isthmus/isthmuskeep.SplitParts", spec := "splitParts", inPlace := ["slices.overlaps[isthmus/api.Edge]"], unfollowed := true, recurses := true, plainKeys := false, apart := false }
def SplitPartsSaid : Prop := splitPartsRow.holds Try.pinned (OpenSpec.ofChange splitPartsSpec)

/-- ITS FALSE NEIGHBOUR: 'it returns false'. Refute it at one input. -/
def splitPartsWrong : ChangeSpec := { name := "splitParts", fn := fun _ => fun
  | [d1, d2] => { results := [.lit (.bool false)], args := [d1, d2] }
  | _ => none }
def SplitPartsWrongFalsely : Prop := splitPartsRow.holds Try.pinned (OpenSpec.ofChange splitPartsWrong)

/- THE SECOND FORM. 'bulk': how many values and letters a reading holds, each counted each time it is reached (what is shared counts as often as it is met; a slice's spare places count too). A statement '..UptoSaid' is the law's where the arguments, and the package variables that the reading takes, are together of bulk at most 1048576: NARROWER than '..Said'. Prove '..Said' where nothing that the law and all that it calls make is longer than what came in: it says more and counts as full. Else prove '..UptoSaid'. A law counts once. -/
mutual
def uptoBulk {H : Type} : DataW H → Nat
  | .lit (.string bytes) => bytes.length + 1
  | .lit _ => 1
  | .nil => 1
  | .ptr d => uptoBulk d + 1
  | .slice elems spare => uptoBulkAll elems + uptoBulkAll spare + 1
  | .agg parts => uptoBulkAll parts + 1
  | .iface _ d => uptoBulk d + 1
  | .map entries => uptoBulkEntries entries + 1
  | .held _ => 1
def uptoBulkAll {H : Type} : List (DataW H) → Nat
  | [] => 0
  | d :: r => uptoBulk d + uptoBulkAll r
def uptoBulkEntries {H : Type} : List (Lit × DataW H) → Nat
  | [] => 0
  | x :: r => uptoBulkEntry x + uptoBulkEntries r
def uptoBulkEntry {H : Type} : Lit × DataW H → Nat
  | (.string bytes, d) => bytes.length + uptoBulk d + 1
  | (_, d) => uptoBulk d + 1
 end
def uptoSmall : (H : Type) → List (DataW H) → Bool := fun _ ds => decide (uptoBulkAll ds ≤ 1048576)
def OpenSpec.upto (s : _root_.Go.ChangeSpec) : _root_.Go.OpenSpec := { _root_.Go.OpenSpec.ofChange s with cond := some uptoSmall }

/-- 'isthmuskeep.SetsOrder', WHERE WHAT IT READS IS OF BULK AT MOST 1048576: true; the input reads as it did. -/
def setsOrderUptoRow : OpenClaim := { program := "ytpkdpddillebfaa", sum := "a98b836c3c8ba4a200461d4344ed32f2d26771e618dd8c9e23b9e7c5694af5b9", func := "isthmus/isthmuskeep.SetsOrder", spec := "setsOrder", unfollowed := true, recurses := true, plainKeys := false, apart := false, narrowed := true }
def SetsOrderUptoSaid : Prop := setsOrderUptoRow.holds Try.pinned (OpenSpec.upto setsOrderSpec)

/-- 'isthmuskeep.BridgeOrder', WHERE WHAT IT READS IS OF BULK AT MOST 1048576: true; the input reads as it did. -/
def bridgeOrderUptoRow : OpenClaim := { program := "ytpkdpddillebfaa", sum := "a98b836c3c8ba4a200461d4344ed32f2d26771e618dd8c9e23b9e7c5694af5b9", func := "isthmus/isthmuskeep.BridgeOrder", spec := "bridgeOrder", inPlace := ["slices.overlaps[isthmus/api.Edge]"], unfollowed := true, recurses := true, plainKeys := false, apart := false, narrowed := true }
def BridgeOrderUptoSaid : Prop := bridgeOrderUptoRow.holds Try.pinned (OpenSpec.upto bridgeOrderSpec)

/-- 'isthmuskeep.BlockParts', WHERE WHAT IT READS IS OF BULK AT MOST 1048576: true; the input reads as it did. -/
def blockPartsUptoRow : OpenClaim := { program := "ytpkdpddillebfaa", sum := "a98b836c3c8ba4a200461d4344ed32f2d26771e618dd8c9e23b9e7c5694af5b9", func := "isthmus/isthmuskeep.BlockParts", spec := "blockParts", inPlace := ["slices.overlaps[isthmus/api.Edge]"], unfollowed := true, recurses := true, plainKeys := false, apart := false, narrowed := true }
def BlockPartsUptoSaid : Prop := blockPartsUptoRow.holds Try.pinned (OpenSpec.upto blockPartsSpec)

/-- 'isthmuslaw.SplitPairs', WHERE WHAT IT READS IS OF BULK AT MOST 1048576: true; the input reads as it did. -/
def splitPairsUptoRow : OpenClaim := { program := "ytpkdpddillebfaa", sum := "a98b836c3c8ba4a200461d4344ed32f2d26771e618dd8c9e23b9e7c5694af5b9", func := "isthmus/isthmuslaw.SplitPairs", spec := "splitPairs", inPlace := ["slices.overlaps[isthmus/api.Edge]"], unfollowed := true, recurses := true, plainKeys := false, apart := false, narrowed := true }
def SplitPairsUptoSaid : Prop := splitPairsUptoRow.holds Try.pinned (OpenSpec.upto splitPairsSpec)

/-- 'isthmuskeep.SplitParts', WHERE WHAT IT READS IS OF BULK AT MOST 1048576: true; the input reads as it did. -/
def splitPartsUptoRow : OpenClaim := { program := "ytpkdpddillebfaa", sum := "a98b836c3c8ba4a200461d4344ed32f2d26771e618dd8c9e23b9e7c5694af5b9", func := "isthmus/isthmuskeep.SplitParts", spec := "splitParts", inPlace := ["slices.overlaps[isthmus/api.Edge]"], unfollowed := true, recurses := true, plainKeys := false, apart := false, narrowed := true }
def SplitPartsUptoSaid : Prop := splitPartsUptoRow.holds Try.pinned (OpenSpec.upto splitPartsSpec)

end Rows
end Go.Proofs.Ytpkdpddillebfaa
