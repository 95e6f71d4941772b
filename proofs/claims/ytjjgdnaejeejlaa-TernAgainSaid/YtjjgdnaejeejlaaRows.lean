/-
  No cell of these rows narrows 'for every input' (looked for: loops, veiled, ifaces, maps, wideKeys, modest, calm, conditions, laid).
  DERIVED. THE GIVEN ROWS OF THIS SEAT. 6 by the template 'for every input the law returns true; each argument reads behind the call as it read before'; 0 by the template 'total and deterministic' (their statements: YtjjgdnaejeejlaaTotals.lean).
  GIVEN WITH THE SEED: the statements are not yours to turn. If you find one false, say at which input.
  Laid BY PROGRAM, IN A SANDBOX (cutbox-rows.mjs): the forced cells as the released guide's own fill.sh prints them over the translation c236209d658934b1… (all of the seat's roots in one cut). By AI agents, Wed Nov 11 2026. No macro, syntax, notation, axiom, sorry.
-/
import Derived.Test.YtjjgdnaejeejlaaChecked
import GoSem.Claim
import GoSem.ClaimJoined
import GoSem.ClaimMapViews
import Derived.JoinedTies
import Derived.KernelRfl
namespace Go.Proofs.Ytjjgdnaejeejlaa
/- THE CELL 'sum', in the pinned program and in every row, IS THE sha256 OF THE DUMP (.gsa) THAT YtjjgdnaejeejlaaProg.lean LOADS. Nothing in Lean hashes anything: it is a label: what it is worth is what the hold of that sum in a sandbox is worth. -/
noncomputable def Try.pinned : Pinned := { name := "ytjjgdnaejeejlaa", sum := "c236209d658934b11ee5cf2e3ffcf40d0c1e98eb54f999833b957006a7662c31", checked := Try.checked }
namespace Rows
def none {H : Type} : Left H := { results := [], args := [] }

/-- 'turnoutlaw12.TernMatches': WHATEVER THE INPUT: true; the input reads as it did. -/
def ternMatchesSpec : ChangeSpec := { name := "ternMatches", fn := fun _ => fun
  | [d1, d2] => { results := [.lit (.bool true)], args := [d1, d2] }
  | _ => none }
def ternMatchesRow : OpenClaim := { program := "ytjjgdnaejeejlaa", sum := "c236209d658934b11ee5cf2e3ffcf40d0c1e98eb54f999833b957006a7662c31", func := "turnout/turnoutlaw12.TernMatches", spec := "ternMatches", inPlace := ["internal/bytealg.abigen_runtime_cmpstring", "slices.overlaps[turnout/tern.placed]", "slices.overlaps[int]", "slices.overlaps[*turnout/tern.group]"], unfollowed := true, recurses := true, apart := false }
def TernMatchesSaid : Prop := ternMatchesRow.holds Try.pinned (OpenSpec.ofChange ternMatchesSpec)

/-- ITS FALSE NEIGHBOUR: 'it returns false'. Refute it at one input. -/
def ternMatchesWrong : ChangeSpec := { name := "ternMatches", fn := fun _ => fun
  | [d1, d2] => { results := [.lit (.bool false)], args := [d1, d2] }
  | _ => none }
def TernMatchesWrongFalsely : Prop := ternMatchesRow.holds Try.pinned (OpenSpec.ofChange ternMatchesWrong)

/-- 'turnoutlaw12.TernNames': WHATEVER THE INPUT: true; the input reads as it did. -/
def ternNamesSpec : ChangeSpec := { name := "ternNames", fn := fun _ => fun
  | [] => { results := [.lit (.bool true)], args := [] }
  | _ => none }
def ternNamesRow : OpenClaim := { program := "ytjjgdnaejeejlaa", sum := "c236209d658934b11ee5cf2e3ffcf40d0c1e98eb54f999833b957006a7662c31", func := "turnout/turnoutlaw12.TernNames", spec := "ternNames", inPlace := ["internal/bytealg.abigen_runtime_cmpstring", "slices.overlaps[turnout/tern.placed]", "slices.overlaps[int]", "slices.overlaps[*turnout/tern.group]"], unfollowed := true, recurses := true, apart := false }
def TernNamesSaid : Prop := ternNamesRow.holds Try.pinned (OpenSpec.ofChange ternNamesSpec)

/-- ITS FALSE NEIGHBOUR: 'it returns false'. Refute it at one input. -/
def ternNamesWrong : ChangeSpec := { name := "ternNames", fn := fun _ => fun
  | [] => { results := [.lit (.bool false)], args := [] }
  | _ => none }
def TernNamesWrongFalsely : Prop := ternNamesRow.holds Try.pinned (OpenSpec.ofChange ternNamesWrong)

/-- 'turnoutlaw12.TernUnder': WHATEVER THE INPUT: true; the input reads as it did. -/
def ternUnderSpec : ChangeSpec := { name := "ternUnder", fn := fun _ => fun
  | [d1, d2, d3] => { results := [.lit (.bool true)], args := [d1, d2, d3] }
  | _ => none }
def ternUnderRow : OpenClaim := { program := "ytjjgdnaejeejlaa", sum := "c236209d658934b11ee5cf2e3ffcf40d0c1e98eb54f999833b957006a7662c31", func := "turnout/turnoutlaw12.TernUnder", spec := "ternUnder", inPlace := ["internal/bytealg.abigen_runtime_cmpstring", "slices.overlaps[turnout/tern.placed]", "slices.overlaps[int]", "slices.overlaps[*turnout/tern.group]"], unfollowed := true, recurses := true, apart := false }
def TernUnderSaid : Prop := ternUnderRow.holds Try.pinned (OpenSpec.ofChange ternUnderSpec)

/-- ITS FALSE NEIGHBOUR: 'it returns false'. Refute it at one input. -/
def ternUnderWrong : ChangeSpec := { name := "ternUnder", fn := fun _ => fun
  | [d1, d2, d3] => { results := [.lit (.bool false)], args := [d1, d2, d3] }
  | _ => none }
def TernUnderWrongFalsely : Prop := ternUnderRow.holds Try.pinned (OpenSpec.ofChange ternUnderWrong)

/-- 'turnoutlaw12.TernRow': WHATEVER THE INPUT: true; the input reads as it did. -/
def ternRowSpec : ChangeSpec := { name := "ternRow", fn := fun _ => fun
  | [d1, d2] => { results := [.lit (.bool true)], args := [d1, d2] }
  | _ => none }
def ternRowRow : OpenClaim := { program := "ytjjgdnaejeejlaa", sum := "c236209d658934b11ee5cf2e3ffcf40d0c1e98eb54f999833b957006a7662c31", func := "turnout/turnoutlaw12.TernRow", spec := "ternRow", inPlace := ["internal/bytealg.abigen_runtime_cmpstring", "slices.overlaps[turnout/tern.placed]", "slices.overlaps[int]", "slices.overlaps[*turnout/tern.group]"], unfollowed := true, recurses := true, apart := false }
def TernRowSaid : Prop := ternRowRow.holds Try.pinned (OpenSpec.ofChange ternRowSpec)

/-- ITS FALSE NEIGHBOUR: 'it returns false'. Refute it at one input. -/
def ternRowWrong : ChangeSpec := { name := "ternRow", fn := fun _ => fun
  | [d1, d2] => { results := [.lit (.bool false)], args := [d1, d2] }
  | _ => none }
def TernRowWrongFalsely : Prop := ternRowRow.holds Try.pinned (OpenSpec.ofChange ternRowWrong)

/-- 'turnoutlaw12.TernLooks': WHATEVER THE INPUT: true; the input reads as it did. -/
def ternLooksSpec : ChangeSpec := { name := "ternLooks", fn := fun _ => fun
  | [d1, d2] => { results := [.lit (.bool true)], args := [d1, d2] }
  | _ => none }
def ternLooksRow : OpenClaim := { program := "ytjjgdnaejeejlaa", sum := "c236209d658934b11ee5cf2e3ffcf40d0c1e98eb54f999833b957006a7662c31", func := "turnout/turnoutlaw12.TernLooks", spec := "ternLooks", inPlace := ["internal/bytealg.abigen_runtime_cmpstring", "slices.overlaps[turnout/tern.placed]", "slices.overlaps[int]", "slices.overlaps[*turnout/tern.group]"], unfollowed := true, recurses := true, apart := false }
def TernLooksSaid : Prop := ternLooksRow.holds Try.pinned (OpenSpec.ofChange ternLooksSpec)

/-- ITS FALSE NEIGHBOUR: 'it returns false'. Refute it at one input. -/
def ternLooksWrong : ChangeSpec := { name := "ternLooks", fn := fun _ => fun
  | [d1, d2] => { results := [.lit (.bool false)], args := [d1, d2] }
  | _ => none }
def TernLooksWrongFalsely : Prop := ternLooksRow.holds Try.pinned (OpenSpec.ofChange ternLooksWrong)

/-- 'turnoutlaw12.TernAgain': WHATEVER THE INPUT: true; the input reads as it did. -/
def ternAgainSpec : ChangeSpec := { name := "ternAgain", fn := fun _ => fun
  | [d1, d2, d3] => { results := [.lit (.bool true)], args := [d1, d2, d3] }
  | _ => none }
def ternAgainRow : OpenClaim := { program := "ytjjgdnaejeejlaa", sum := "c236209d658934b11ee5cf2e3ffcf40d0c1e98eb54f999833b957006a7662c31", func := "turnout/turnoutlaw12.TernAgain", spec := "ternAgain", inPlace := ["internal/bytealg.abigen_runtime_cmpstring", "slices.overlaps[turnout/tern.placed]", "slices.overlaps[int]", "slices.overlaps[*turnout/tern.group]"], unfollowed := true, recurses := true, apart := false }
def TernAgainSaid : Prop := ternAgainRow.holds Try.pinned (OpenSpec.ofChange ternAgainSpec)

/-- ITS FALSE NEIGHBOUR: 'it returns false'. Refute it at one input. -/
def ternAgainWrong : ChangeSpec := { name := "ternAgain", fn := fun _ => fun
  | [d1, d2, d3] => { results := [.lit (.bool false)], args := [d1, d2, d3] }
  | _ => none }
def TernAgainWrongFalsely : Prop := ternAgainRow.holds Try.pinned (OpenSpec.ofChange ternAgainWrong)

/- THE SECOND FORM. 'bulk': how many values and letters a reading holds, each counted each time it is reached (what is shared counts as often as it is met; a slice's spare places count too). A statement '..UptoSaid' is the law's where the arguments, and the package variables that the reading takes, are together of bulk at most 1048576: NARROWER than '..Said'. Prove '..Said' where nothing that the law and all that it calls make is longer than what came in: it says more and counts as full. Else prove '..UptoSaid'. A law counts once. -/
mutual
def uptoBulk {H : Type} : DataW H → Nat
  | .lit (.string bytes) => bytes.length + 1
  | .lit _ => 1
  | .nil => 1
  | .ptr d => uptoBulk d + 1
  | .slice elems spare => uptoBulkAll elems + uptoBulkAll spare + 1
  | .agg parts => uptoBulkAll parts + 1
  | .iface _ d => uptoBulk d + 1
  | .map entries => uptoBulkEntries entries + 1
  | .held _ => 1
def uptoBulkAll {H : Type} : List (DataW H) → Nat
  | [] => 0
  | d :: r => uptoBulk d + uptoBulkAll r
def uptoBulkEntries {H : Type} : List (Lit × DataW H) → Nat
  | [] => 0
  | x :: r => uptoBulkEntry x + uptoBulkEntries r
def uptoBulkEntry {H : Type} : Lit × DataW H → Nat
  | (.string bytes, d) => bytes.length + uptoBulk d + 1
  | (_, d) => uptoBulk d + 1
 end
def uptoSmall : (H : Type) → List (DataW H) → Bool := fun _ ds => decide (uptoBulkAll ds ≤ 1048576)
def OpenSpec.upto (s : _root_.Go.ChangeSpec) : _root_.Go.OpenSpec := { _root_.Go.OpenSpec.ofChange s with cond := some uptoSmall }

/-- 'turnoutlaw12.TernMatches', WHERE WHAT IT READS IS OF BULK AT MOST 1048576: true; the input reads as it did. -/
def ternMatchesUptoRow : OpenClaim := { program := "ytjjgdnaejeejlaa", sum := "c236209d658934b11ee5cf2e3ffcf40d0c1e98eb54f999833b957006a7662c31", func := "turnout/turnoutlaw12.TernMatches", spec := "ternMatches", inPlace := ["internal/bytealg.abigen_runtime_cmpstring", "slices.overlaps[turnout/tern.placed]", "slices.overlaps[int]", "slices.overlaps[*turnout/tern.group]"], unfollowed := true, recurses := true, apart := false, narrowed := true }
def TernMatchesUptoSaid : Prop := ternMatchesUptoRow.holds Try.pinned (OpenSpec.upto ternMatchesSpec)

/-- 'turnoutlaw12.TernNames', WHERE WHAT IT READS IS OF BULK AT MOST 1048576: true; the input reads as it did. -/
def ternNamesUptoRow : OpenClaim := { program := "ytjjgdnaejeejlaa", sum := "c236209d658934b11ee5cf2e3ffcf40d0c1e98eb54f999833b957006a7662c31", func := "turnout/turnoutlaw12.TernNames", spec := "ternNames", inPlace := ["internal/bytealg.abigen_runtime_cmpstring", "slices.overlaps[turnout/tern.placed]", "slices.overlaps[int]", "slices.overlaps[*turnout/tern.group]"], unfollowed := true, recurses := true, apart := false, narrowed := true }
def TernNamesUptoSaid : Prop := ternNamesUptoRow.holds Try.pinned (OpenSpec.upto ternNamesSpec)

/-- 'turnoutlaw12.TernUnder', WHERE WHAT IT READS IS OF BULK AT MOST 1048576: true; the input reads as it did. -/
def ternUnderUptoRow : OpenClaim := { program := "ytjjgdnaejeejlaa", sum := "c236209d658934b11ee5cf2e3ffcf40d0c1e98eb54f999833b957006a7662c31", func := "turnout/turnoutlaw12.TernUnder", spec := "ternUnder", inPlace := ["internal/bytealg.abigen_runtime_cmpstring", "slices.overlaps[turnout/tern.placed]", "slices.overlaps[int]", "slices.overlaps[*turnout/tern.group]"], unfollowed := true, recurses := true, apart := false, narrowed := true }
def TernUnderUptoSaid : Prop := ternUnderUptoRow.holds Try.pinned (OpenSpec.upto ternUnderSpec)

/-- 'turnoutlaw12.TernRow', WHERE WHAT IT READS IS OF BULK AT MOST 1048576: true; the input reads as it did. -/
def ternRowUptoRow : OpenClaim := { program := "ytjjgdnaejeejlaa", sum := "c236209d658934b11ee5cf2e3ffcf40d0c1e98eb54f999833b957006a7662c31", func := "turnout/turnoutlaw12.TernRow", spec := "ternRow", inPlace := ["internal/bytealg.abigen_runtime_cmpstring", "slices.overlaps[turnout/tern.placed]", "slices.overlaps[int]", "slices.overlaps[*turnout/tern.group]"], unfollowed := true, recurses := true, apart := false, narrowed := true }
def TernRowUptoSaid : Prop := ternRowUptoRow.holds Try.pinned (OpenSpec.upto ternRowSpec)

/-- 'turnoutlaw12.TernLooks', WHERE WHAT IT READS IS OF BULK AT MOST 1048576: true; the input reads as it did. -/
def ternLooksUptoRow : OpenClaim := { program := "ytjjgdnaejeejlaa", sum := "c236209d658934b11ee5cf2e3ffcf40d0c1e98eb54f999833b957006a7662c31", func := "turnout/turnoutlaw12.TernLooks", spec := "ternLooks", inPlace := ["internal/bytealg.abigen_runtime_cmpstring", "slices.overlaps[turnout/tern.placed]", "slices.overlaps[int]", "slices.overlaps[*turnout/tern.group]"], unfollowed := true, recurses := true, apart := false, narrowed := true }
def TernLooksUptoSaid : Prop := ternLooksUptoRow.holds Try.pinned (OpenSpec.upto ternLooksSpec)

/-- 'turnoutlaw12.TernAgain', WHERE WHAT IT READS IS OF BULK AT MOST 1048576: true; the input reads as it did. -/
def ternAgainUptoRow : OpenClaim := { program := "ytjjgdnaejeejlaa", sum := "c236209d658934b11ee5cf2e3ffcf40d0c1e98eb54f999833b957006a7662c31", func := "turnout/turnoutlaw12.TernAgain", spec := "ternAgain", inPlace := ["internal/bytealg.abigen_runtime_cmpstring", "slices.overlaps[turnout/tern.placed]", "slices.overlaps[int]", "slices.overlaps[*turnout/tern.group]"], unfollowed := true, recurses := true, apart := false, narrowed := true }
def TernAgainUptoSaid : Prop := ternAgainUptoRow.holds Try.pinned (OpenSpec.upto ternAgainSpec)

end Rows
end Go.Proofs.Ytjjgdnaejeejlaa
