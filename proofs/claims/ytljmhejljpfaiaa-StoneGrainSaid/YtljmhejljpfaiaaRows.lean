/-
  No cell of these rows narrows 'for every input' (looked for: loops, veiled, ifaces, maps, wideKeys, modest, calm, conditions, laid).
  DERIVED. THE GIVEN ROWS OF THIS SEAT. 11 by the template 'for every input the law returns true; each argument reads behind the call as it read before'; 0 by the template 'total and deterministic' (their statements: YtljmhejljpfaiaaTotals.lean).
  GIVEN WITH THE SEED: the statements are not yours to turn. If you find one false, say at which input.
  Laid BY PROGRAM, IN A SANDBOX (cutbox-rows.mjs): the forced cells as the released guide's own fill.sh prints them over the translation de2d6cdad7e20be6… (all of the seat's roots in one cut). By AI agents, Wed Nov 11 2026. No macro, syntax, notation, axiom, sorry.
-/
import Derived.Test.YtljmhejljpfaiaaChecked
import GoSem.Claim
import GoSem.ClaimJoined
import GoSem.ClaimMapViews
import Derived.JoinedTies
import Derived.KernelRfl
namespace Go.Proofs.Ytljmhejljpfaiaa
/- THE CELL 'sum', in the pinned program and in every row, IS THE sha256 OF THE DUMP (.gsa) THAT YtljmhejljpfaiaaProg.lean LOADS. Nothing in Lean hashes anything: it is a label: what it is worth is what the hold of that sum in a sandbox is worth. -/
noncomputable def Try.pinned : Pinned := { name := "ytljmhejljpfaiaa", sum := "de2d6cdad7e20be6084b0c440c17afad52faeb46db43503d0e41a4e1e8e35cc3", checked := Try.checked }
namespace Rows
def none {H : Type} : Left H := { results := [], args := [] }

/-- 'copestonelaw02.StoneChecks': WHATEVER THE INPUT: true; the input reads as it did. -/
def stoneChecksSpec : ChangeSpec := { name := "stoneChecks", fn := fun _ => fun
  | [d] => { results := [.lit (.bool true)], args := [d] }
  | _ => none }
def stoneChecksRow : OpenClaim := { program := "ytljmhejljpfaiaa", sum := "de2d6cdad7e20be6084b0c440c17afad52faeb46db43503d0e41a4e1e8e35cc3", func := "copestone/copestonelaw02.StoneChecks", spec := "stoneChecks", unfollowed := true, recurses := true, apart := false }
def StoneChecksSaid : Prop := stoneChecksRow.holds Try.pinned (OpenSpec.ofChange stoneChecksSpec)

/-- ITS FALSE NEIGHBOUR: 'it returns false'. Refute it at one input. -/
def stoneChecksWrong : ChangeSpec := { name := "stoneChecks", fn := fun _ => fun
  | [d] => { results := [.lit (.bool false)], args := [d] }
  | _ => none }
def StoneChecksWrongFalsely : Prop := stoneChecksRow.holds Try.pinned (OpenSpec.ofChange stoneChecksWrong)

/-- 'copestonelaw02.StoneWeighs': WHATEVER THE INPUT: true; the input reads as it did. -/
def stoneWeighsSpec : ChangeSpec := { name := "stoneWeighs", fn := fun _ => fun
  | [d] => { results := [.lit (.bool true)], args := [d] }
  | _ => none }
def stoneWeighsRow : OpenClaim := { program := "ytljmhejljpfaiaa", sum := "de2d6cdad7e20be6084b0c440c17afad52faeb46db43503d0e41a4e1e8e35cc3", func := "copestone/copestonelaw02.StoneWeighs", spec := "stoneWeighs", unfollowed := true, recurses := true, apart := false }
def StoneWeighsSaid : Prop := stoneWeighsRow.holds Try.pinned (OpenSpec.ofChange stoneWeighsSpec)

/-- ITS FALSE NEIGHBOUR: 'it returns false'. Refute it at one input. -/
def stoneWeighsWrong : ChangeSpec := { name := "stoneWeighs", fn := fun _ => fun
  | [d] => { results := [.lit (.bool false)], args := [d] }
  | _ => none }
def StoneWeighsWrongFalsely : Prop := stoneWeighsRow.holds Try.pinned (OpenSpec.ofChange stoneWeighsWrong)

/-- 'copestonelaw02.StoneTurns': WHATEVER THE INPUT: true; the input reads as it did. -/
def stoneTurnsSpec : ChangeSpec := { name := "stoneTurns", fn := fun _ => fun
  | [d1, d2] => { results := [.lit (.bool true)], args := [d1, d2] }
  | _ => none }
def stoneTurnsRow : OpenClaim := { program := "ytljmhejljpfaiaa", sum := "de2d6cdad7e20be6084b0c440c17afad52faeb46db43503d0e41a4e1e8e35cc3", func := "copestone/copestonelaw02.StoneTurns", spec := "stoneTurns", unfollowed := true, recurses := true, apart := false }
def StoneTurnsSaid : Prop := stoneTurnsRow.holds Try.pinned (OpenSpec.ofChange stoneTurnsSpec)

/-- ITS FALSE NEIGHBOUR: 'it returns false'. Refute it at one input. -/
def stoneTurnsWrong : ChangeSpec := { name := "stoneTurns", fn := fun _ => fun
  | [d1, d2] => { results := [.lit (.bool false)], args := [d1, d2] }
  | _ => none }
def StoneTurnsWrongFalsely : Prop := stoneTurnsRow.holds Try.pinned (OpenSpec.ofChange stoneTurnsWrong)

/-- 'copestonelaw02.StoneBorders': WHATEVER THE INPUT: true; the input reads as it did. -/
def stoneBordersSpec : ChangeSpec := { name := "stoneBorders", fn := fun _ => fun
  | [d] => { results := [.lit (.bool true)], args := [d] }
  | _ => none }
def stoneBordersRow : OpenClaim := { program := "ytljmhejljpfaiaa", sum := "de2d6cdad7e20be6084b0c440c17afad52faeb46db43503d0e41a4e1e8e35cc3", func := "copestone/copestonelaw02.StoneBorders", spec := "stoneBorders", unfollowed := true, recurses := true, apart := false }
def StoneBordersSaid : Prop := stoneBordersRow.holds Try.pinned (OpenSpec.ofChange stoneBordersSpec)

/-- ITS FALSE NEIGHBOUR: 'it returns false'. Refute it at one input. -/
def stoneBordersWrong : ChangeSpec := { name := "stoneBorders", fn := fun _ => fun
  | [d] => { results := [.lit (.bool false)], args := [d] }
  | _ => none }
def StoneBordersWrongFalsely : Prop := stoneBordersRow.holds Try.pinned (OpenSpec.ofChange stoneBordersWrong)

/-- 'copestonelaw02.StoneSplits': WHATEVER THE INPUT: true; the input reads as it did. -/
def stoneSplitsSpec : ChangeSpec := { name := "stoneSplits", fn := fun _ => fun
  | [d1, d2, d3] => { results := [.lit (.bool true)], args := [d1, d2, d3] }
  | _ => none }
def stoneSplitsRow : OpenClaim := { program := "ytljmhejljpfaiaa", sum := "de2d6cdad7e20be6084b0c440c17afad52faeb46db43503d0e41a4e1e8e35cc3", func := "copestone/copestonelaw02.StoneSplits", spec := "stoneSplits", unfollowed := true, recurses := true, apart := false }
def StoneSplitsSaid : Prop := stoneSplitsRow.holds Try.pinned (OpenSpec.ofChange stoneSplitsSpec)

/-- ITS FALSE NEIGHBOUR: 'it returns false'. Refute it at one input. -/
def stoneSplitsWrong : ChangeSpec := { name := "stoneSplits", fn := fun _ => fun
  | [d1, d2, d3] => { results := [.lit (.bool false)], args := [d1, d2, d3] }
  | _ => none }
def StoneSplitsWrongFalsely : Prop := stoneSplitsRow.holds Try.pinned (OpenSpec.ofChange stoneSplitsWrong)

/-- 'copestonelaw02.StoneOutcomes': WHATEVER THE INPUT: true; the input reads as it did. -/
def stoneOutcomesSpec : ChangeSpec := { name := "stoneOutcomes", fn := fun _ => fun
  | [d1, d2, d3] => { results := [.lit (.bool true)], args := [d1, d2, d3] }
  | _ => none }
def stoneOutcomesRow : OpenClaim := { program := "ytljmhejljpfaiaa", sum := "de2d6cdad7e20be6084b0c440c17afad52faeb46db43503d0e41a4e1e8e35cc3", func := "copestone/copestonelaw02.StoneOutcomes", spec := "stoneOutcomes", unfollowed := true, recurses := true, apart := false }
def StoneOutcomesSaid : Prop := stoneOutcomesRow.holds Try.pinned (OpenSpec.ofChange stoneOutcomesSpec)

/-- ITS FALSE NEIGHBOUR: 'it returns false'. Refute it at one input. -/
def stoneOutcomesWrong : ChangeSpec := { name := "stoneOutcomes", fn := fun _ => fun
  | [d1, d2, d3] => { results := [.lit (.bool false)], args := [d1, d2, d3] }
  | _ => none }
def StoneOutcomesWrongFalsely : Prop := stoneOutcomesRow.holds Try.pinned (OpenSpec.ofChange stoneOutcomesWrong)

/-- 'copestonelaw02.StoneChips': WHATEVER THE INPUT: true; the input reads as it did. -/
def stoneChipsSpec : ChangeSpec := { name := "stoneChips", fn := fun _ => fun
  | [d1, d2, d3, d4] => { results := [.lit (.bool true)], args := [d1, d2, d3, d4] }
  | _ => none }
def stoneChipsRow : OpenClaim := { program := "ytljmhejljpfaiaa", sum := "de2d6cdad7e20be6084b0c440c17afad52faeb46db43503d0e41a4e1e8e35cc3", func := "copestone/copestonelaw02.StoneChips", spec := "stoneChips", unfollowed := true, recurses := true, apart := false }
def StoneChipsSaid : Prop := stoneChipsRow.holds Try.pinned (OpenSpec.ofChange stoneChipsSpec)

/-- ITS FALSE NEIGHBOUR: 'it returns false'. Refute it at one input. -/
def stoneChipsWrong : ChangeSpec := { name := "stoneChips", fn := fun _ => fun
  | [d1, d2, d3, d4] => { results := [.lit (.bool false)], args := [d1, d2, d3, d4] }
  | _ => none }
def StoneChipsWrongFalsely : Prop := stoneChipsRow.holds Try.pinned (OpenSpec.ofChange stoneChipsWrong)

/-- 'copestonelaw02.StoneWays': WHATEVER THE INPUT: true; the input reads as it did. -/
def stoneWaysSpec : ChangeSpec := { name := "stoneWays", fn := fun _ => fun
  | [d1, d2, d3] => { results := [.lit (.bool true)], args := [d1, d2, d3] }
  | _ => none }
def stoneWaysRow : OpenClaim := { program := "ytljmhejljpfaiaa", sum := "de2d6cdad7e20be6084b0c440c17afad52faeb46db43503d0e41a4e1e8e35cc3", func := "copestone/copestonelaw02.StoneWays", spec := "stoneWays", unfollowed := true, recurses := true, apart := false }
def StoneWaysSaid : Prop := stoneWaysRow.holds Try.pinned (OpenSpec.ofChange stoneWaysSpec)

/-- ITS FALSE NEIGHBOUR: 'it returns false'. Refute it at one input. -/
def stoneWaysWrong : ChangeSpec := { name := "stoneWays", fn := fun _ => fun
  | [d1, d2, d3] => { results := [.lit (.bool false)], args := [d1, d2, d3] }
  | _ => none }
def StoneWaysWrongFalsely : Prop := stoneWaysRow.holds Try.pinned (OpenSpec.ofChange stoneWaysWrong)

/-- 'copestonelaw02.StoneHalves': WHATEVER THE INPUT: true; the input reads as it did. -/
def stoneHalvesSpec : ChangeSpec := { name := "stoneHalves", fn := fun _ => fun
  | [d1, d2, d3] => { results := [.lit (.bool true)], args := [d1, d2, d3] }
  | _ => none }
def stoneHalvesRow : OpenClaim := { program := "ytljmhejljpfaiaa", sum := "de2d6cdad7e20be6084b0c440c17afad52faeb46db43503d0e41a4e1e8e35cc3", func := "copestone/copestonelaw02.StoneHalves", spec := "stoneHalves", unfollowed := true, recurses := true, apart := false }
def StoneHalvesSaid : Prop := stoneHalvesRow.holds Try.pinned (OpenSpec.ofChange stoneHalvesSpec)

/-- ITS FALSE NEIGHBOUR: 'it returns false'. Refute it at one input. -/
def stoneHalvesWrong : ChangeSpec := { name := "stoneHalves", fn := fun _ => fun
  | [d1, d2, d3] => { results := [.lit (.bool false)], args := [d1, d2, d3] }
  | _ => none }
def StoneHalvesWrongFalsely : Prop := stoneHalvesRow.holds Try.pinned (OpenSpec.ofChange stoneHalvesWrong)

/-- 'copestonelaw02.StonePick': WHATEVER THE INPUT: true; the input reads as it did. -/
def stonePickSpec : ChangeSpec := { name := "stonePick", fn := fun _ => fun
  | [d] => { results := [.lit (.bool true)], args := [d] }
  | _ => none }
def stonePickRow : OpenClaim := { program := "ytljmhejljpfaiaa", sum := "de2d6cdad7e20be6084b0c440c17afad52faeb46db43503d0e41a4e1e8e35cc3", func := "copestone/copestonelaw02.StonePick", spec := "stonePick", unfollowed := true, recurses := true, apart := false }
def StonePickSaid : Prop := stonePickRow.holds Try.pinned (OpenSpec.ofChange stonePickSpec)

/-- ITS FALSE NEIGHBOUR: 'it returns false'. Refute it at one input. -/
def stonePickWrong : ChangeSpec := { name := "stonePick", fn := fun _ => fun
  | [d] => { results := [.lit (.bool false)], args := [d] }
  | _ => none }
def StonePickWrongFalsely : Prop := stonePickRow.holds Try.pinned (OpenSpec.ofChange stonePickWrong)

/-- 'copestonelaw02.StoneGrain': WHATEVER THE INPUT: true; the input reads as it did. -/
def stoneGrainSpec : ChangeSpec := { name := "stoneGrain", fn := fun _ => fun
  | [d1, d2, d3, d4] => { results := [.lit (.bool true)], args := [d1, d2, d3, d4] }
  | _ => none }
def stoneGrainRow : OpenClaim := { program := "ytljmhejljpfaiaa", sum := "de2d6cdad7e20be6084b0c440c17afad52faeb46db43503d0e41a4e1e8e35cc3", func := "copestone/copestonelaw02.StoneGrain", spec := "stoneGrain", unfollowed := true, recurses := true, apart := false }
def StoneGrainSaid : Prop := stoneGrainRow.holds Try.pinned (OpenSpec.ofChange stoneGrainSpec)

/-- ITS FALSE NEIGHBOUR: 'it returns false'. Refute it at one input. -/
def stoneGrainWrong : ChangeSpec := { name := "stoneGrain", fn := fun _ => fun
  | [d1, d2, d3, d4] => { results := [.lit (.bool false)], args := [d1, d2, d3, d4] }
  | _ => none }
def StoneGrainWrongFalsely : Prop := stoneGrainRow.holds Try.pinned (OpenSpec.ofChange stoneGrainWrong)

/- THE SECOND FORM. 'bulk': how many values and letters a reading holds, each counted each time it is reached (what is shared counts as often as it is met; a slice's spare places count too). A statement '..UptoSaid' is the law's where the arguments, and the package variables that the reading takes, are together of bulk at most 1048576: NARROWER than '..Said'. Prove '..Said' where nothing that the law and all that it calls make is longer than what came in: it says more and counts as full. Else prove '..UptoSaid'. A law counts once. -/
mutual
def uptoBulk {H : Type} : DataW H → Nat
  | .lit (.string bytes) => bytes.length + 1
  | .lit _ => 1
  | .nil => 1
  | .ptr d => uptoBulk d + 1
  | .slice elems spare => uptoBulkAll elems + uptoBulkAll spare + 1
  | .agg parts => uptoBulkAll parts + 1
  | .iface _ d => uptoBulk d + 1
  | .map entries => uptoBulkEntries entries + 1
  | .held _ => 1
def uptoBulkAll {H : Type} : List (DataW H) → Nat
  | [] => 0
  | d :: r => uptoBulk d + uptoBulkAll r
def uptoBulkEntries {H : Type} : List (Lit × DataW H) → Nat
  | [] => 0
  | x :: r => uptoBulkEntry x + uptoBulkEntries r
def uptoBulkEntry {H : Type} : Lit × DataW H → Nat
  | (.string bytes, d) => bytes.length + uptoBulk d + 1
  | (_, d) => uptoBulk d + 1
 end
def uptoSmall : (H : Type) → List (DataW H) → Bool := fun _ ds => decide (uptoBulkAll ds ≤ 1048576)
def OpenSpec.upto (s : _root_.Go.ChangeSpec) : _root_.Go.OpenSpec := { _root_.Go.OpenSpec.ofChange s with cond := some uptoSmall }

/-- 'copestonelaw02.StoneChecks', WHERE WHAT IT READS IS OF BULK AT MOST 1048576: true; the input reads as it did. -/
def stoneChecksUptoRow : OpenClaim := { program := "ytljmhejljpfaiaa", sum := "de2d6cdad7e20be6084b0c440c17afad52faeb46db43503d0e41a4e1e8e35cc3", func := "copestone/copestonelaw02.StoneChecks", spec := "stoneChecks", unfollowed := true, recurses := true, apart := false, narrowed := true }
def StoneChecksUptoSaid : Prop := stoneChecksUptoRow.holds Try.pinned (OpenSpec.upto stoneChecksSpec)

/-- 'copestonelaw02.StoneWeighs', WHERE WHAT IT READS IS OF BULK AT MOST 1048576: true; the input reads as it did. -/
def stoneWeighsUptoRow : OpenClaim := { program := "ytljmhejljpfaiaa", sum := "de2d6cdad7e20be6084b0c440c17afad52faeb46db43503d0e41a4e1e8e35cc3", func := "copestone/copestonelaw02.StoneWeighs", spec := "stoneWeighs", unfollowed := true, recurses := true, apart := false, narrowed := true }
def StoneWeighsUptoSaid : Prop := stoneWeighsUptoRow.holds Try.pinned (OpenSpec.upto stoneWeighsSpec)

/-- 'copestonelaw02.StoneTurns', WHERE WHAT IT READS IS OF BULK AT MOST 1048576: true; the input reads as it did. -/
def stoneTurnsUptoRow : OpenClaim := { program := "ytljmhejljpfaiaa", sum := "de2d6cdad7e20be6084b0c440c17afad52faeb46db43503d0e41a4e1e8e35cc3", func := "copestone/copestonelaw02.StoneTurns", spec := "stoneTurns", unfollowed := true, recurses := true, apart := false, narrowed := true }
def StoneTurnsUptoSaid : Prop := stoneTurnsUptoRow.holds Try.pinned (OpenSpec.upto stoneTurnsSpec)

/-- 'copestonelaw02.StoneBorders', WHERE WHAT IT READS IS OF BULK AT MOST 1048576: true; the input reads as it did. -/
def stoneBordersUptoRow : OpenClaim := { program := "ytljmhejljpfaiaa", sum := "de2d6cdad7e20be6084b0c440c17afad52faeb46db43503d0e41a4e1e8e35cc3", func := "copestone/copestonelaw02.StoneBorders", spec := "stoneBorders", unfollowed := true, recurses := true, apart := false, narrowed := true }
def StoneBordersUptoSaid : Prop := stoneBordersUptoRow.holds Try.pinned (OpenSpec.upto stoneBordersSpec)

/-- 'copestonelaw02.StoneSplits', WHERE WHAT IT READS IS OF BULK AT MOST 1048576: true; the input reads as it did. -/
def stoneSplitsUptoRow : OpenClaim := { program := "ytljmhejljpfaiaa", sum := "de2d6cdad7e20be6084b0c440c17afad52faeb46db43503d0e41a4e1e8e35cc3", func := "copestone/copestonelaw02.StoneSplits", spec := "stoneSplits", unfollowed := true, recurses := true, apart := false, narrowed := true }
def StoneSplitsUptoSaid : Prop := stoneSplitsUptoRow.holds Try.pinned (OpenSpec.upto stoneSplitsSpec)

/-- 'copestonelaw02.StoneOutcomes', WHERE WHAT IT READS IS OF BULK AT MOST 1048576: true; the input reads as it did. -/
def stoneOutcomesUptoRow : OpenClaim := { program := "ytljmhejljpfaiaa", sum := "de2d6cdad7e20be6084b0c440c17afad52faeb46db43503d0e41a4e1e8e35cc3", func := "copestone/copestonelaw02.StoneOutcomes", spec := "stoneOutcomes", unfollowed := true, recurses := true, apart := false, narrowed := true }
def StoneOutcomesUptoSaid : Prop := stoneOutcomesUptoRow.holds Try.pinned (OpenSpec.upto stoneOutcomesSpec)

/-- 'copestonelaw02.StoneChips', WHERE WHAT IT READS IS OF BULK AT MOST 1048576: true; the input reads as it did. -/
def stoneChipsUptoRow : OpenClaim := { program := "ytljmhejljpfaiaa", sum := "de2d6cdad7e20be6084b0c440c17afad52faeb46db43503d0e41a4e1e8e35cc3", func := "copestone/copestonelaw02.StoneChips", spec := "stoneChips", unfollowed := true, recurses := true, apart := false, narrowed := true }
def StoneChipsUptoSaid : Prop := stoneChipsUptoRow.holds Try.pinned (OpenSpec.upto stoneChipsSpec)

/-- 'copestonelaw02.StoneWays', WHERE WHAT IT READS IS OF BULK AT MOST 1048576: true; the input reads as it did. -/
def stoneWaysUptoRow : OpenClaim := { program := "ytljmhejljpfaiaa", sum := "de2d6cdad7e20be6084b0c440c17afad52faeb46db43503d0e41a4e1e8e35cc3", func := "copestone/copestonelaw02.StoneWays", spec := "stoneWays", unfollowed := true, recurses := true, apart := false, narrowed := true }
def StoneWaysUptoSaid : Prop := stoneWaysUptoRow.holds Try.pinned (OpenSpec.upto stoneWaysSpec)

/-- 'copestonelaw02.StoneHalves', WHERE WHAT IT READS IS OF BULK AT MOST 1048576: true; the input reads as it did. -/
def stoneHalvesUptoRow : OpenClaim := { program := "ytljmhejljpfaiaa", sum := "de2d6cdad7e20be6084b0c440c17afad52faeb46db43503d0e41a4e1e8e35cc3", func := "copestone/copestonelaw02.StoneHalves", spec := "stoneHalves", unfollowed := true, recurses := true, apart := false, narrowed := true }
def StoneHalvesUptoSaid : Prop := stoneHalvesUptoRow.holds Try.pinned (OpenSpec.upto stoneHalvesSpec)

/-- 'copestonelaw02.StonePick', WHERE WHAT IT READS IS OF BULK AT MOST 1048576: true; the input reads as it did. -/
def stonePickUptoRow : OpenClaim := { program := "ytljmhejljpfaiaa", sum := "de2d6cdad7e20be6084b0c440c17afad52faeb46db43503d0e41a4e1e8e35cc3", func := "copestone/copestonelaw02.StonePick", spec := "stonePick", unfollowed := true, recurses := true, apart := false, narrowed := true }
def StonePickUptoSaid : Prop := stonePickUptoRow.holds Try.pinned (OpenSpec.upto stonePickSpec)

/-- 'copestonelaw02.StoneGrain', WHERE WHAT IT READS IS OF BULK AT MOST 1048576: true; the input reads as it did. -/
def stoneGrainUptoRow : OpenClaim := { program := "ytljmhejljpfaiaa", sum := "de2d6cdad7e20be6084b0c440c17afad52faeb46db43503d0e41a4e1e8e35cc3", func := "copestone/copestonelaw02.StoneGrain", spec := "stoneGrain", unfollowed := true, recurses := true, apart := false, narrowed := true }
def StoneGrainUptoSaid : Prop := stoneGrainUptoRow.holds Try.pinned (OpenSpec.upto stoneGrainSpec)

end Rows
end Go.Proofs.Ytljmhejljpfaiaa
