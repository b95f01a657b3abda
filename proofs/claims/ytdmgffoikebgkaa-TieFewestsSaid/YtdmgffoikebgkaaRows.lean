/-
  No cell of these rows narrows 'for every input' (looked for: loops, veiled, ifaces, maps, wideKeys, modest, calm, conditions, laid).
  DERIVED. THE GIVEN ROWS OF THIS SEAT. 20 by the template 'for every input the law returns true; each argument reads behind the call as it read before'; 0 by the template 'total and deterministic' (their statements: YtdmgffoikebgkaaTotals.lean).
  GIVEN WITH THE SEED: the statements are not yours to turn. If you find one false, say at which input.
  Laid BY PROGRAM, IN A SANDBOX (cutbox-rows.mjs): the forced cells as the released guide's own fill.sh prints them over the translation 1548385ccd62a5b7… (all of the seat's roots in one cut). By AI agents, Wed Nov 11 2026. No macro, syntax, notation, axiom, sorry.
-/
import Derived.Test.YtdmgffoikebgkaaChecked
import GoSem.Claim
import GoSem.ClaimJoined
import GoSem.ClaimMapViews
import Derived.JoinedTies
import Derived.KernelRfl
namespace Go.Proofs.Ytdmgffoikebgkaa
/- THE CELL 'sum', in the pinned program and in every row, IS THE sha256 OF THE DUMP (.gsa) THAT YtdmgffoikebgkaaProg.lean LOADS. Nothing in Lean hashes anything: it is a label: what it is worth is what the hold of that sum in a sandbox is worth. -/
noncomputable def Try.pinned : Pinned := { name := "ytdmgffoikebgkaa", sum := "1548385ccd62a5b7f0c6781231ece455ecf71e205cda580920c8a1d27f6bdbaa", checked := Try.checked }
namespace Rows
def none {H : Type} : Left H := { results := [], args := [] }

/-- 'griffelaw03.TieMakes': WHATEVER THE INPUT: true; the input reads as it did. -/
def tieMakesSpec : ChangeSpec := { name := "tieMakes", fn := fun _ => fun
  | [d1, d2] => { results := [.lit (.bool true)], args := [d1, d2] }
  | _ => none }
def tieMakesRow : OpenClaim := { program := "ytdmgffoikebgkaa", sum := "1548385ccd62a5b7f0c6781231ece455ecf71e205cda580920c8a1d27f6bdbaa", func := "griffe/griffelaw03.TieMakes", spec := "tieMakes", inPlace := ["internal/abi.NoEscape", "internal/bytealg.CountString", "internal/bytealg.IndexByteString", "internal/bytealg.IndexString"], unfollowed := true, recurses := true, named := ["internal/bytealg.MaxLen"], plainKeys := false, apart := false }
def TieMakesSaid : Prop := tieMakesRow.holds Try.pinned (OpenSpec.ofChange tieMakesSpec)

/-- ITS FALSE NEIGHBOUR: 'it returns false'. Refute it at one input. -/
def tieMakesWrong : ChangeSpec := { name := "tieMakes", fn := fun _ => fun
  | [d1, d2] => { results := [.lit (.bool false)], args := [d1, d2] }
  | _ => none }
def TieMakesWrongFalsely : Prop := tieMakesRow.holds Try.pinned (OpenSpec.ofChange tieMakesWrong)

/-- 'griffelaw03.TieBesides': WHATEVER THE INPUT: true; the input reads as it did. -/
def tieBesidesSpec : ChangeSpec := { name := "tieBesides", fn := fun _ => fun
  | [d1, d2] => { results := [.lit (.bool true)], args := [d1, d2] }
  | _ => none }
def tieBesidesRow : OpenClaim := { program := "ytdmgffoikebgkaa", sum := "1548385ccd62a5b7f0c6781231ece455ecf71e205cda580920c8a1d27f6bdbaa", func := "griffe/griffelaw03.TieBesides", spec := "tieBesides", inPlace := ["internal/abi.NoEscape", "internal/bytealg.CountString", "internal/bytealg.IndexByteString", "internal/bytealg.IndexString"], unfollowed := true, recurses := true, named := ["internal/bytealg.MaxLen"], plainKeys := false, apart := false }
def TieBesidesSaid : Prop := tieBesidesRow.holds Try.pinned (OpenSpec.ofChange tieBesidesSpec)

/-- ITS FALSE NEIGHBOUR: 'it returns false'. Refute it at one input. -/
def tieBesidesWrong : ChangeSpec := { name := "tieBesides", fn := fun _ => fun
  | [d1, d2] => { results := [.lit (.bool false)], args := [d1, d2] }
  | _ => none }
def TieBesidesWrongFalsely : Prop := tieBesidesRow.holds Try.pinned (OpenSpec.ofChange tieBesidesWrong)

/-- 'griffelaw03.TieWeaves': WHATEVER THE INPUT: true; the input reads as it did. -/
def tieWeavesSpec : ChangeSpec := { name := "tieWeaves", fn := fun _ => fun
  | [d1, d2, d3] => { results := [.lit (.bool true)], args := [d1, d2, d3] }
  | _ => none }
def tieWeavesRow : OpenClaim := { program := "ytdmgffoikebgkaa", sum := "1548385ccd62a5b7f0c6781231ece455ecf71e205cda580920c8a1d27f6bdbaa", func := "griffe/griffelaw03.TieWeaves", spec := "tieWeaves", inPlace := ["internal/abi.NoEscape", "internal/bytealg.CountString", "internal/bytealg.IndexByteString", "internal/bytealg.IndexString"], unfollowed := true, recurses := true, named := ["internal/bytealg.MaxLen"], plainKeys := false, apart := false }
def TieWeavesSaid : Prop := tieWeavesRow.holds Try.pinned (OpenSpec.ofChange tieWeavesSpec)

/-- ITS FALSE NEIGHBOUR: 'it returns false'. Refute it at one input. -/
def tieWeavesWrong : ChangeSpec := { name := "tieWeaves", fn := fun _ => fun
  | [d1, d2, d3] => { results := [.lit (.bool false)], args := [d1, d2, d3] }
  | _ => none }
def TieWeavesWrongFalsely : Prop := tieWeavesRow.holds Try.pinned (OpenSpec.ofChange tieWeavesWrong)

/-- 'griffelaw03.TieUnweaves': WHATEVER THE INPUT: true; the input reads as it did. -/
def tieUnweavesSpec : ChangeSpec := { name := "tieUnweaves", fn := fun _ => fun
  | [d1, d2] => { results := [.lit (.bool true)], args := [d1, d2] }
  | _ => none }
def tieUnweavesRow : OpenClaim := { program := "ytdmgffoikebgkaa", sum := "1548385ccd62a5b7f0c6781231ece455ecf71e205cda580920c8a1d27f6bdbaa", func := "griffe/griffelaw03.TieUnweaves", spec := "tieUnweaves", inPlace := ["internal/abi.NoEscape", "internal/bytealg.CountString", "internal/bytealg.IndexByteString", "internal/bytealg.IndexString"], unfollowed := true, recurses := true, named := ["internal/bytealg.MaxLen"], plainKeys := false, apart := false }
def TieUnweavesSaid : Prop := tieUnweavesRow.holds Try.pinned (OpenSpec.ofChange tieUnweavesSpec)

/-- ITS FALSE NEIGHBOUR: 'it returns false'. Refute it at one input. -/
def tieUnweavesWrong : ChangeSpec := { name := "tieUnweaves", fn := fun _ => fun
  | [d1, d2] => { results := [.lit (.bool false)], args := [d1, d2] }
  | _ => none }
def TieUnweavesWrongFalsely : Prop := tieUnweavesRow.holds Try.pinned (OpenSpec.ofChange tieUnweavesWrong)

/-- 'griffelaw03.TieFewests': WHATEVER THE INPUT: true; the input reads as it did. -/
def tieFewestsSpec : ChangeSpec := { name := "tieFewests", fn := fun _ => fun
  | [d] => { results := [.lit (.bool true)], args := [d] }
  | _ => none }
def tieFewestsRow : OpenClaim := { program := "ytdmgffoikebgkaa", sum := "1548385ccd62a5b7f0c6781231ece455ecf71e205cda580920c8a1d27f6bdbaa", func := "griffe/griffelaw03.TieFewests", spec := "tieFewests", inPlace := ["internal/abi.NoEscape", "internal/bytealg.CountString", "internal/bytealg.IndexByteString", "internal/bytealg.IndexString"], unfollowed := true, recurses := true, named := ["internal/bytealg.MaxLen"], plainKeys := false, apart := false }
def TieFewestsSaid : Prop := tieFewestsRow.holds Try.pinned (OpenSpec.ofChange tieFewestsSpec)

/-- ITS FALSE NEIGHBOUR: 'it returns false'. Refute it at one input. -/
def tieFewestsWrong : ChangeSpec := { name := "tieFewests", fn := fun _ => fun
  | [d] => { results := [.lit (.bool false)], args := [d] }
  | _ => none }
def TieFewestsWrongFalsely : Prop := tieFewestsRow.holds Try.pinned (OpenSpec.ofChange tieFewestsWrong)

/-- 'griffelaw03.TieWorsts': WHATEVER THE INPUT: true; the input reads as it did. -/
def tieWorstsSpec : ChangeSpec := { name := "tieWorsts", fn := fun _ => fun
  | [d1, d2] => { results := [.lit (.bool true)], args := [d1, d2] }
  | _ => none }
def tieWorstsRow : OpenClaim := { program := "ytdmgffoikebgkaa", sum := "1548385ccd62a5b7f0c6781231ece455ecf71e205cda580920c8a1d27f6bdbaa", func := "griffe/griffelaw03.TieWorsts", spec := "tieWorsts", inPlace := ["internal/abi.NoEscape", "internal/bytealg.CountString", "internal/bytealg.IndexByteString", "internal/bytealg.IndexString"], unfollowed := true, recurses := true, named := ["internal/bytealg.MaxLen"], plainKeys := false, apart := false }
def TieWorstsSaid : Prop := tieWorstsRow.holds Try.pinned (OpenSpec.ofChange tieWorstsSpec)

/-- ITS FALSE NEIGHBOUR: 'it returns false'. Refute it at one input. -/
def tieWorstsWrong : ChangeSpec := { name := "tieWorsts", fn := fun _ => fun
  | [d1, d2] => { results := [.lit (.bool false)], args := [d1, d2] }
  | _ => none }
def TieWorstsWrongFalsely : Prop := tieWorstsRow.holds Try.pinned (OpenSpec.ofChange tieWorstsWrong)

/-- 'griffelaw03.TieThreads': WHATEVER THE INPUT: true; the input reads as it did. -/
def tieThreadsSpec : ChangeSpec := { name := "tieThreads", fn := fun _ => fun
  | [d1, d2] => { results := [.lit (.bool true)], args := [d1, d2] }
  | _ => none }
def tieThreadsRow : OpenClaim := { program := "ytdmgffoikebgkaa", sum := "1548385ccd62a5b7f0c6781231ece455ecf71e205cda580920c8a1d27f6bdbaa", func := "griffe/griffelaw03.TieThreads", spec := "tieThreads", inPlace := ["internal/abi.NoEscape", "internal/bytealg.CountString", "internal/bytealg.IndexByteString", "internal/bytealg.IndexString"], unfollowed := true, recurses := true, named := ["internal/bytealg.MaxLen"], plainKeys := false, apart := false }
def TieThreadsSaid : Prop := tieThreadsRow.holds Try.pinned (OpenSpec.ofChange tieThreadsSpec)

/-- ITS FALSE NEIGHBOUR: 'it returns false'. Refute it at one input. -/
def tieThreadsWrong : ChangeSpec := { name := "tieThreads", fn := fun _ => fun
  | [d1, d2] => { results := [.lit (.bool false)], args := [d1, d2] }
  | _ => none }
def TieThreadsWrongFalsely : Prop := tieThreadsRow.holds Try.pinned (OpenSpec.ofChange tieThreadsWrong)

/-- 'griffelaw03.TieFew': WHATEVER THE INPUT: true; the input reads as it did. -/
def tieFewSpec : ChangeSpec := { name := "tieFew", fn := fun _ => fun
  | [d1, d2] => { results := [.lit (.bool true)], args := [d1, d2] }
  | _ => none }
def tieFewRow : OpenClaim := { program := "ytdmgffoikebgkaa", sum := "1548385ccd62a5b7f0c6781231ece455ecf71e205cda580920c8a1d27f6bdbaa", func := "griffe/griffelaw03.TieFew", spec := "tieFew", inPlace := ["internal/abi.NoEscape", "internal/bytealg.CountString", "internal/bytealg.IndexByteString", "internal/bytealg.IndexString"], unfollowed := true, recurses := true, named := ["internal/bytealg.MaxLen"], plainKeys := false, apart := false }
def TieFewSaid : Prop := tieFewRow.holds Try.pinned (OpenSpec.ofChange tieFewSpec)

/-- ITS FALSE NEIGHBOUR: 'it returns false'. Refute it at one input. -/
def tieFewWrong : ChangeSpec := { name := "tieFew", fn := fun _ => fun
  | [d1, d2] => { results := [.lit (.bool false)], args := [d1, d2] }
  | _ => none }
def TieFewWrongFalsely : Prop := tieFewRow.holds Try.pinned (OpenSpec.ofChange tieFewWrong)

/-- 'griffelaw03.TieBound': WHATEVER THE INPUT: true; the input reads as it did. -/
def tieBoundSpec : ChangeSpec := { name := "tieBound", fn := fun _ => fun
  | [d1, d2] => { results := [.lit (.bool true)], args := [d1, d2] }
  | _ => none }
def tieBoundRow : OpenClaim := { program := "ytdmgffoikebgkaa", sum := "1548385ccd62a5b7f0c6781231ece455ecf71e205cda580920c8a1d27f6bdbaa", func := "griffe/griffelaw03.TieBound", spec := "tieBound", inPlace := ["internal/abi.NoEscape", "internal/bytealg.CountString", "internal/bytealg.IndexByteString", "internal/bytealg.IndexString"], unfollowed := true, recurses := true, named := ["internal/bytealg.MaxLen"], plainKeys := false, apart := false }
def TieBoundSaid : Prop := tieBoundRow.holds Try.pinned (OpenSpec.ofChange tieBoundSpec)

/-- ITS FALSE NEIGHBOUR: 'it returns false'. Refute it at one input. -/
def tieBoundWrong : ChangeSpec := { name := "tieBound", fn := fun _ => fun
  | [d1, d2] => { results := [.lit (.bool false)], args := [d1, d2] }
  | _ => none }
def TieBoundWrongFalsely : Prop := tieBoundRow.holds Try.pinned (OpenSpec.ofChange tieBoundWrong)

/-- 'griffelaw03.TieEdges': WHATEVER THE INPUT: true; the input reads as it did. -/
def tieEdgesSpec : ChangeSpec := { name := "tieEdges", fn := fun _ => fun
  | [d1, d2] => { results := [.lit (.bool true)], args := [d1, d2] }
  | _ => none }
def tieEdgesRow : OpenClaim := { program := "ytdmgffoikebgkaa", sum := "1548385ccd62a5b7f0c6781231ece455ecf71e205cda580920c8a1d27f6bdbaa", func := "griffe/griffelaw03.TieEdges", spec := "tieEdges", inPlace := ["internal/abi.NoEscape", "internal/bytealg.CountString", "internal/bytealg.IndexByteString", "internal/bytealg.IndexString"], unfollowed := true, recurses := true, named := ["internal/bytealg.MaxLen"], plainKeys := false, apart := false }
def TieEdgesSaid : Prop := tieEdgesRow.holds Try.pinned (OpenSpec.ofChange tieEdgesSpec)

/-- ITS FALSE NEIGHBOUR: 'it returns false'. Refute it at one input. -/
def tieEdgesWrong : ChangeSpec := { name := "tieEdges", fn := fun _ => fun
  | [d1, d2] => { results := [.lit (.bool false)], args := [d1, d2] }
  | _ => none }
def TieEdgesWrongFalsely : Prop := tieEdgesRow.holds Try.pinned (OpenSpec.ofChange tieEdgesWrong)

/-- 'griffelaw03.TieGroups': WHATEVER THE INPUT: true; the input reads as it did. -/
def tieGroupsSpec : ChangeSpec := { name := "tieGroups", fn := fun _ => fun
  | [d1, d2] => { results := [.lit (.bool true)], args := [d1, d2] }
  | _ => none }
def tieGroupsRow : OpenClaim := { program := "ytdmgffoikebgkaa", sum := "1548385ccd62a5b7f0c6781231ece455ecf71e205cda580920c8a1d27f6bdbaa", func := "griffe/griffelaw03.TieGroups", spec := "tieGroups", inPlace := ["internal/abi.NoEscape", "internal/bytealg.CountString", "internal/bytealg.IndexByteString", "internal/bytealg.IndexString"], unfollowed := true, recurses := true, named := ["internal/bytealg.MaxLen"], plainKeys := false, apart := false }
def TieGroupsSaid : Prop := tieGroupsRow.holds Try.pinned (OpenSpec.ofChange tieGroupsSpec)

/-- ITS FALSE NEIGHBOUR: 'it returns false'. Refute it at one input. -/
def tieGroupsWrong : ChangeSpec := { name := "tieGroups", fn := fun _ => fun
  | [d1, d2] => { results := [.lit (.bool false)], args := [d1, d2] }
  | _ => none }
def TieGroupsWrongFalsely : Prop := tieGroupsRow.holds Try.pinned (OpenSpec.ofChange tieGroupsWrong)

/-- 'griffetop.TopBound': WHATEVER THE INPUT: true; the input reads as it did. -/
def topBoundSpec : ChangeSpec := { name := "topBound", fn := fun _ => fun
  | [d1, d2, d3] => { results := [.lit (.bool true)], args := [d1, d2, d3] }
  | _ => none }
def topBoundRow : OpenClaim := { program := "ytdmgffoikebgkaa", sum := "1548385ccd62a5b7f0c6781231ece455ecf71e205cda580920c8a1d27f6bdbaa", func := "griffe/griffetop.TopBound", spec := "topBound", unfollowed := true, recurses := true, plainKeys := false, apart := false }
def TopBoundSaid : Prop := topBoundRow.holds Try.pinned (OpenSpec.ofChange topBoundSpec)

/-- ITS FALSE NEIGHBOUR: 'it returns false'. Refute it at one input. -/
def topBoundWrong : ChangeSpec := { name := "topBound", fn := fun _ => fun
  | [d1, d2, d3] => { results := [.lit (.bool false)], args := [d1, d2, d3] }
  | _ => none }
def TopBoundWrongFalsely : Prop := topBoundRow.holds Try.pinned (OpenSpec.ofChange topBoundWrong)

/-- 'griffetop.TopTurned': WHATEVER THE INPUT: true; the input reads as it did. -/
def topTurnedSpec : ChangeSpec := { name := "topTurned", fn := fun _ => fun
  | [d1, d2] => { results := [.lit (.bool true)], args := [d1, d2] }
  | _ => none }
def topTurnedRow : OpenClaim := { program := "ytdmgffoikebgkaa", sum := "1548385ccd62a5b7f0c6781231ece455ecf71e205cda580920c8a1d27f6bdbaa", func := "griffe/griffetop.TopTurned", spec := "topTurned", unfollowed := true, recurses := true, plainKeys := false, apart := false }
def TopTurnedSaid : Prop := topTurnedRow.holds Try.pinned (OpenSpec.ofChange topTurnedSpec)

/-- ITS FALSE NEIGHBOUR: 'it returns false'. Refute it at one input. -/
def topTurnedWrong : ChangeSpec := { name := "topTurned", fn := fun _ => fun
  | [d1, d2] => { results := [.lit (.bool false)], args := [d1, d2] }
  | _ => none }
def TopTurnedWrongFalsely : Prop := topTurnedRow.holds Try.pinned (OpenSpec.ofChange topTurnedWrong)

/-- 'griffetop.TopRounds': WHATEVER THE INPUT: true; the input reads as it did. -/
def topRoundsSpec : ChangeSpec := { name := "topRounds", fn := fun _ => fun
  | [d1, d2, d3] => { results := [.lit (.bool true)], args := [d1, d2, d3] }
  | _ => none }
def topRoundsRow : OpenClaim := { program := "ytdmgffoikebgkaa", sum := "1548385ccd62a5b7f0c6781231ece455ecf71e205cda580920c8a1d27f6bdbaa", func := "griffe/griffetop.TopRounds", spec := "topRounds", unfollowed := true, recurses := true, plainKeys := false, apart := false }
def TopRoundsSaid : Prop := topRoundsRow.holds Try.pinned (OpenSpec.ofChange topRoundsSpec)

/-- ITS FALSE NEIGHBOUR: 'it returns false'. Refute it at one input. -/
def topRoundsWrong : ChangeSpec := { name := "topRounds", fn := fun _ => fun
  | [d1, d2, d3] => { results := [.lit (.bool false)], args := [d1, d2, d3] }
  | _ => none }
def TopRoundsWrongFalsely : Prop := topRoundsRow.holds Try.pinned (OpenSpec.ofChange topRoundsWrong)

/-- 'griffetop.TopPunched': WHATEVER THE INPUT: true; the input reads as it did. -/
def topPunchedSpec : ChangeSpec := { name := "topPunched", fn := fun _ => fun
  | [d] => { results := [.lit (.bool true)], args := [d] }
  | _ => none }
def topPunchedRow : OpenClaim := { program := "ytdmgffoikebgkaa", sum := "1548385ccd62a5b7f0c6781231ece455ecf71e205cda580920c8a1d27f6bdbaa", func := "griffe/griffetop.TopPunched", spec := "topPunched", unfollowed := true, recurses := true, plainKeys := false, apart := false }
def TopPunchedSaid : Prop := topPunchedRow.holds Try.pinned (OpenSpec.ofChange topPunchedSpec)

/-- ITS FALSE NEIGHBOUR: 'it returns false'. Refute it at one input. -/
def topPunchedWrong : ChangeSpec := { name := "topPunched", fn := fun _ => fun
  | [d] => { results := [.lit (.bool false)], args := [d] }
  | _ => none }
def TopPunchedWrongFalsely : Prop := topPunchedRow.holds Try.pinned (OpenSpec.ofChange topPunchedWrong)

/-- 'griffetop.TopTurnedOver': WHATEVER THE INPUT: true; the input reads as it did. -/
def topTurnedOverSpec : ChangeSpec := { name := "topTurnedOver", fn := fun _ => fun
  | [d] => { results := [.lit (.bool true)], args := [d] }
  | _ => none }
def topTurnedOverRow : OpenClaim := { program := "ytdmgffoikebgkaa", sum := "1548385ccd62a5b7f0c6781231ece455ecf71e205cda580920c8a1d27f6bdbaa", func := "griffe/griffetop.TopTurnedOver", spec := "topTurnedOver", unfollowed := true, recurses := true, plainKeys := false, apart := false }
def TopTurnedOverSaid : Prop := topTurnedOverRow.holds Try.pinned (OpenSpec.ofChange topTurnedOverSpec)

/-- ITS FALSE NEIGHBOUR: 'it returns false'. Refute it at one input. -/
def topTurnedOverWrong : ChangeSpec := { name := "topTurnedOver", fn := fun _ => fun
  | [d] => { results := [.lit (.bool false)], args := [d] }
  | _ => none }
def TopTurnedOverWrongFalsely : Prop := topTurnedOverRow.holds Try.pinned (OpenSpec.ofChange topTurnedOverWrong)

/-- 'griffetop.TopBoundCloth': WHATEVER THE INPUT: true; the input reads as it did. -/
def topBoundClothSpec : ChangeSpec := { name := "topBoundCloth", fn := fun _ => fun
  | [d1, d2] => { results := [.lit (.bool true)], args := [d1, d2] }
  | _ => none }
def topBoundClothRow : OpenClaim := { program := "ytdmgffoikebgkaa", sum := "1548385ccd62a5b7f0c6781231ece455ecf71e205cda580920c8a1d27f6bdbaa", func := "griffe/griffetop.TopBoundCloth", spec := "topBoundCloth", inPlace := ["internal/bytealg.CountString", "internal/bytealg.IndexByteString", "internal/bytealg.IndexString"], unfollowed := true, recurses := true, named := ["internal/bytealg.MaxLen"], plainKeys := false, apart := false }
def TopBoundClothSaid : Prop := topBoundClothRow.holds Try.pinned (OpenSpec.ofChange topBoundClothSpec)

/-- ITS FALSE NEIGHBOUR: 'it returns false'. Refute it at one input. -/
def topBoundClothWrong : ChangeSpec := { name := "topBoundCloth", fn := fun _ => fun
  | [d1, d2] => { results := [.lit (.bool false)], args := [d1, d2] }
  | _ => none }
def TopBoundClothWrongFalsely : Prop := topBoundClothRow.holds Try.pinned (OpenSpec.ofChange topBoundClothWrong)

/-- 'griffetop.TopFewHooks': WHATEVER THE INPUT: true; the input reads as it did. -/
def topFewHooksSpec : ChangeSpec := { name := "topFewHooks", fn := fun _ => fun
  | [d] => { results := [.lit (.bool true)], args := [d] }
  | _ => none }
def topFewHooksRow : OpenClaim := { program := "ytdmgffoikebgkaa", sum := "1548385ccd62a5b7f0c6781231ece455ecf71e205cda580920c8a1d27f6bdbaa", func := "griffe/griffetop.TopFewHooks", spec := "topFewHooks", inPlace := ["internal/abi.NoEscape"], unfollowed := true, recurses := true, plainKeys := false, apart := false }
def TopFewHooksSaid : Prop := topFewHooksRow.holds Try.pinned (OpenSpec.ofChange topFewHooksSpec)

/-- ITS FALSE NEIGHBOUR: 'it returns false'. Refute it at one input. -/
def topFewHooksWrong : ChangeSpec := { name := "topFewHooks", fn := fun _ => fun
  | [d] => { results := [.lit (.bool false)], args := [d] }
  | _ => none }
def TopFewHooksWrongFalsely : Prop := topFewHooksRow.holds Try.pinned (OpenSpec.ofChange topFewHooksWrong)

/-- 'griffetop.TopCourseCloth': WHATEVER THE INPUT: true; the input reads as it did. -/
def topCourseClothSpec : ChangeSpec := { name := "topCourseCloth", fn := fun _ => fun
  | [d1, d2] => { results := [.lit (.bool true)], args := [d1, d2] }
  | _ => none }
def topCourseClothRow : OpenClaim := { program := "ytdmgffoikebgkaa", sum := "1548385ccd62a5b7f0c6781231ece455ecf71e205cda580920c8a1d27f6bdbaa", func := "griffe/griffetop.TopCourseCloth", spec := "topCourseCloth", unfollowed := true, recurses := true, plainKeys := false, apart := false }
def TopCourseClothSaid : Prop := topCourseClothRow.holds Try.pinned (OpenSpec.ofChange topCourseClothSpec)

/-- ITS FALSE NEIGHBOUR: 'it returns false'. Refute it at one input. -/
def topCourseClothWrong : ChangeSpec := { name := "topCourseCloth", fn := fun _ => fun
  | [d1, d2] => { results := [.lit (.bool false)], args := [d1, d2] }
  | _ => none }
def TopCourseClothWrongFalsely : Prop := topCourseClothRow.holds Try.pinned (OpenSpec.ofChange topCourseClothWrong)

/-- 'griffetop.TopMirrored': WHATEVER THE INPUT: true; the input reads as it did. -/
def topMirroredSpec : ChangeSpec := { name := "topMirrored", fn := fun _ => fun
  | [d1, d2] => { results := [.lit (.bool true)], args := [d1, d2] }
  | _ => none }
def topMirroredRow : OpenClaim := { program := "ytdmgffoikebgkaa", sum := "1548385ccd62a5b7f0c6781231ece455ecf71e205cda580920c8a1d27f6bdbaa", func := "griffe/griffetop.TopMirrored", spec := "topMirrored", inPlace := ["internal/bytealg.CountString", "internal/bytealg.IndexByteString", "internal/bytealg.IndexString"], unfollowed := true, recurses := true, named := ["internal/bytealg.MaxLen"], plainKeys := false, apart := false }
def TopMirroredSaid : Prop := topMirroredRow.holds Try.pinned (OpenSpec.ofChange topMirroredSpec)

/-- ITS FALSE NEIGHBOUR: 'it returns false'. Refute it at one input. -/
def topMirroredWrong : ChangeSpec := { name := "topMirrored", fn := fun _ => fun
  | [d1, d2] => { results := [.lit (.bool false)], args := [d1, d2] }
  | _ => none }
def TopMirroredWrongFalsely : Prop := topMirroredRow.holds Try.pinned (OpenSpec.ofChange topMirroredWrong)

/- THE SECOND FORM. 'bulk': how many values and letters a reading holds, each counted each time it is reached (what is shared counts as often as it is met; a slice's spare places count too). A statement '..UptoSaid' is the law's where the arguments, and the package variables that the reading takes, are together of bulk at most 1048576: NARROWER than '..Said'. Prove '..Said' where nothing that the law and all that it calls make is longer than what came in: it says more and counts as full. Else prove '..UptoSaid'. A law counts once. -/
mutual
def uptoBulk {H : Type} : DataW H → Nat
  | .lit (.string bytes) => bytes.length + 1
  | .lit _ => 1
  | .nil => 1
  | .ptr d => uptoBulk d + 1
  | .slice elems spare => uptoBulkAll elems + uptoBulkAll spare + 1
  | .agg parts => uptoBulkAll parts + 1
  | .iface _ d => uptoBulk d + 1
  | .map entries => uptoBulkEntries entries + 1
  | .held _ => 1
def uptoBulkAll {H : Type} : List (DataW H) → Nat
  | [] => 0
  | d :: r => uptoBulk d + uptoBulkAll r
def uptoBulkEntries {H : Type} : List (Lit × DataW H) → Nat
  | [] => 0
  | x :: r => uptoBulkEntry x + uptoBulkEntries r
def uptoBulkEntry {H : Type} : Lit × DataW H → Nat
  | (.string bytes, d) => bytes.length + uptoBulk d + 1
  | (_, d) => uptoBulk d + 1
 end
def uptoSmall : (H : Type) → List (DataW H) → Bool := fun _ ds => decide (uptoBulkAll ds ≤ 1048576)
def OpenSpec.upto (s : _root_.Go.ChangeSpec) : _root_.Go.OpenSpec := { _root_.Go.OpenSpec.ofChange s with cond := some uptoSmall }

/-- 'griffelaw03.TieMakes', WHERE WHAT IT READS IS OF BULK AT MOST 1048576: true; the input reads as it did. -/
def tieMakesUptoRow : OpenClaim := { program := "ytdmgffoikebgkaa", sum := "1548385ccd62a5b7f0c6781231ece455ecf71e205cda580920c8a1d27f6bdbaa", func := "griffe/griffelaw03.TieMakes", spec := "tieMakes", inPlace := ["internal/abi.NoEscape", "internal/bytealg.CountString", "internal/bytealg.IndexByteString", "internal/bytealg.IndexString"], unfollowed := true, recurses := true, named := ["internal/bytealg.MaxLen"], plainKeys := false, apart := false, narrowed := true }
def TieMakesUptoSaid : Prop := tieMakesUptoRow.holds Try.pinned (OpenSpec.upto tieMakesSpec)

/-- 'griffelaw03.TieBesides', WHERE WHAT IT READS IS OF BULK AT MOST 1048576: true; the input reads as it did. -/
def tieBesidesUptoRow : OpenClaim := { program := "ytdmgffoikebgkaa", sum := "1548385ccd62a5b7f0c6781231ece455ecf71e205cda580920c8a1d27f6bdbaa", func := "griffe/griffelaw03.TieBesides", spec := "tieBesides", inPlace := ["internal/abi.NoEscape", "internal/bytealg.CountString", "internal/bytealg.IndexByteString", "internal/bytealg.IndexString"], unfollowed := true, recurses := true, named := ["internal/bytealg.MaxLen"], plainKeys := false, apart := false, narrowed := true }
def TieBesidesUptoSaid : Prop := tieBesidesUptoRow.holds Try.pinned (OpenSpec.upto tieBesidesSpec)

/-- 'griffelaw03.TieWeaves', WHERE WHAT IT READS IS OF BULK AT MOST 1048576: true; the input reads as it did. -/
def tieWeavesUptoRow : OpenClaim := { program := "ytdmgffoikebgkaa", sum := "1548385ccd62a5b7f0c6781231ece455ecf71e205cda580920c8a1d27f6bdbaa", func := "griffe/griffelaw03.TieWeaves", spec := "tieWeaves", inPlace := ["internal/abi.NoEscape", "internal/bytealg.CountString", "internal/bytealg.IndexByteString", "internal/bytealg.IndexString"], unfollowed := true, recurses := true, named := ["internal/bytealg.MaxLen"], plainKeys := false, apart := false, narrowed := true }
def TieWeavesUptoSaid : Prop := tieWeavesUptoRow.holds Try.pinned (OpenSpec.upto tieWeavesSpec)

/-- 'griffelaw03.TieUnweaves', WHERE WHAT IT READS IS OF BULK AT MOST 1048576: true; the input reads as it did. -/
def tieUnweavesUptoRow : OpenClaim := { program := "ytdmgffoikebgkaa", sum := "1548385ccd62a5b7f0c6781231ece455ecf71e205cda580920c8a1d27f6bdbaa", func := "griffe/griffelaw03.TieUnweaves", spec := "tieUnweaves", inPlace := ["internal/abi.NoEscape", "internal/bytealg.CountString", "internal/bytealg.IndexByteString", "internal/bytealg.IndexString"], unfollowed := true, recurses := true, named := ["internal/bytealg.MaxLen"], plainKeys := false, apart := false, narrowed := true }
def TieUnweavesUptoSaid : Prop := tieUnweavesUptoRow.holds Try.pinned (OpenSpec.upto tieUnweavesSpec)

/-- 'griffelaw03.TieFewests', WHERE WHAT IT READS IS OF BULK AT MOST 1048576: true; the input reads as it did. -/
def tieFewestsUptoRow : OpenClaim := { program := "ytdmgffoikebgkaa", sum := "1548385ccd62a5b7f0c6781231ece455ecf71e205cda580920c8a1d27f6bdbaa", func := "griffe/griffelaw03.TieFewests", spec := "tieFewests", inPlace := ["internal/abi.NoEscape", "internal/bytealg.CountString", "internal/bytealg.IndexByteString", "internal/bytealg.IndexString"], unfollowed := true, recurses := true, named := ["internal/bytealg.MaxLen"], plainKeys := false, apart := false, narrowed := true }
def TieFewestsUptoSaid : Prop := tieFewestsUptoRow.holds Try.pinned (OpenSpec.upto tieFewestsSpec)

/-- 'griffelaw03.TieWorsts', WHERE WHAT IT READS IS OF BULK AT MOST 1048576: true; the input reads as it did. -/
def tieWorstsUptoRow : OpenClaim := { program := "ytdmgffoikebgkaa", sum := "1548385ccd62a5b7f0c6781231ece455ecf71e205cda580920c8a1d27f6bdbaa", func := "griffe/griffelaw03.TieWorsts", spec := "tieWorsts", inPlace := ["internal/abi.NoEscape", "internal/bytealg.CountString", "internal/bytealg.IndexByteString", "internal/bytealg.IndexString"], unfollowed := true, recurses := true, named := ["internal/bytealg.MaxLen"], plainKeys := false, apart := false, narrowed := true }
def TieWorstsUptoSaid : Prop := tieWorstsUptoRow.holds Try.pinned (OpenSpec.upto tieWorstsSpec)

/-- 'griffelaw03.TieThreads', WHERE WHAT IT READS IS OF BULK AT MOST 1048576: true; the input reads as it did. -/
def tieThreadsUptoRow : OpenClaim := { program := "ytdmgffoikebgkaa", sum := "1548385ccd62a5b7f0c6781231ece455ecf71e205cda580920c8a1d27f6bdbaa", func := "griffe/griffelaw03.TieThreads", spec := "tieThreads", inPlace := ["internal/abi.NoEscape", "internal/bytealg.CountString", "internal/bytealg.IndexByteString", "internal/bytealg.IndexString"], unfollowed := true, recurses := true, named := ["internal/bytealg.MaxLen"], plainKeys := false, apart := false, narrowed := true }
def TieThreadsUptoSaid : Prop := tieThreadsUptoRow.holds Try.pinned (OpenSpec.upto tieThreadsSpec)

/-- 'griffelaw03.TieFew', WHERE WHAT IT READS IS OF BULK AT MOST 1048576: true; the input reads as it did. -/
def tieFewUptoRow : OpenClaim := { program := "ytdmgffoikebgkaa", sum := "1548385ccd62a5b7f0c6781231ece455ecf71e205cda580920c8a1d27f6bdbaa", func := "griffe/griffelaw03.TieFew", spec := "tieFew", inPlace := ["internal/abi.NoEscape", "internal/bytealg.CountString", "internal/bytealg.IndexByteString", "internal/bytealg.IndexString"], unfollowed := true, recurses := true, named := ["internal/bytealg.MaxLen"], plainKeys := false, apart := false, narrowed := true }
def TieFewUptoSaid : Prop := tieFewUptoRow.holds Try.pinned (OpenSpec.upto tieFewSpec)

/-- 'griffelaw03.TieBound', WHERE WHAT IT READS IS OF BULK AT MOST 1048576: true; the input reads as it did. -/
def tieBoundUptoRow : OpenClaim := { program := "ytdmgffoikebgkaa", sum := "1548385ccd62a5b7f0c6781231ece455ecf71e205cda580920c8a1d27f6bdbaa", func := "griffe/griffelaw03.TieBound", spec := "tieBound", inPlace := ["internal/abi.NoEscape", "internal/bytealg.CountString", "internal/bytealg.IndexByteString", "internal/bytealg.IndexString"], unfollowed := true, recurses := true, named := ["internal/bytealg.MaxLen"], plainKeys := false, apart := false, narrowed := true }
def TieBoundUptoSaid : Prop := tieBoundUptoRow.holds Try.pinned (OpenSpec.upto tieBoundSpec)

/-- 'griffelaw03.TieEdges', WHERE WHAT IT READS IS OF BULK AT MOST 1048576: true; the input reads as it did. -/
def tieEdgesUptoRow : OpenClaim := { program := "ytdmgffoikebgkaa", sum := "1548385ccd62a5b7f0c6781231ece455ecf71e205cda580920c8a1d27f6bdbaa", func := "griffe/griffelaw03.TieEdges", spec := "tieEdges", inPlace := ["internal/abi.NoEscape", "internal/bytealg.CountString", "internal/bytealg.IndexByteString", "internal/bytealg.IndexString"], unfollowed := true, recurses := true, named := ["internal/bytealg.MaxLen"], plainKeys := false, apart := false, narrowed := true }
def TieEdgesUptoSaid : Prop := tieEdgesUptoRow.holds Try.pinned (OpenSpec.upto tieEdgesSpec)

/-- 'griffelaw03.TieGroups', WHERE WHAT IT READS IS OF BULK AT MOST 1048576: true; the input reads as it did. -/
def tieGroupsUptoRow : OpenClaim := { program := "ytdmgffoikebgkaa", sum := "1548385ccd62a5b7f0c6781231ece455ecf71e205cda580920c8a1d27f6bdbaa", func := "griffe/griffelaw03.TieGroups", spec := "tieGroups", inPlace := ["internal/abi.NoEscape", "internal/bytealg.CountString", "internal/bytealg.IndexByteString", "internal/bytealg.IndexString"], unfollowed := true, recurses := true, named := ["internal/bytealg.MaxLen"], plainKeys := false, apart := false, narrowed := true }
def TieGroupsUptoSaid : Prop := tieGroupsUptoRow.holds Try.pinned (OpenSpec.upto tieGroupsSpec)

/-- 'griffetop.TopBound', WHERE WHAT IT READS IS OF BULK AT MOST 1048576: true; the input reads as it did. -/
def topBoundUptoRow : OpenClaim := { program := "ytdmgffoikebgkaa", sum := "1548385ccd62a5b7f0c6781231ece455ecf71e205cda580920c8a1d27f6bdbaa", func := "griffe/griffetop.TopBound", spec := "topBound", unfollowed := true, recurses := true, plainKeys := false, apart := false, narrowed := true }
def TopBoundUptoSaid : Prop := topBoundUptoRow.holds Try.pinned (OpenSpec.upto topBoundSpec)

/-- 'griffetop.TopTurned', WHERE WHAT IT READS IS OF BULK AT MOST 1048576: true; the input reads as it did. -/
def topTurnedUptoRow : OpenClaim := { program := "ytdmgffoikebgkaa", sum := "1548385ccd62a5b7f0c6781231ece455ecf71e205cda580920c8a1d27f6bdbaa", func := "griffe/griffetop.TopTurned", spec := "topTurned", unfollowed := true, recurses := true, plainKeys := false, apart := false, narrowed := true }
def TopTurnedUptoSaid : Prop := topTurnedUptoRow.holds Try.pinned (OpenSpec.upto topTurnedSpec)

/-- 'griffetop.TopRounds', WHERE WHAT IT READS IS OF BULK AT MOST 1048576: true; the input reads as it did. -/
def topRoundsUptoRow : OpenClaim := { program := "ytdmgffoikebgkaa", sum := "1548385ccd62a5b7f0c6781231ece455ecf71e205cda580920c8a1d27f6bdbaa", func := "griffe/griffetop.TopRounds", spec := "topRounds", unfollowed := true, recurses := true, plainKeys := false, apart := false, narrowed := true }
def TopRoundsUptoSaid : Prop := topRoundsUptoRow.holds Try.pinned (OpenSpec.upto topRoundsSpec)

/-- 'griffetop.TopPunched', WHERE WHAT IT READS IS OF BULK AT MOST 1048576: true; the input reads as it did. -/
def topPunchedUptoRow : OpenClaim := { program := "ytdmgffoikebgkaa", sum := "1548385ccd62a5b7f0c6781231ece455ecf71e205cda580920c8a1d27f6bdbaa", func := "griffe/griffetop.TopPunched", spec := "topPunched", unfollowed := true, recurses := true, plainKeys := false, apart := false, narrowed := true }
def TopPunchedUptoSaid : Prop := topPunchedUptoRow.holds Try.pinned (OpenSpec.upto topPunchedSpec)

/-- 'griffetop.TopTurnedOver', WHERE WHAT IT READS IS OF BULK AT MOST 1048576: true; the input reads as it did. -/
def topTurnedOverUptoRow : OpenClaim := { program := "ytdmgffoikebgkaa", sum := "1548385ccd62a5b7f0c6781231ece455ecf71e205cda580920c8a1d27f6bdbaa", func := "griffe/griffetop.TopTurnedOver", spec := "topTurnedOver", unfollowed := true, recurses := true, plainKeys := false, apart := false, narrowed := true }
def TopTurnedOverUptoSaid : Prop := topTurnedOverUptoRow.holds Try.pinned (OpenSpec.upto topTurnedOverSpec)

/-- 'griffetop.TopBoundCloth', WHERE WHAT IT READS IS OF BULK AT MOST 1048576: true; the input reads as it did. -/
def topBoundClothUptoRow : OpenClaim := { program := "ytdmgffoikebgkaa", sum := "1548385ccd62a5b7f0c6781231ece455ecf71e205cda580920c8a1d27f6bdbaa", func := "griffe/griffetop.TopBoundCloth", spec := "topBoundCloth", inPlace := ["internal/bytealg.CountString", "internal/bytealg.IndexByteString", "internal/bytealg.IndexString"], unfollowed := true, recurses := true, named := ["internal/bytealg.MaxLen"], plainKeys := false, apart := false, narrowed := true }
def TopBoundClothUptoSaid : Prop := topBoundClothUptoRow.holds Try.pinned (OpenSpec.upto topBoundClothSpec)

/-- 'griffetop.TopFewHooks', WHERE WHAT IT READS IS OF BULK AT MOST 1048576: true; the input reads as it did. -/
def topFewHooksUptoRow : OpenClaim := { program := "ytdmgffoikebgkaa", sum := "1548385ccd62a5b7f0c6781231ece455ecf71e205cda580920c8a1d27f6bdbaa", func := "griffe/griffetop.TopFewHooks", spec := "topFewHooks", inPlace := ["internal/abi.NoEscape"], unfollowed := true, recurses := true, plainKeys := false, apart := false, narrowed := true }
def TopFewHooksUptoSaid : Prop := topFewHooksUptoRow.holds Try.pinned (OpenSpec.upto topFewHooksSpec)

/-- 'griffetop.TopCourseCloth', WHERE WHAT IT READS IS OF BULK AT MOST 1048576: true; the input reads as it did. -/
def topCourseClothUptoRow : OpenClaim := { program := "ytdmgffoikebgkaa", sum := "1548385ccd62a5b7f0c6781231ece455ecf71e205cda580920c8a1d27f6bdbaa", func := "griffe/griffetop.TopCourseCloth", spec := "topCourseCloth", unfollowed := true, recurses := true, plainKeys := false, apart := false, narrowed := true }
def TopCourseClothUptoSaid : Prop := topCourseClothUptoRow.holds Try.pinned (OpenSpec.upto topCourseClothSpec)

/-- 'griffetop.TopMirrored', WHERE WHAT IT READS IS OF BULK AT MOST 1048576: true; the input reads as it did. -/
def topMirroredUptoRow : OpenClaim := { program := "ytdmgffoikebgkaa", sum := "1548385ccd62a5b7f0c6781231ece455ecf71e205cda580920c8a1d27f6bdbaa", func := "griffe/griffetop.TopMirrored", spec := "topMirrored", inPlace := ["internal/bytealg.CountString", "internal/bytealg.IndexByteString", "internal/bytealg.IndexString"], unfollowed := true, recurses := true, named := ["internal/bytealg.MaxLen"], plainKeys := false, apart := false, narrowed := true }
def TopMirroredUptoSaid : Prop := topMirroredUptoRow.holds Try.pinned (OpenSpec.upto topMirroredSpec)

end Rows
end Go.Proofs.Ytdmgffoikebgkaa
