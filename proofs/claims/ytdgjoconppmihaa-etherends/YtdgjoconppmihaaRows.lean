/-
  No cell of these rows narrows 'for every input' (looked for: loops, veiled, ifaces, maps, wideKeys, modest, calm, conditions, laid).
  DERIVED. THE GIVEN ROWS OF THIS SEAT. 5 by the template 'for every input the law returns true; each argument reads behind the call as it read before'; 0 by the template 'total and deterministic' (their statements: YtdgjoconppmihaaTotals.lean).
  GIVEN WITH THE SEED: the statements are not yours to turn. If you find one false, say at which input.
  Laid BY PROGRAM, IN A SANDBOX (cutbox-rows.mjs): the forced cells as the released guide's own fill.sh prints them over the translation 0fe9c5b2e89f8a88… (all of the seat's roots in one cut). By AI agents, Wed Nov 11 2026. No macro, syntax, notation, axiom, sorry.
-/
import Derived.Test.YtdgjoconppmihaaChecked
import GoSem.Claim
import GoSem.ClaimJoined
import GoSem.ClaimMapViews
import Derived.JoinedTies
import Derived.KernelRfl
namespace Go.Proofs.Ytdgjoconppmihaa
/- THE CELL 'sum', in the pinned program and in every row, IS THE sha256 OF THE DUMP (.gsa) THAT YtdgjoconppmihaaProg.lean LOADS. Nothing in Lean hashes anything: it is a label: what it is worth is what the hold of that sum in a sandbox is worth. -/
noncomputable def Try.pinned : Pinned := { name := "ytdgjoconppmihaa", sum := "0fe9c5b2e89f8a88f0eff7d22bd38ce7379e215178191d7e465879572d611b11", checked := Try.checked }
namespace Rows
def none {H : Type} : Left H := { results := [], args := [] }

/-- 'stevedorelaw07.EtherTells': WHATEVER THE INPUT: true; the input reads as it did. -/
def etherTellsSpec : ChangeSpec := { name := "etherTells", fn := fun _ => fun
  | [d1, d2] => { results := [.lit (.bool true)], args := [d1, d2] }
  | _ => none }
def etherTellsRow : OpenClaim := { program := "ytdgjoconppmihaa", sum := "0fe9c5b2e89f8a88f0eff7d22bd38ce7379e215178191d7e465879572d611b11", func := "stevedore/stevedorelaw07.EtherTells", spec := "etherTells", inPlace := ["internal/abi.NoEscape", "internal/bytealg.MakeNoZero", "internal/bytealg.IndexByteString"], unfollowed := true, recurses := true, apart := false }
def EtherTellsSaid : Prop := etherTellsRow.holds Try.pinned (OpenSpec.ofChange etherTellsSpec)

/-- ITS FALSE NEIGHBOUR: 'it returns false'. Refute it at one input. -/
def etherTellsWrong : ChangeSpec := { name := "etherTells", fn := fun _ => fun
  | [d1, d2] => { results := [.lit (.bool false)], args := [d1, d2] }
  | _ => none }
def EtherTellsWrongFalsely : Prop := etherTellsRow.holds Try.pinned (OpenSpec.ofChange etherTellsWrong)

/-- 'stevedorelaw07.EtherMacs': WHATEVER THE INPUT: true; the input reads as it did. -/
def etherMacsSpec : ChangeSpec := { name := "etherMacs", fn := fun _ => fun
  | [d1, d2, d3] => { results := [.lit (.bool true)], args := [d1, d2, d3] }
  | _ => none }
def etherMacsRow : OpenClaim := { program := "ytdgjoconppmihaa", sum := "0fe9c5b2e89f8a88f0eff7d22bd38ce7379e215178191d7e465879572d611b11", func := "stevedore/stevedorelaw07.EtherMacs", spec := "etherMacs", inPlace := ["internal/abi.NoEscape", "internal/bytealg.MakeNoZero", "internal/bytealg.IndexByteString"], unfollowed := true, recurses := true, apart := false }
def EtherMacsSaid : Prop := etherMacsRow.holds Try.pinned (OpenSpec.ofChange etherMacsSpec)

/-- ITS FALSE NEIGHBOUR: 'it returns false'. Refute it at one input. -/
def etherMacsWrong : ChangeSpec := { name := "etherMacs", fn := fun _ => fun
  | [d1, d2, d3] => { results := [.lit (.bool false)], args := [d1, d2, d3] }
  | _ => none }
def EtherMacsWrongFalsely : Prop := etherMacsRow.holds Try.pinned (OpenSpec.ofChange etherMacsWrong)

/-- 'stevedorelaw07.EtherBack': WHATEVER THE INPUT: true; the input reads as it did. -/
def etherBackSpec : ChangeSpec := { name := "etherBack", fn := fun _ => fun
  | [d1, d2] => { results := [.lit (.bool true)], args := [d1, d2] }
  | _ => none }
def etherBackRow : OpenClaim := { program := "ytdgjoconppmihaa", sum := "0fe9c5b2e89f8a88f0eff7d22bd38ce7379e215178191d7e465879572d611b11", func := "stevedore/stevedorelaw07.EtherBack", spec := "etherBack", inPlace := ["internal/abi.NoEscape", "internal/bytealg.MakeNoZero", "internal/bytealg.IndexByteString"], unfollowed := true, recurses := true, apart := false }
def EtherBackSaid : Prop := etherBackRow.holds Try.pinned (OpenSpec.ofChange etherBackSpec)

/-- ITS FALSE NEIGHBOUR: 'it returns false'. Refute it at one input. -/
def etherBackWrong : ChangeSpec := { name := "etherBack", fn := fun _ => fun
  | [d1, d2] => { results := [.lit (.bool false)], args := [d1, d2] }
  | _ => none }
def EtherBackWrongFalsely : Prop := etherBackRow.holds Try.pinned (OpenSpec.ofChange etherBackWrong)

/-- 'stevedorelaw07.EtherTexts': WHATEVER THE INPUT: true; the input reads as it did. -/
def etherTextsSpec : ChangeSpec := { name := "etherTexts", fn := fun _ => fun
  | [d1, d2, d3, d4] => { results := [.lit (.bool true)], args := [d1, d2, d3, d4] }
  | _ => none }
def etherTextsRow : OpenClaim := { program := "ytdgjoconppmihaa", sum := "0fe9c5b2e89f8a88f0eff7d22bd38ce7379e215178191d7e465879572d611b11", func := "stevedore/stevedorelaw07.EtherTexts", spec := "etherTexts", inPlace := ["internal/abi.NoEscape", "internal/bytealg.MakeNoZero", "internal/bytealg.IndexByteString"], unfollowed := true, recurses := true, apart := false }
def EtherTextsSaid : Prop := etherTextsRow.holds Try.pinned (OpenSpec.ofChange etherTextsSpec)

/-- ITS FALSE NEIGHBOUR: 'it returns false'. Refute it at one input. -/
def etherTextsWrong : ChangeSpec := { name := "etherTexts", fn := fun _ => fun
  | [d1, d2, d3, d4] => { results := [.lit (.bool false)], args := [d1, d2, d3, d4] }
  | _ => none }
def EtherTextsWrongFalsely : Prop := etherTextsRow.holds Try.pinned (OpenSpec.ofChange etherTextsWrong)

/-- 'stevedorelaw07.EtherEnds': WHATEVER THE INPUT: true; the input reads as it did. -/
def etherEndsSpec : ChangeSpec := { name := "etherEnds", fn := fun _ => fun
  | [d1, d2] => { results := [.lit (.bool true)], args := [d1, d2] }
  | _ => none }
def etherEndsRow : OpenClaim := { program := "ytdgjoconppmihaa", sum := "0fe9c5b2e89f8a88f0eff7d22bd38ce7379e215178191d7e465879572d611b11", func := "stevedore/stevedorelaw07.EtherEnds", spec := "etherEnds", inPlace := ["internal/abi.NoEscape", "internal/bytealg.MakeNoZero", "internal/bytealg.IndexByteString"], unfollowed := true, recurses := true, apart := false }
def EtherEndsSaid : Prop := etherEndsRow.holds Try.pinned (OpenSpec.ofChange etherEndsSpec)

/-- ITS FALSE NEIGHBOUR: 'it returns false'. Refute it at one input. -/
def etherEndsWrong : ChangeSpec := { name := "etherEnds", fn := fun _ => fun
  | [d1, d2] => { results := [.lit (.bool false)], args := [d1, d2] }
  | _ => none }
def EtherEndsWrongFalsely : Prop := etherEndsRow.holds Try.pinned (OpenSpec.ofChange etherEndsWrong)

/- THE SECOND FORM. 'bulk': how many values and letters a reading holds, each counted each time it is reached (what is shared counts as often as it is met; a slice's spare places count too). A statement '..UptoSaid' is the law's where the arguments, and the package variables that the reading takes, are together of bulk at most 1048576: NARROWER than '..Said'. Prove '..Said' where nothing that the law and all that it calls make is longer than what came in: it says more and counts as full. Else prove '..UptoSaid'. A law counts once. -/
mutual
def uptoBulk {H : Type} : DataW H → Nat
  | .lit (.string bytes) => bytes.length + 1
  | .lit _ => 1
  | .nil => 1
  | .ptr d => uptoBulk d + 1
  | .slice elems spare => uptoBulkAll elems + uptoBulkAll spare + 1
  | .agg parts => uptoBulkAll parts + 1
  | .iface _ d => uptoBulk d + 1
  | .map entries => uptoBulkEntries entries + 1
  | .held _ => 1
def uptoBulkAll {H : Type} : List (DataW H) → Nat
  | [] => 0
  | d :: r => uptoBulk d + uptoBulkAll r
def uptoBulkEntries {H : Type} : List (Lit × DataW H) → Nat
  | [] => 0
  | x :: r => uptoBulkEntry x + uptoBulkEntries r
def uptoBulkEntry {H : Type} : Lit × DataW H → Nat
  | (.string bytes, d) => bytes.length + uptoBulk d + 1
  | (_, d) => uptoBulk d + 1
 end
def uptoSmall : (H : Type) → List (DataW H) → Bool := fun _ ds => decide (uptoBulkAll ds ≤ 1048576)
def OpenSpec.upto (s : _root_.Go.ChangeSpec) : _root_.Go.OpenSpec := { _root_.Go.OpenSpec.ofChange s with cond := some uptoSmall }

/-- 'stevedorelaw07.EtherTells', WHERE WHAT IT READS IS OF BULK AT MOST 1048576: true; the input reads as it did. -/
def etherTellsUptoRow : OpenClaim := { program := "ytdgjoconppmihaa", sum := "0fe9c5b2e89f8a88f0eff7d22bd38ce7379e215178191d7e465879572d611b11", func := "stevedore/stevedorelaw07.EtherTells", spec := "etherTells", inPlace := ["internal/abi.NoEscape", "internal/bytealg.MakeNoZero", "internal/bytealg.IndexByteString"], unfollowed := true, recurses := true, apart := false, narrowed := true }
def EtherTellsUptoSaid : Prop := etherTellsUptoRow.holds Try.pinned (OpenSpec.upto etherTellsSpec)

/-- 'stevedorelaw07.EtherMacs', WHERE WHAT IT READS IS OF BULK AT MOST 1048576: true; the input reads as it did. -/
def etherMacsUptoRow : OpenClaim := { program := "ytdgjoconppmihaa", sum := "0fe9c5b2e89f8a88f0eff7d22bd38ce7379e215178191d7e465879572d611b11", func := "stevedore/stevedorelaw07.EtherMacs", spec := "etherMacs", inPlace := ["internal/abi.NoEscape", "internal/bytealg.MakeNoZero", "internal/bytealg.IndexByteString"], unfollowed := true, recurses := true, apart := false, narrowed := true }
def EtherMacsUptoSaid : Prop := etherMacsUptoRow.holds Try.pinned (OpenSpec.upto etherMacsSpec)

/-- 'stevedorelaw07.EtherBack', WHERE WHAT IT READS IS OF BULK AT MOST 1048576: true; the input reads as it did. -/
def etherBackUptoRow : OpenClaim := { program := "ytdgjoconppmihaa", sum := "0fe9c5b2e89f8a88f0eff7d22bd38ce7379e215178191d7e465879572d611b11", func := "stevedore/stevedorelaw07.EtherBack", spec := "etherBack", inPlace := ["internal/abi.NoEscape", "internal/bytealg.MakeNoZero", "internal/bytealg.IndexByteString"], unfollowed := true, recurses := true, apart := false, narrowed := true }
def EtherBackUptoSaid : Prop := etherBackUptoRow.holds Try.pinned (OpenSpec.upto etherBackSpec)

/-- 'stevedorelaw07.EtherTexts', WHERE WHAT IT READS IS OF BULK AT MOST 1048576: true; the input reads as it did. -/
def etherTextsUptoRow : OpenClaim := { program := "ytdgjoconppmihaa", sum := "0fe9c5b2e89f8a88f0eff7d22bd38ce7379e215178191d7e465879572d611b11", func := "stevedore/stevedorelaw07.EtherTexts", spec := "etherTexts", inPlace := ["internal/abi.NoEscape", "internal/bytealg.MakeNoZero", "internal/bytealg.IndexByteString"], unfollowed := true, recurses := true, apart := false, narrowed := true }
def EtherTextsUptoSaid : Prop := etherTextsUptoRow.holds Try.pinned (OpenSpec.upto etherTextsSpec)

/-- 'stevedorelaw07.EtherEnds', WHERE WHAT IT READS IS OF BULK AT MOST 1048576: true; the input reads as it did. -/
def etherEndsUptoRow : OpenClaim := { program := "ytdgjoconppmihaa", sum := "0fe9c5b2e89f8a88f0eff7d22bd38ce7379e215178191d7e465879572d611b11", func := "stevedore/stevedorelaw07.EtherEnds", spec := "etherEnds", inPlace := ["internal/abi.NoEscape", "internal/bytealg.MakeNoZero", "internal/bytealg.IndexByteString"], unfollowed := true, recurses := true, apart := false, narrowed := true }
def EtherEndsUptoSaid : Prop := etherEndsUptoRow.holds Try.pinned (OpenSpec.upto etherEndsSpec)

end Rows
end Go.Proofs.Ytdgjoconppmihaa
