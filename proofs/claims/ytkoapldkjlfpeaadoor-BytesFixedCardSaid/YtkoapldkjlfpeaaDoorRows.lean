/-
  NARROWER THAN 'FOR EVERY INPUT', by the rows' own cells (each row's printed sentence says how): BytesFixed: laid · BytesTells: laid · BytesBack: laid · BytesLadder: laid · BytesCompare: laid · BytesMirror: laid · BytesResidue: laid · BytesTwo: laid.
  DERIVED. THE GIVEN ROWS OF THIS SEAT. 8 by the template 'for every input the law returns true; each argument reads behind the call as it read before'; 0 by the template 'total and deterministic' (their statements: YtkoapldkjlfpeaaDoorTotals.lean).
  GIVEN WITH THE SEED: the statements are not yours to turn. If you find one false, say at which input.
  Laid BY PROGRAM, IN A SANDBOX (cutbox-rows.mjs): the forced cells as the released guide's own fill.sh prints them over the translation 1aaf350969d193c4… (all of the seat's roots in one cut). By AI agents, Wed Nov 11 2026. No macro, syntax, notation, axiom, sorry.
-/
import Derived.Test.YtkoapldkjlfpeaaDoorChecked
import GoSem.Claim
import GoSem.ClaimJoined
import GoSem.ClaimMapViews
import Derived.JoinedTies
import Derived.KernelRfl
namespace Go.Proofs.YtkoapldkjlfpeaaDoor
/- THE CELL 'sum', in the pinned program and in every row, IS THE sha256 OF THE DUMP (.gsa) THAT YtkoapldkjlfpeaaDoorProg.lean LOADS. Nothing in Lean hashes anything: it is a label: what it is worth is what the hold of that sum in a sandbox is worth. -/
noncomputable def Tryd.pinned : Pinned := { name := "ytkoapldkjlfpeaadoor", sum := "1aaf350969d193c49e6e2b1dfb2aadca34293ebfb952f3387dd0753195e259e6", checked := Tryd.checked }
namespace Rows
def none {H : Type} : Left H := { results := [], args := [] }

/- WHAT THE LISTED PACKAGE-LEVEL VARIABLES READ AS WHEN THE CALL BEGINS. Each datum BY PROGRAM (the guide's laid-datum.mjs) off the statement by which the dump's own 'gosem.cut.vars' lays the variable. In a bare row this is a premise. The card (YtkoapldkjlfpeaaDoorCards.lean) ties it to the program's text. -/
def laid_homestead_bytes_fourSteps {H : Type} : DataW H := .agg [.lit (.int .u32 0), .lit (.int .u32 498536548), .lit (.int .u32 997073096), .lit (.int .u32 651767980), .lit (.int .u32 1994146192), .lit (.int .u32 1802195444), .lit (.int .u32 1303535960), .lit (.int .u32 1342533948), .lit (.int .u32 3988292384), .lit (.int .u32 4027552580), .lit (.int .u32 3604390888), .lit (.int .u32 3412177804), .lit (.int .u32 2607071920), .lit (.int .u32 2262029012), .lit (.int .u32 2685067896), .lit (.int .u32 3183342108)]

/-- 'homesteadlaw01.BytesFixed': WHATEVER THE INPUT: true; the input reads as it did. -/
def bytesFixedSpec : ChangeSpec := { name := "bytesFixed", fn := fun _ => fun
  | [] => { results := [.lit (.bool true)], args := [] }
  | _ => none }
def bytesFixedRow : OpenClaim := { program := "ytkoapldkjlfpeaadoor", sum := "1aaf350969d193c49e6e2b1dfb2aadca34293ebfb952f3387dd0753195e259e6", func := "homestead/homesteadlaw01.BytesFixed", spec := "bytesFixed", unfollowed := true, recurses := true, named := ["homestead/bytes.fourSteps"], apart := false, laid := [("homestead/bytes.fourSteps", laid_homestead_bytes_fourSteps)] }
def BytesFixedSaid : Prop := bytesFixedRow.holds Tryd.pinned (OpenSpec.ofChange bytesFixedSpec)

/-- ITS FALSE NEIGHBOUR: 'it returns false'. Refute it at one input. -/
def bytesFixedWrong : ChangeSpec := { name := "bytesFixed", fn := fun _ => fun
  | [] => { results := [.lit (.bool false)], args := [] }
  | _ => none }
def BytesFixedWrongFalsely : Prop := bytesFixedRow.holds Tryd.pinned (OpenSpec.ofChange bytesFixedWrong)

/-- 'homesteadlaw01.BytesTells': WHATEVER THE INPUT: true; the input reads as it did. -/
def bytesTellsSpec : ChangeSpec := { name := "bytesTells", fn := fun _ => fun
  | [d1, d2, d3, d4, d5] => { results := [.lit (.bool true)], args := [d1, d2, d3, d4, d5] }
  | _ => none }
def bytesTellsRow : OpenClaim := { program := "ytkoapldkjlfpeaadoor", sum := "1aaf350969d193c49e6e2b1dfb2aadca34293ebfb952f3387dd0753195e259e6", func := "homestead/homesteadlaw01.BytesTells", spec := "bytesTells", unfollowed := true, recurses := true, named := ["homestead/bytes.fourSteps"], apart := false, laid := [("homestead/bytes.fourSteps", laid_homestead_bytes_fourSteps)] }
def BytesTellsSaid : Prop := bytesTellsRow.holds Tryd.pinned (OpenSpec.ofChange bytesTellsSpec)

/-- ITS FALSE NEIGHBOUR: 'it returns false'. Refute it at one input. -/
def bytesTellsWrong : ChangeSpec := { name := "bytesTells", fn := fun _ => fun
  | [d1, d2, d3, d4, d5] => { results := [.lit (.bool false)], args := [d1, d2, d3, d4, d5] }
  | _ => none }
def BytesTellsWrongFalsely : Prop := bytesTellsRow.holds Tryd.pinned (OpenSpec.ofChange bytesTellsWrong)

/-- 'homesteadlaw01.BytesBack': WHATEVER THE INPUT: true; the input reads as it did. -/
def bytesBackSpec : ChangeSpec := { name := "bytesBack", fn := fun _ => fun
  | [d1, d2, d3] => { results := [.lit (.bool true)], args := [d1, d2, d3] }
  | _ => none }
def bytesBackRow : OpenClaim := { program := "ytkoapldkjlfpeaadoor", sum := "1aaf350969d193c49e6e2b1dfb2aadca34293ebfb952f3387dd0753195e259e6", func := "homestead/homesteadlaw01.BytesBack", spec := "bytesBack", unfollowed := true, recurses := true, named := ["homestead/bytes.fourSteps"], apart := false, laid := [("homestead/bytes.fourSteps", laid_homestead_bytes_fourSteps)] }
def BytesBackSaid : Prop := bytesBackRow.holds Tryd.pinned (OpenSpec.ofChange bytesBackSpec)

/-- ITS FALSE NEIGHBOUR: 'it returns false'. Refute it at one input. -/
def bytesBackWrong : ChangeSpec := { name := "bytesBack", fn := fun _ => fun
  | [d1, d2, d3] => { results := [.lit (.bool false)], args := [d1, d2, d3] }
  | _ => none }
def BytesBackWrongFalsely : Prop := bytesBackRow.holds Tryd.pinned (OpenSpec.ofChange bytesBackWrong)

/-- 'homesteadlaw01.BytesLadder': WHATEVER THE INPUT: true; the input reads as it did. -/
def bytesLadderSpec : ChangeSpec := { name := "bytesLadder", fn := fun _ => fun
  | [d1, d2] => { results := [.lit (.bool true)], args := [d1, d2] }
  | _ => none }
def bytesLadderRow : OpenClaim := { program := "ytkoapldkjlfpeaadoor", sum := "1aaf350969d193c49e6e2b1dfb2aadca34293ebfb952f3387dd0753195e259e6", func := "homestead/homesteadlaw01.BytesLadder", spec := "bytesLadder", unfollowed := true, recurses := true, named := ["homestead/bytes.fourSteps"], apart := false, laid := [("homestead/bytes.fourSteps", laid_homestead_bytes_fourSteps)] }
def BytesLadderSaid : Prop := bytesLadderRow.holds Tryd.pinned (OpenSpec.ofChange bytesLadderSpec)

/-- ITS FALSE NEIGHBOUR: 'it returns false'. Refute it at one input. -/
def bytesLadderWrong : ChangeSpec := { name := "bytesLadder", fn := fun _ => fun
  | [d1, d2] => { results := [.lit (.bool false)], args := [d1, d2] }
  | _ => none }
def BytesLadderWrongFalsely : Prop := bytesLadderRow.holds Tryd.pinned (OpenSpec.ofChange bytesLadderWrong)

/-- 'homesteadlaw01.BytesCompare': WHATEVER THE INPUT: true; the input reads as it did. -/
def bytesCompareSpec : ChangeSpec := { name := "bytesCompare", fn := fun _ => fun
  | [d1, d2] => { results := [.lit (.bool true)], args := [d1, d2] }
  | _ => none }
def bytesCompareRow : OpenClaim := { program := "ytkoapldkjlfpeaadoor", sum := "1aaf350969d193c49e6e2b1dfb2aadca34293ebfb952f3387dd0753195e259e6", func := "homestead/homesteadlaw01.BytesCompare", spec := "bytesCompare", unfollowed := true, recurses := true, named := ["homestead/bytes.fourSteps"], apart := false, laid := [("homestead/bytes.fourSteps", laid_homestead_bytes_fourSteps)] }
def BytesCompareSaid : Prop := bytesCompareRow.holds Tryd.pinned (OpenSpec.ofChange bytesCompareSpec)

/-- ITS FALSE NEIGHBOUR: 'it returns false'. Refute it at one input. -/
def bytesCompareWrong : ChangeSpec := { name := "bytesCompare", fn := fun _ => fun
  | [d1, d2] => { results := [.lit (.bool false)], args := [d1, d2] }
  | _ => none }
def BytesCompareWrongFalsely : Prop := bytesCompareRow.holds Tryd.pinned (OpenSpec.ofChange bytesCompareWrong)

/-- 'homesteadlaw01.BytesMirror': WHATEVER THE INPUT: true; the input reads as it did. -/
def bytesMirrorSpec : ChangeSpec := { name := "bytesMirror", fn := fun _ => fun
  | [d] => { results := [.lit (.bool true)], args := [d] }
  | _ => none }
def bytesMirrorRow : OpenClaim := { program := "ytkoapldkjlfpeaadoor", sum := "1aaf350969d193c49e6e2b1dfb2aadca34293ebfb952f3387dd0753195e259e6", func := "homestead/homesteadlaw01.BytesMirror", spec := "bytesMirror", unfollowed := true, recurses := true, named := ["homestead/bytes.fourSteps"], apart := false, laid := [("homestead/bytes.fourSteps", laid_homestead_bytes_fourSteps)] }
def BytesMirrorSaid : Prop := bytesMirrorRow.holds Tryd.pinned (OpenSpec.ofChange bytesMirrorSpec)

/-- ITS FALSE NEIGHBOUR: 'it returns false'. Refute it at one input. -/
def bytesMirrorWrong : ChangeSpec := { name := "bytesMirror", fn := fun _ => fun
  | [d] => { results := [.lit (.bool false)], args := [d] }
  | _ => none }
def BytesMirrorWrongFalsely : Prop := bytesMirrorRow.holds Tryd.pinned (OpenSpec.ofChange bytesMirrorWrong)

/-- 'homesteadlaw01.BytesResidue': WHATEVER THE INPUT: true; the input reads as it did. -/
def bytesResidueSpec : ChangeSpec := { name := "bytesResidue", fn := fun _ => fun
  | [d] => { results := [.lit (.bool true)], args := [d] }
  | _ => none }
def bytesResidueRow : OpenClaim := { program := "ytkoapldkjlfpeaadoor", sum := "1aaf350969d193c49e6e2b1dfb2aadca34293ebfb952f3387dd0753195e259e6", func := "homestead/homesteadlaw01.BytesResidue", spec := "bytesResidue", unfollowed := true, recurses := true, named := ["homestead/bytes.fourSteps"], apart := false, laid := [("homestead/bytes.fourSteps", laid_homestead_bytes_fourSteps)] }
def BytesResidueSaid : Prop := bytesResidueRow.holds Tryd.pinned (OpenSpec.ofChange bytesResidueSpec)

/-- ITS FALSE NEIGHBOUR: 'it returns false'. Refute it at one input. -/
def bytesResidueWrong : ChangeSpec := { name := "bytesResidue", fn := fun _ => fun
  | [d] => { results := [.lit (.bool false)], args := [d] }
  | _ => none }
def BytesResidueWrongFalsely : Prop := bytesResidueRow.holds Tryd.pinned (OpenSpec.ofChange bytesResidueWrong)

/-- 'homesteadlaw01.BytesTwo': WHATEVER THE INPUT: true; the input reads as it did. -/
def bytesTwoSpec : ChangeSpec := { name := "bytesTwo", fn := fun _ => fun
  | [d1, d2, d3] => { results := [.lit (.bool true)], args := [d1, d2, d3] }
  | _ => none }
def bytesTwoRow : OpenClaim := { program := "ytkoapldkjlfpeaadoor", sum := "1aaf350969d193c49e6e2b1dfb2aadca34293ebfb952f3387dd0753195e259e6", func := "homestead/homesteadlaw01.BytesTwo", spec := "bytesTwo", unfollowed := true, recurses := true, named := ["homestead/bytes.fourSteps"], apart := false, laid := [("homestead/bytes.fourSteps", laid_homestead_bytes_fourSteps)] }
def BytesTwoSaid : Prop := bytesTwoRow.holds Tryd.pinned (OpenSpec.ofChange bytesTwoSpec)

/-- ITS FALSE NEIGHBOUR: 'it returns false'. Refute it at one input. -/
def bytesTwoWrong : ChangeSpec := { name := "bytesTwo", fn := fun _ => fun
  | [d1, d2, d3] => { results := [.lit (.bool false)], args := [d1, d2, d3] }
  | _ => none }
def BytesTwoWrongFalsely : Prop := bytesTwoRow.holds Tryd.pinned (OpenSpec.ofChange bytesTwoWrong)

/- THE SECOND FORM. 'bulk': how many values and letters a reading holds, each counted each time it is reached (what is shared counts as often as it is met; a slice's spare places count too). A statement '..UptoSaid' is the law's where the arguments, and the package variables that the reading takes, are together of bulk at most 1048576: NARROWER than '..Said'. Prove '..Said' where nothing that the law and all that it calls make is longer than what came in: it says more and counts as full. Else prove '..UptoSaid'. A law counts once. -/
mutual
def uptoBulk {H : Type} : DataW H → Nat
  | .lit (.string bytes) => bytes.length + 1
  | .lit _ => 1
  | .nil => 1
  | .ptr d => uptoBulk d + 1
  | .slice elems spare => uptoBulkAll elems + uptoBulkAll spare + 1
  | .agg parts => uptoBulkAll parts + 1
  | .iface _ d => uptoBulk d + 1
  | .map entries => uptoBulkEntries entries + 1
  | .held _ => 1
def uptoBulkAll {H : Type} : List (DataW H) → Nat
  | [] => 0
  | d :: r => uptoBulk d + uptoBulkAll r
def uptoBulkEntries {H : Type} : List (Lit × DataW H) → Nat
  | [] => 0
  | x :: r => uptoBulkEntry x + uptoBulkEntries r
def uptoBulkEntry {H : Type} : Lit × DataW H → Nat
  | (.string bytes, d) => bytes.length + uptoBulk d + 1
  | (_, d) => uptoBulk d + 1
 end
def uptoSmall : (H : Type) → List (DataW H) → Bool := fun _ ds => decide (uptoBulkAll ds ≤ 1048576)
def OpenSpec.upto (s : _root_.Go.ChangeSpec) : _root_.Go.OpenSpec := { _root_.Go.OpenSpec.ofChange s with cond := some uptoSmall }

/-- 'homesteadlaw01.BytesFixed', WHERE WHAT IT READS IS OF BULK AT MOST 1048576: true; the input reads as it did. -/
def bytesFixedUptoRow : OpenClaim := { program := "ytkoapldkjlfpeaadoor", sum := "1aaf350969d193c49e6e2b1dfb2aadca34293ebfb952f3387dd0753195e259e6", func := "homestead/homesteadlaw01.BytesFixed", spec := "bytesFixed", unfollowed := true, recurses := true, named := ["homestead/bytes.fourSteps"], apart := false, laid := [("homestead/bytes.fourSteps", laid_homestead_bytes_fourSteps)], narrowed := true }
def BytesFixedUptoSaid : Prop := bytesFixedUptoRow.holds Tryd.pinned (OpenSpec.upto bytesFixedSpec)

/-- 'homesteadlaw01.BytesTells', WHERE WHAT IT READS IS OF BULK AT MOST 1048576: true; the input reads as it did. -/
def bytesTellsUptoRow : OpenClaim := { program := "ytkoapldkjlfpeaadoor", sum := "1aaf350969d193c49e6e2b1dfb2aadca34293ebfb952f3387dd0753195e259e6", func := "homestead/homesteadlaw01.BytesTells", spec := "bytesTells", unfollowed := true, recurses := true, named := ["homestead/bytes.fourSteps"], apart := false, laid := [("homestead/bytes.fourSteps", laid_homestead_bytes_fourSteps)], narrowed := true }
def BytesTellsUptoSaid : Prop := bytesTellsUptoRow.holds Tryd.pinned (OpenSpec.upto bytesTellsSpec)

/-- 'homesteadlaw01.BytesBack', WHERE WHAT IT READS IS OF BULK AT MOST 1048576: true; the input reads as it did. -/
def bytesBackUptoRow : OpenClaim := { program := "ytkoapldkjlfpeaadoor", sum := "1aaf350969d193c49e6e2b1dfb2aadca34293ebfb952f3387dd0753195e259e6", func := "homestead/homesteadlaw01.BytesBack", spec := "bytesBack", unfollowed := true, recurses := true, named := ["homestead/bytes.fourSteps"], apart := false, laid := [("homestead/bytes.fourSteps", laid_homestead_bytes_fourSteps)], narrowed := true }
def BytesBackUptoSaid : Prop := bytesBackUptoRow.holds Tryd.pinned (OpenSpec.upto bytesBackSpec)

/-- 'homesteadlaw01.BytesLadder', WHERE WHAT IT READS IS OF BULK AT MOST 1048576: true; the input reads as it did. -/
def bytesLadderUptoRow : OpenClaim := { program := "ytkoapldkjlfpeaadoor", sum := "1aaf350969d193c49e6e2b1dfb2aadca34293ebfb952f3387dd0753195e259e6", func := "homestead/homesteadlaw01.BytesLadder", spec := "bytesLadder", unfollowed := true, recurses := true, named := ["homestead/bytes.fourSteps"], apart := false, laid := [("homestead/bytes.fourSteps", laid_homestead_bytes_fourSteps)], narrowed := true }
def BytesLadderUptoSaid : Prop := bytesLadderUptoRow.holds Tryd.pinned (OpenSpec.upto bytesLadderSpec)

/-- 'homesteadlaw01.BytesCompare', WHERE WHAT IT READS IS OF BULK AT MOST 1048576: true; the input reads as it did. -/
def bytesCompareUptoRow : OpenClaim := { program := "ytkoapldkjlfpeaadoor", sum := "1aaf350969d193c49e6e2b1dfb2aadca34293ebfb952f3387dd0753195e259e6", func := "homestead/homesteadlaw01.BytesCompare", spec := "bytesCompare", unfollowed := true, recurses := true, named := ["homestead/bytes.fourSteps"], apart := false, laid := [("homestead/bytes.fourSteps", laid_homestead_bytes_fourSteps)], narrowed := true }
def BytesCompareUptoSaid : Prop := bytesCompareUptoRow.holds Tryd.pinned (OpenSpec.upto bytesCompareSpec)

/-- 'homesteadlaw01.BytesMirror', WHERE WHAT IT READS IS OF BULK AT MOST 1048576: true; the input reads as it did. -/
def bytesMirrorUptoRow : OpenClaim := { program := "ytkoapldkjlfpeaadoor", sum := "1aaf350969d193c49e6e2b1dfb2aadca34293ebfb952f3387dd0753195e259e6", func := "homestead/homesteadlaw01.BytesMirror", spec := "bytesMirror", unfollowed := true, recurses := true, named := ["homestead/bytes.fourSteps"], apart := false, laid := [("homestead/bytes.fourSteps", laid_homestead_bytes_fourSteps)], narrowed := true }
def BytesMirrorUptoSaid : Prop := bytesMirrorUptoRow.holds Tryd.pinned (OpenSpec.upto bytesMirrorSpec)

/-- 'homesteadlaw01.BytesResidue', WHERE WHAT IT READS IS OF BULK AT MOST 1048576: true; the input reads as it did. -/
def bytesResidueUptoRow : OpenClaim := { program := "ytkoapldkjlfpeaadoor", sum := "1aaf350969d193c49e6e2b1dfb2aadca34293ebfb952f3387dd0753195e259e6", func := "homestead/homesteadlaw01.BytesResidue", spec := "bytesResidue", unfollowed := true, recurses := true, named := ["homestead/bytes.fourSteps"], apart := false, laid := [("homestead/bytes.fourSteps", laid_homestead_bytes_fourSteps)], narrowed := true }
def BytesResidueUptoSaid : Prop := bytesResidueUptoRow.holds Tryd.pinned (OpenSpec.upto bytesResidueSpec)

/-- 'homesteadlaw01.BytesTwo', WHERE WHAT IT READS IS OF BULK AT MOST 1048576: true; the input reads as it did. -/
def bytesTwoUptoRow : OpenClaim := { program := "ytkoapldkjlfpeaadoor", sum := "1aaf350969d193c49e6e2b1dfb2aadca34293ebfb952f3387dd0753195e259e6", func := "homestead/homesteadlaw01.BytesTwo", spec := "bytesTwo", unfollowed := true, recurses := true, named := ["homestead/bytes.fourSteps"], apart := false, laid := [("homestead/bytes.fourSteps", laid_homestead_bytes_fourSteps)], narrowed := true }
def BytesTwoUptoSaid : Prop := bytesTwoUptoRow.holds Tryd.pinned (OpenSpec.upto bytesTwoSpec)

end Rows
end Go.Proofs.YtkoapldkjlfpeaaDoor
