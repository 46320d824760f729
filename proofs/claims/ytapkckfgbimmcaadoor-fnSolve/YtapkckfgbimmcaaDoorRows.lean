/-
  NARROWER THAN 'FOR EVERY INPUT', by the rows' own cells (each row's printed sentence says how): FnSolve: laid · FnAll: laid · FnCore: laid · FnBackbone: laid · FnExactSolve: laid · FnExactSolveWith: laid · FnExactCore: laid · FnExactNext: laid · FnExactBackbone: laid.
  DERIVED. THE GIVEN ROWS OF THIS SEAT. 9 by the template 'for every input the law returns true; each argument reads behind the call as it read before'; 0 by the template 'total and deterministic' (their statements: YtapkckfgbimmcaaDoorTotals.lean).
  GIVEN WITH THE SEED: the statements are not yours to turn. If you find one false, say at which input.
  Laid BY PROGRAM, IN A SANDBOX (cutbox-rows.mjs): the forced cells as the released guide's own fill.sh prints them over the translation 9aaff3a2c642959f… (all of the seat's roots in one cut). By AI agents, Wed Nov 11 2026. No macro, syntax, notation, axiom, sorry.
-/
import Derived.Test.YtapkckfgbimmcaaDoorChecked
import GoSem.Claim
import GoSem.ClaimJoined
import GoSem.ClaimMapViews
import Derived.JoinedTies
import Derived.KernelRfl
namespace Go.Proofs.YtapkckfgbimmcaaDoor
/- THE CELL 'sum', in the pinned program and in every row, IS THE sha256 OF THE DUMP (.gsa) THAT YtapkckfgbimmcaaDoorProg.lean LOADS. Nothing in Lean hashes anything: it is a label: what it is worth is what the hold of that sum in a sandbox is worth. -/
noncomputable def Tryd.pinned : Pinned := { name := "ytapkckfgbimmcaadoor", sum := "9aaff3a2c642959f24090ad38cd202e1421abd7163db18d0eb01877aaaf48798", checked := Tryd.checked }
namespace Rows
def none {H : Type} : Left H := { results := [], args := [] }

/- WHAT THE LISTED PACKAGE-LEVEL VARIABLES READ AS WHEN THE CALL BEGINS. Each datum BY PROGRAM (the guide's laid-datum.mjs) off the statement by which the dump's own 'gosem.cut.vars' lays the variable. In a bare row this is a premise. The card (YtapkckfgbimmcaaDoorCards.lean) ties it to the program's text. -/
def laid_math_bits_deBruijn64tab {H : Type} : DataW H := .agg [.lit (.int .u8 0), .lit (.int .u8 1), .lit (.int .u8 56), .lit (.int .u8 2), .lit (.int .u8 57), .lit (.int .u8 49), .lit (.int .u8 28), .lit (.int .u8 3), .lit (.int .u8 61), .lit (.int .u8 58), .lit (.int .u8 42), .lit (.int .u8 50), .lit (.int .u8 38), .lit (.int .u8 29), .lit (.int .u8 17), .lit (.int .u8 4), .lit (.int .u8 62), .lit (.int .u8 47), .lit (.int .u8 59), .lit (.int .u8 36), .lit (.int .u8 45), .lit (.int .u8 43), .lit (.int .u8 51), .lit (.int .u8 22), .lit (.int .u8 53), .lit (.int .u8 39), .lit (.int .u8 33), .lit (.int .u8 30), .lit (.int .u8 24), .lit (.int .u8 18), .lit (.int .u8 12), .lit (.int .u8 5), .lit (.int .u8 63), .lit (.int .u8 55), .lit (.int .u8 48), .lit (.int .u8 27), .lit (.int .u8 60), .lit (.int .u8 41), .lit (.int .u8 37), .lit (.int .u8 16), .lit (.int .u8 46), .lit (.int .u8 35), .lit (.int .u8 44), .lit (.int .u8 21), .lit (.int .u8 52), .lit (.int .u8 32), .lit (.int .u8 23), .lit (.int .u8 11), .lit (.int .u8 54), .lit (.int .u8 26), .lit (.int .u8 40), .lit (.int .u8 15), .lit (.int .u8 34), .lit (.int .u8 20), .lit (.int .u8 31), .lit (.int .u8 10), .lit (.int .u8 25), .lit (.int .u8 14), .lit (.int .u8 19), .lit (.int .u8 9), .lit (.int .u8 13), .lit (.int .u8 8), .lit (.int .u8 7), .lit (.int .u8 6)]

/-- 'laws.FnSolve': WHATEVER THE INPUT: true; the input reads as it did. -/
def fnSolveSpec : ChangeSpec := { name := "fnSolve", fn := fun _ => fun
  | [d] => { results := [.lit (.bool true)], args := [d] }
  | _ => none }
def fnSolveRow : OpenClaim := { program := "ytapkckfgbimmcaadoor", sum := "9aaff3a2c642959f24090ad38cd202e1421abd7163db18d0eb01877aaaf48798", func := "loop.example/g00123/laws.FnSolve", spec := "fnSolve", unfollowed := true, recurses := true, named := ["math/bits.deBruijn64tab"], apart := false, laid := [("math/bits.deBruijn64tab", laid_math_bits_deBruijn64tab)] }
def FnSolveSaid : Prop := fnSolveRow.holds Tryd.pinned (OpenSpec.ofChange fnSolveSpec)

/-- ITS FALSE NEIGHBOUR: 'it returns false'. Refute it at one input. -/
def fnSolveWrong : ChangeSpec := { name := "fnSolve", fn := fun _ => fun
  | [d] => { results := [.lit (.bool false)], args := [d] }
  | _ => none }
def FnSolveWrongFalsely : Prop := fnSolveRow.holds Tryd.pinned (OpenSpec.ofChange fnSolveWrong)

/-- 'laws.FnAll': WHATEVER THE INPUT: true; the input reads as it did. -/
def fnAllSpec : ChangeSpec := { name := "fnAll", fn := fun _ => fun
  | [d] => { results := [.lit (.bool true)], args := [d] }
  | _ => none }
def fnAllRow : OpenClaim := { program := "ytapkckfgbimmcaadoor", sum := "9aaff3a2c642959f24090ad38cd202e1421abd7163db18d0eb01877aaaf48798", func := "loop.example/g00123/laws.FnAll", spec := "fnAll", unfollowed := true, recurses := true, named := ["math/bits.deBruijn64tab"], apart := false, laid := [("math/bits.deBruijn64tab", laid_math_bits_deBruijn64tab)] }
def FnAllSaid : Prop := fnAllRow.holds Tryd.pinned (OpenSpec.ofChange fnAllSpec)

/-- ITS FALSE NEIGHBOUR: 'it returns false'. Refute it at one input. -/
def fnAllWrong : ChangeSpec := { name := "fnAll", fn := fun _ => fun
  | [d] => { results := [.lit (.bool false)], args := [d] }
  | _ => none }
def FnAllWrongFalsely : Prop := fnAllRow.holds Tryd.pinned (OpenSpec.ofChange fnAllWrong)

/-- 'laws.FnCore': WHATEVER THE INPUT: true; the input reads as it did. -/
def fnCoreSpec : ChangeSpec := { name := "fnCore", fn := fun _ => fun
  | [d] => { results := [.lit (.bool true)], args := [d] }
  | _ => none }
def fnCoreRow : OpenClaim := { program := "ytapkckfgbimmcaadoor", sum := "9aaff3a2c642959f24090ad38cd202e1421abd7163db18d0eb01877aaaf48798", func := "loop.example/g00123/laws.FnCore", spec := "fnCore", unfollowed := true, recurses := true, named := ["math/bits.deBruijn64tab"], apart := false, laid := [("math/bits.deBruijn64tab", laid_math_bits_deBruijn64tab)] }
def FnCoreSaid : Prop := fnCoreRow.holds Tryd.pinned (OpenSpec.ofChange fnCoreSpec)

/-- ITS FALSE NEIGHBOUR: 'it returns false'. Refute it at one input. -/
def fnCoreWrong : ChangeSpec := { name := "fnCore", fn := fun _ => fun
  | [d] => { results := [.lit (.bool false)], args := [d] }
  | _ => none }
def FnCoreWrongFalsely : Prop := fnCoreRow.holds Tryd.pinned (OpenSpec.ofChange fnCoreWrong)

/-- 'laws.FnBackbone': WHATEVER THE INPUT: true; the input reads as it did. -/
def fnBackboneSpec : ChangeSpec := { name := "fnBackbone", fn := fun _ => fun
  | [d] => { results := [.lit (.bool true)], args := [d] }
  | _ => none }
def fnBackboneRow : OpenClaim := { program := "ytapkckfgbimmcaadoor", sum := "9aaff3a2c642959f24090ad38cd202e1421abd7163db18d0eb01877aaaf48798", func := "loop.example/g00123/laws.FnBackbone", spec := "fnBackbone", unfollowed := true, recurses := true, named := ["math/bits.deBruijn64tab"], apart := false, laid := [("math/bits.deBruijn64tab", laid_math_bits_deBruijn64tab)] }
def FnBackboneSaid : Prop := fnBackboneRow.holds Tryd.pinned (OpenSpec.ofChange fnBackboneSpec)

/-- ITS FALSE NEIGHBOUR: 'it returns false'. Refute it at one input. -/
def fnBackboneWrong : ChangeSpec := { name := "fnBackbone", fn := fun _ => fun
  | [d] => { results := [.lit (.bool false)], args := [d] }
  | _ => none }
def FnBackboneWrongFalsely : Prop := fnBackboneRow.holds Tryd.pinned (OpenSpec.ofChange fnBackboneWrong)

/-- 'laws.FnExactSolve': WHATEVER THE INPUT: true; the input reads as it did. -/
def fnExactSolveSpec : ChangeSpec := { name := "fnExactSolve", fn := fun _ => fun
  | [d] => { results := [.lit (.bool true)], args := [d] }
  | _ => none }
def fnExactSolveRow : OpenClaim := { program := "ytapkckfgbimmcaadoor", sum := "9aaff3a2c642959f24090ad38cd202e1421abd7163db18d0eb01877aaaf48798", func := "loop.example/g00123/laws.FnExactSolve", spec := "fnExactSolve", unfollowed := true, recurses := true, named := ["math/bits.deBruijn64tab"], apart := false, laid := [("math/bits.deBruijn64tab", laid_math_bits_deBruijn64tab)] }
def FnExactSolveSaid : Prop := fnExactSolveRow.holds Tryd.pinned (OpenSpec.ofChange fnExactSolveSpec)

/-- ITS FALSE NEIGHBOUR: 'it returns false'. Refute it at one input. -/
def fnExactSolveWrong : ChangeSpec := { name := "fnExactSolve", fn := fun _ => fun
  | [d] => { results := [.lit (.bool false)], args := [d] }
  | _ => none }
def FnExactSolveWrongFalsely : Prop := fnExactSolveRow.holds Tryd.pinned (OpenSpec.ofChange fnExactSolveWrong)

/-- 'laws.FnExactSolveWith': WHATEVER THE INPUT: true; the input reads as it did. -/
def fnExactSolveWithSpec : ChangeSpec := { name := "fnExactSolveWith", fn := fun _ => fun
  | [d1, d2] => { results := [.lit (.bool true)], args := [d1, d2] }
  | _ => none }
def fnExactSolveWithRow : OpenClaim := { program := "ytapkckfgbimmcaadoor", sum := "9aaff3a2c642959f24090ad38cd202e1421abd7163db18d0eb01877aaaf48798", func := "loop.example/g00123/laws.FnExactSolveWith", spec := "fnExactSolveWith", unfollowed := true, recurses := true, named := ["math/bits.deBruijn64tab"], apart := false, laid := [("math/bits.deBruijn64tab", laid_math_bits_deBruijn64tab)] }
def FnExactSolveWithSaid : Prop := fnExactSolveWithRow.holds Tryd.pinned (OpenSpec.ofChange fnExactSolveWithSpec)

/-- ITS FALSE NEIGHBOUR: 'it returns false'. Refute it at one input. -/
def fnExactSolveWithWrong : ChangeSpec := { name := "fnExactSolveWith", fn := fun _ => fun
  | [d1, d2] => { results := [.lit (.bool false)], args := [d1, d2] }
  | _ => none }
def FnExactSolveWithWrongFalsely : Prop := fnExactSolveWithRow.holds Tryd.pinned (OpenSpec.ofChange fnExactSolveWithWrong)

/-- 'laws.FnExactCore': WHATEVER THE INPUT: true; the input reads as it did. -/
def fnExactCoreSpec : ChangeSpec := { name := "fnExactCore", fn := fun _ => fun
  | [d1, d2] => { results := [.lit (.bool true)], args := [d1, d2] }
  | _ => none }
def fnExactCoreRow : OpenClaim := { program := "ytapkckfgbimmcaadoor", sum := "9aaff3a2c642959f24090ad38cd202e1421abd7163db18d0eb01877aaaf48798", func := "loop.example/g00123/laws.FnExactCore", spec := "fnExactCore", unfollowed := true, recurses := true, named := ["math/bits.deBruijn64tab"], apart := false, laid := [("math/bits.deBruijn64tab", laid_math_bits_deBruijn64tab)] }
def FnExactCoreSaid : Prop := fnExactCoreRow.holds Tryd.pinned (OpenSpec.ofChange fnExactCoreSpec)

/-- ITS FALSE NEIGHBOUR: 'it returns false'. Refute it at one input. -/
def fnExactCoreWrong : ChangeSpec := { name := "fnExactCore", fn := fun _ => fun
  | [d1, d2] => { results := [.lit (.bool false)], args := [d1, d2] }
  | _ => none }
def FnExactCoreWrongFalsely : Prop := fnExactCoreRow.holds Tryd.pinned (OpenSpec.ofChange fnExactCoreWrong)

/-- 'laws.FnExactNext': WHATEVER THE INPUT: true; the input reads as it did. -/
def fnExactNextSpec : ChangeSpec := { name := "fnExactNext", fn := fun _ => fun
  | [d1, d2] => { results := [.lit (.bool true)], args := [d1, d2] }
  | _ => none }
def fnExactNextRow : OpenClaim := { program := "ytapkckfgbimmcaadoor", sum := "9aaff3a2c642959f24090ad38cd202e1421abd7163db18d0eb01877aaaf48798", func := "loop.example/g00123/laws.FnExactNext", spec := "fnExactNext", unfollowed := true, recurses := true, named := ["math/bits.deBruijn64tab"], apart := false, laid := [("math/bits.deBruijn64tab", laid_math_bits_deBruijn64tab)] }
def FnExactNextSaid : Prop := fnExactNextRow.holds Tryd.pinned (OpenSpec.ofChange fnExactNextSpec)

/-- ITS FALSE NEIGHBOUR: 'it returns false'. Refute it at one input. -/
def fnExactNextWrong : ChangeSpec := { name := "fnExactNext", fn := fun _ => fun
  | [d1, d2] => { results := [.lit (.bool false)], args := [d1, d2] }
  | _ => none }
def FnExactNextWrongFalsely : Prop := fnExactNextRow.holds Tryd.pinned (OpenSpec.ofChange fnExactNextWrong)

/-- 'laws.FnExactBackbone': WHATEVER THE INPUT: true; the input reads as it did. -/
def fnExactBackboneSpec : ChangeSpec := { name := "fnExactBackbone", fn := fun _ => fun
  | [d] => { results := [.lit (.bool true)], args := [d] }
  | _ => none }
def fnExactBackboneRow : OpenClaim := { program := "ytapkckfgbimmcaadoor", sum := "9aaff3a2c642959f24090ad38cd202e1421abd7163db18d0eb01877aaaf48798", func := "loop.example/g00123/laws.FnExactBackbone", spec := "fnExactBackbone", unfollowed := true, recurses := true, named := ["math/bits.deBruijn64tab"], apart := false, laid := [("math/bits.deBruijn64tab", laid_math_bits_deBruijn64tab)] }
def FnExactBackboneSaid : Prop := fnExactBackboneRow.holds Tryd.pinned (OpenSpec.ofChange fnExactBackboneSpec)

/-- ITS FALSE NEIGHBOUR: 'it returns false'. Refute it at one input. -/
def fnExactBackboneWrong : ChangeSpec := { name := "fnExactBackbone", fn := fun _ => fun
  | [d] => { results := [.lit (.bool false)], args := [d] }
  | _ => none }
def FnExactBackboneWrongFalsely : Prop := fnExactBackboneRow.holds Tryd.pinned (OpenSpec.ofChange fnExactBackboneWrong)

/- THE SECOND FORM. 'bulk': how many values and letters a reading holds, each counted each time it is reached (what is shared counts as often as it is met; a slice's spare places count too). A statement '..UptoSaid' is the law's where the arguments, and the package variables that the reading takes, are together of bulk at most 1048576: NARROWER than '..Said'. Prove '..Said' where nothing that the law and all that it calls make is longer than what came in: it says more and counts as full. Else prove '..UptoSaid'. A law counts once. -/
mutual
def uptoBulk {H : Type} : DataW H → Nat
  | .lit (.string bytes) => bytes.length + 1
  | .lit _ => 1
  | .nil => 1
  | .ptr d => uptoBulk d + 1
  | .slice elems spare => uptoBulkAll elems + uptoBulkAll spare + 1
  | .agg parts => uptoBulkAll parts + 1
  | .iface _ d => uptoBulk d + 1
  | .map entries => uptoBulkEntries entries + 1
  | .held _ => 1
def uptoBulkAll {H : Type} : List (DataW H) → Nat
  | [] => 0
  | d :: r => uptoBulk d + uptoBulkAll r
def uptoBulkEntries {H : Type} : List (Lit × DataW H) → Nat
  | [] => 0
  | x :: r => uptoBulkEntry x + uptoBulkEntries r
def uptoBulkEntry {H : Type} : Lit × DataW H → Nat
  | (.string bytes, d) => bytes.length + uptoBulk d + 1
  | (_, d) => uptoBulk d + 1
 end
def uptoSmall : (H : Type) → List (DataW H) → Bool := fun _ ds => decide (uptoBulkAll ds ≤ 1048576)
def OpenSpec.upto (s : _root_.Go.ChangeSpec) : _root_.Go.OpenSpec := { _root_.Go.OpenSpec.ofChange s with cond := some uptoSmall }

/-- 'laws.FnSolve', WHERE WHAT IT READS IS OF BULK AT MOST 1048576: true; the input reads as it did. -/
def fnSolveUptoRow : OpenClaim := { program := "ytapkckfgbimmcaadoor", sum := "9aaff3a2c642959f24090ad38cd202e1421abd7163db18d0eb01877aaaf48798", func := "loop.example/g00123/laws.FnSolve", spec := "fnSolve", unfollowed := true, recurses := true, named := ["math/bits.deBruijn64tab"], apart := false, laid := [("math/bits.deBruijn64tab", laid_math_bits_deBruijn64tab)], narrowed := true }
def FnSolveUptoSaid : Prop := fnSolveUptoRow.holds Tryd.pinned (OpenSpec.upto fnSolveSpec)

/-- 'laws.FnAll', WHERE WHAT IT READS IS OF BULK AT MOST 1048576: true; the input reads as it did. -/
def fnAllUptoRow : OpenClaim := { program := "ytapkckfgbimmcaadoor", sum := "9aaff3a2c642959f24090ad38cd202e1421abd7163db18d0eb01877aaaf48798", func := "loop.example/g00123/laws.FnAll", spec := "fnAll", unfollowed := true, recurses := true, named := ["math/bits.deBruijn64tab"], apart := false, laid := [("math/bits.deBruijn64tab", laid_math_bits_deBruijn64tab)], narrowed := true }
def FnAllUptoSaid : Prop := fnAllUptoRow.holds Tryd.pinned (OpenSpec.upto fnAllSpec)

/-- 'laws.FnCore', WHERE WHAT IT READS IS OF BULK AT MOST 1048576: true; the input reads as it did. -/
def fnCoreUptoRow : OpenClaim := { program := "ytapkckfgbimmcaadoor", sum := "9aaff3a2c642959f24090ad38cd202e1421abd7163db18d0eb01877aaaf48798", func := "loop.example/g00123/laws.FnCore", spec := "fnCore", unfollowed := true, recurses := true, named := ["math/bits.deBruijn64tab"], apart := false, laid := [("math/bits.deBruijn64tab", laid_math_bits_deBruijn64tab)], narrowed := true }
def FnCoreUptoSaid : Prop := fnCoreUptoRow.holds Tryd.pinned (OpenSpec.upto fnCoreSpec)

/-- 'laws.FnBackbone', WHERE WHAT IT READS IS OF BULK AT MOST 1048576: true; the input reads as it did. -/
def fnBackboneUptoRow : OpenClaim := { program := "ytapkckfgbimmcaadoor", sum := "9aaff3a2c642959f24090ad38cd202e1421abd7163db18d0eb01877aaaf48798", func := "loop.example/g00123/laws.FnBackbone", spec := "fnBackbone", unfollowed := true, recurses := true, named := ["math/bits.deBruijn64tab"], apart := false, laid := [("math/bits.deBruijn64tab", laid_math_bits_deBruijn64tab)], narrowed := true }
def FnBackboneUptoSaid : Prop := fnBackboneUptoRow.holds Tryd.pinned (OpenSpec.upto fnBackboneSpec)

/-- 'laws.FnExactSolve', WHERE WHAT IT READS IS OF BULK AT MOST 1048576: true; the input reads as it did. -/
def fnExactSolveUptoRow : OpenClaim := { program := "ytapkckfgbimmcaadoor", sum := "9aaff3a2c642959f24090ad38cd202e1421abd7163db18d0eb01877aaaf48798", func := "loop.example/g00123/laws.FnExactSolve", spec := "fnExactSolve", unfollowed := true, recurses := true, named := ["math/bits.deBruijn64tab"], apart := false, laid := [("math/bits.deBruijn64tab", laid_math_bits_deBruijn64tab)], narrowed := true }
def FnExactSolveUptoSaid : Prop := fnExactSolveUptoRow.holds Tryd.pinned (OpenSpec.upto fnExactSolveSpec)

/-- 'laws.FnExactSolveWith', WHERE WHAT IT READS IS OF BULK AT MOST 1048576: true; the input reads as it did. -/
def fnExactSolveWithUptoRow : OpenClaim := { program := "ytapkckfgbimmcaadoor", sum := "9aaff3a2c642959f24090ad38cd202e1421abd7163db18d0eb01877aaaf48798", func := "loop.example/g00123/laws.FnExactSolveWith", spec := "fnExactSolveWith", unfollowed := true, recurses := true, named := ["math/bits.deBruijn64tab"], apart := false, laid := [("math/bits.deBruijn64tab", laid_math_bits_deBruijn64tab)], narrowed := true }
def FnExactSolveWithUptoSaid : Prop := fnExactSolveWithUptoRow.holds Tryd.pinned (OpenSpec.upto fnExactSolveWithSpec)

/-- 'laws.FnExactCore', WHERE WHAT IT READS IS OF BULK AT MOST 1048576: true; the input reads as it did. -/
def fnExactCoreUptoRow : OpenClaim := { program := "ytapkckfgbimmcaadoor", sum := "9aaff3a2c642959f24090ad38cd202e1421abd7163db18d0eb01877aaaf48798", func := "loop.example/g00123/laws.FnExactCore", spec := "fnExactCore", unfollowed := true, recurses := true, named := ["math/bits.deBruijn64tab"], apart := false, laid := [("math/bits.deBruijn64tab", laid_math_bits_deBruijn64tab)], narrowed := true }
def FnExactCoreUptoSaid : Prop := fnExactCoreUptoRow.holds Tryd.pinned (OpenSpec.upto fnExactCoreSpec)

/-- 'laws.FnExactNext', WHERE WHAT IT READS IS OF BULK AT MOST 1048576: true; the input reads as it did. -/
def fnExactNextUptoRow : OpenClaim := { program := "ytapkckfgbimmcaadoor", sum := "9aaff3a2c642959f24090ad38cd202e1421abd7163db18d0eb01877aaaf48798", func := "loop.example/g00123/laws.FnExactNext", spec := "fnExactNext", unfollowed := true, recurses := true, named := ["math/bits.deBruijn64tab"], apart := false, laid := [("math/bits.deBruijn64tab", laid_math_bits_deBruijn64tab)], narrowed := true }
def FnExactNextUptoSaid : Prop := fnExactNextUptoRow.holds Tryd.pinned (OpenSpec.upto fnExactNextSpec)

/-- 'laws.FnExactBackbone', WHERE WHAT IT READS IS OF BULK AT MOST 1048576: true; the input reads as it did. -/
def fnExactBackboneUptoRow : OpenClaim := { program := "ytapkckfgbimmcaadoor", sum := "9aaff3a2c642959f24090ad38cd202e1421abd7163db18d0eb01877aaaf48798", func := "loop.example/g00123/laws.FnExactBackbone", spec := "fnExactBackbone", unfollowed := true, recurses := true, named := ["math/bits.deBruijn64tab"], apart := false, laid := [("math/bits.deBruijn64tab", laid_math_bits_deBruijn64tab)], narrowed := true }
def FnExactBackboneUptoSaid : Prop := fnExactBackboneUptoRow.holds Tryd.pinned (OpenSpec.upto fnExactBackboneSpec)

end Rows
end Go.Proofs.YtapkckfgbimmcaaDoor
