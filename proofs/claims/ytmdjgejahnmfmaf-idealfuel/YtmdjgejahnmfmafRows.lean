/-
  NARROWER THAN 'FOR EVERY INPUT', by the rows' own cells (each row's printed sentence says how): IdealFuel: loops · IdealInput: loops · IdealCommits: loops.
  DERIVED. THE GIVEN ROWS OF THIS SEAT. 3 by the template 'for every input the law returns true; each argument reads behind the call as it read before'; 0 by the template 'total and deterministic' (their statements: YtmdjgejahnmfmafTotals.lean).
  GIVEN WITH THE SEED: the statements are not yours to turn. If you find one false, say at which input.
  Laid BY PROGRAM, IN A SANDBOX (cutbox-rows.mjs): the forced cells as the released guide's own fill.sh prints them over the translation 8d30147b24a28c43… (all of the seat's roots in one cut). By AI agents, Wed Nov 11 2026. No macro, syntax, notation, axiom, sorry.
-/
import Derived.Test.YtmdjgejahnmfmafChecked
import GoSem.Claim
import GoSem.ClaimJoined
import GoSem.ClaimMapViews
import Derived.JoinedTies
import Derived.KernelRfl
namespace Go.Proofs.Ytmdjgejahnmfmaf
/- THE CELL 'sum', in the pinned program and in every row, IS THE sha256 OF THE DUMP (.gsa) THAT YtmdjgejahnmfmafProg.lean LOADS. Nothing in Lean hashes anything: it is a label: what it is worth is what the hold of that sum in a sandbox is worth. -/
noncomputable def Try.pinned : Pinned := { name := "ytmdjgejahnmfmaf", sum := "8d30147b24a28c43f0719b5a58dcf25eaad9f1ac6d70c3646f11a9c62808f411", checked := Try.checked }
namespace Rows
def none {H : Type} : Left H := { results := [], args := [] }

/-- 'overwinterlaw.IdealFuel': WHATEVER THE INPUT: true; the input reads as it did. -/
def idealFuelSpec : ChangeSpec := { name := "idealFuel", fn := fun _ => fun
  | [d1, d2, d3, d4] => { results := [.lit (.bool true)], args := [d1, d2, d3, d4] }
  | _ => none }
def idealFuelRow : OpenClaim := { program := "ytmdjgejahnmfmaf", sum := "8d30147b24a28c43f0719b5a58dcf25eaad9f1ac6d70c3646f11a9c62808f411", func := "overwinter/overwinterlaw.IdealFuel", spec := "idealFuel", unfollowed := true, recurses := true, loops := true, apart := false }
def IdealFuelSaid : Prop := idealFuelRow.holds Try.pinned (OpenSpec.ofChange idealFuelSpec)

/-- ITS FALSE NEIGHBOUR: 'it returns false'. Refute it at one input. -/
def idealFuelWrong : ChangeSpec := { name := "idealFuel", fn := fun _ => fun
  | [d1, d2, d3, d4] => { results := [.lit (.bool false)], args := [d1, d2, d3, d4] }
  | _ => none }
def IdealFuelWrongFalsely : Prop := idealFuelRow.holds Try.pinned (OpenSpec.ofChange idealFuelWrong)

/-- 'overwinterlaw.IdealInput': WHATEVER THE INPUT: true; the input reads as it did. -/
def idealInputSpec : ChangeSpec := { name := "idealInput", fn := fun _ => fun
  | [d1, d2, d3, d4] => { results := [.lit (.bool true)], args := [d1, d2, d3, d4] }
  | _ => none }
def idealInputRow : OpenClaim := { program := "ytmdjgejahnmfmaf", sum := "8d30147b24a28c43f0719b5a58dcf25eaad9f1ac6d70c3646f11a9c62808f411", func := "overwinter/overwinterlaw.IdealInput", spec := "idealInput", unfollowed := true, recurses := true, loops := true, apart := false }
def IdealInputSaid : Prop := idealInputRow.holds Try.pinned (OpenSpec.ofChange idealInputSpec)

/-- ITS FALSE NEIGHBOUR: 'it returns false'. Refute it at one input. -/
def idealInputWrong : ChangeSpec := { name := "idealInput", fn := fun _ => fun
  | [d1, d2, d3, d4] => { results := [.lit (.bool false)], args := [d1, d2, d3, d4] }
  | _ => none }
def IdealInputWrongFalsely : Prop := idealInputRow.holds Try.pinned (OpenSpec.ofChange idealInputWrong)

/-- 'overwinterlaw.IdealCommits': WHATEVER THE INPUT: true; the input reads as it did. -/
def idealCommitsSpec : ChangeSpec := { name := "idealCommits", fn := fun _ => fun
  | [d1, d2, d3] => { results := [.lit (.bool true)], args := [d1, d2, d3] }
  | _ => none }
def idealCommitsRow : OpenClaim := { program := "ytmdjgejahnmfmaf", sum := "8d30147b24a28c43f0719b5a58dcf25eaad9f1ac6d70c3646f11a9c62808f411", func := "overwinter/overwinterlaw.IdealCommits", spec := "idealCommits", unfollowed := true, recurses := true, loops := true, apart := false }
def IdealCommitsSaid : Prop := idealCommitsRow.holds Try.pinned (OpenSpec.ofChange idealCommitsSpec)

/-- ITS FALSE NEIGHBOUR: 'it returns false'. Refute it at one input. -/
def idealCommitsWrong : ChangeSpec := { name := "idealCommits", fn := fun _ => fun
  | [d1, d2, d3] => { results := [.lit (.bool false)], args := [d1, d2, d3] }
  | _ => none }
def IdealCommitsWrongFalsely : Prop := idealCommitsRow.holds Try.pinned (OpenSpec.ofChange idealCommitsWrong)

/- THE SECOND FORM. 'bulk': how many values and letters a reading holds, each counted each time it is reached (what is shared counts as often as it is met; a slice's spare places count too). A statement '..UptoSaid' is the law's where the arguments, and the package variables that the reading takes, are together of bulk at most 1048576: NARROWER than '..Said'. Prove '..Said' where nothing that the law and all that it calls make is longer than what came in: it says more and counts as full. Else prove '..UptoSaid'. A law counts once. -/
mutual
def uptoBulk {H : Type} : DataW H → Nat
  | .lit (.string bytes) => bytes.length + 1
  | .lit _ => 1
  | .nil => 1
  | .ptr d => uptoBulk d + 1
  | .slice elems spare => uptoBulkAll elems + uptoBulkAll spare + 1
  | .agg parts => uptoBulkAll parts + 1
  | .iface _ d => uptoBulk d + 1
  | .map entries => uptoBulkEntries entries + 1
  | .held _ => 1
def uptoBulkAll {H : Type} : List (DataW H) → Nat
  | [] => 0
  | d :: r => uptoBulk d + uptoBulkAll r
def uptoBulkEntries {H : Type} : List (Lit × DataW H) → Nat
  | [] => 0
  | x :: r => uptoBulkEntry x + uptoBulkEntries r
def uptoBulkEntry {H : Type} : Lit × DataW H → Nat
  | (.string bytes, d) => bytes.length + uptoBulk d + 1
  | (_, d) => uptoBulk d + 1
 end
def uptoSmall : (H : Type) → List (DataW H) → Bool := fun _ ds => decide (uptoBulkAll ds ≤ 1048576)
def OpenSpec.upto (s : _root_.Go.ChangeSpec) : _root_.Go.OpenSpec := { _root_.Go.OpenSpec.ofChange s with cond := some uptoSmall }

/-- 'overwinterlaw.IdealFuel', WHERE WHAT IT READS IS OF BULK AT MOST 1048576: true; the input reads as it did. -/
def idealFuelUptoRow : OpenClaim := { program := "ytmdjgejahnmfmaf", sum := "8d30147b24a28c43f0719b5a58dcf25eaad9f1ac6d70c3646f11a9c62808f411", func := "overwinter/overwinterlaw.IdealFuel", spec := "idealFuel", unfollowed := true, recurses := true, loops := true, apart := false, narrowed := true }
def IdealFuelUptoSaid : Prop := idealFuelUptoRow.holds Try.pinned (OpenSpec.upto idealFuelSpec)

/-- 'overwinterlaw.IdealInput', WHERE WHAT IT READS IS OF BULK AT MOST 1048576: true; the input reads as it did. -/
def idealInputUptoRow : OpenClaim := { program := "ytmdjgejahnmfmaf", sum := "8d30147b24a28c43f0719b5a58dcf25eaad9f1ac6d70c3646f11a9c62808f411", func := "overwinter/overwinterlaw.IdealInput", spec := "idealInput", unfollowed := true, recurses := true, loops := true, apart := false, narrowed := true }
def IdealInputUptoSaid : Prop := idealInputUptoRow.holds Try.pinned (OpenSpec.upto idealInputSpec)

/-- 'overwinterlaw.IdealCommits', WHERE WHAT IT READS IS OF BULK AT MOST 1048576: true; the input reads as it did. -/
def idealCommitsUptoRow : OpenClaim := { program := "ytmdjgejahnmfmaf", sum := "8d30147b24a28c43f0719b5a58dcf25eaad9f1ac6d70c3646f11a9c62808f411", func := "overwinter/overwinterlaw.IdealCommits", spec := "idealCommits", unfollowed := true, recurses := true, loops := true, apart := false, narrowed := true }
def IdealCommitsUptoSaid : Prop := idealCommitsUptoRow.holds Try.pinned (OpenSpec.upto idealCommitsSpec)

end Rows
end Go.Proofs.Ytmdjgejahnmfmaf
