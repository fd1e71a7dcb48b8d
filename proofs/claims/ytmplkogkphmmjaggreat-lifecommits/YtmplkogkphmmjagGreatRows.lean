/-
  NARROWER THAN 'FOR EVERY INPUT', by the rows' own cells (each row's printed sentence says how): LifeCommits: loops · LifeAgain: loops · LifeMasks: loops.
  DERIVED. THE GIVEN ROWS OF THIS SEAT. 3 by the template 'for every input the law returns true; each argument reads behind the call as it read before'; 0 by the template 'total and deterministic' (their statements: YtmplkogkphmmjagGreatTotals.lean).
  GIVEN WITH THE SEED: the statements are not yours to turn. If you find one false, say at which input.
  Laid BY PROGRAM, IN A SANDBOX (cutbox-rows.mjs): the forced cells as the released guide's own fill.sh prints them over the translation aa001dbaaad868fb… (all of the seat's roots in one cut). By AI agents, Wed Nov 11 2026. No macro, syntax, notation, axiom, sorry.
-/
import Derived.Test.YtmplkogkphmmjagGreatChecked
import GoSem.Claim
import GoSem.ClaimJoined
import GoSem.ClaimMapViews
import Derived.JoinedTies
import Derived.KernelRfl
namespace Go.Proofs.YtmplkogkphmmjagGreat
/- THE CELL 'sum', in the pinned program and in every row, IS THE sha256 OF THE DUMP (.gsa) THAT YtmplkogkphmmjagGreatProg.lean LOADS. Nothing in Lean hashes anything: it is a label: what it is worth is what the hold of that sum in a sandbox is worth. -/
noncomputable def Tryz.pinned : Pinned := { name := "ytmplkogkphmmjaggreat", sum := "aa001dbaaad868fb1bd8a7ec1941cae20c62e05b6a27524f527042c082d0e4a7", checked := Tryz.checked }
namespace Rows
def none {H : Type} : Left H := { results := [], args := [] }

/-- 'overwinterlaw.LifeCommits': WHATEVER THE INPUT: true; the input reads as it did. -/
def lifeCommitsSpec : ChangeSpec := { name := "lifeCommits", fn := fun _ => fun
  | [d1, d2, d3, d4, d5] => { results := [.lit (.bool true)], args := [d1, d2, d3, d4, d5] }
  | _ => none }
def lifeCommitsRow : OpenClaim := { program := "ytmplkogkphmmjaggreat", sum := "aa001dbaaad868fb1bd8a7ec1941cae20c62e05b6a27524f527042c082d0e4a7", func := "overwinter/overwinterlaw.LifeCommits", spec := "lifeCommits", unfollowed := true, recurses := true, loops := true, apart := false }
def LifeCommitsSaid : Prop := lifeCommitsRow.holds Tryz.pinned (OpenSpec.ofChange lifeCommitsSpec)

/-- ITS FALSE NEIGHBOUR: 'it returns false'. Refute it at one input. -/
def lifeCommitsWrong : ChangeSpec := { name := "lifeCommits", fn := fun _ => fun
  | [d1, d2, d3, d4, d5] => { results := [.lit (.bool false)], args := [d1, d2, d3, d4, d5] }
  | _ => none }
def LifeCommitsWrongFalsely : Prop := lifeCommitsRow.holds Tryz.pinned (OpenSpec.ofChange lifeCommitsWrong)

/-- 'overwinterlaw.LifeAgain': WHATEVER THE INPUT: true; the input reads as it did. -/
def lifeAgainSpec : ChangeSpec := { name := "lifeAgain", fn := fun _ => fun
  | [d1, d2, d3, d4, d5] => { results := [.lit (.bool true)], args := [d1, d2, d3, d4, d5] }
  | _ => none }
def lifeAgainRow : OpenClaim := { program := "ytmplkogkphmmjaggreat", sum := "aa001dbaaad868fb1bd8a7ec1941cae20c62e05b6a27524f527042c082d0e4a7", func := "overwinter/overwinterlaw.LifeAgain", spec := "lifeAgain", unfollowed := true, recurses := true, loops := true, apart := false }
def LifeAgainSaid : Prop := lifeAgainRow.holds Tryz.pinned (OpenSpec.ofChange lifeAgainSpec)

/-- ITS FALSE NEIGHBOUR: 'it returns false'. Refute it at one input. -/
def lifeAgainWrong : ChangeSpec := { name := "lifeAgain", fn := fun _ => fun
  | [d1, d2, d3, d4, d5] => { results := [.lit (.bool false)], args := [d1, d2, d3, d4, d5] }
  | _ => none }
def LifeAgainWrongFalsely : Prop := lifeAgainRow.holds Tryz.pinned (OpenSpec.ofChange lifeAgainWrong)

/-- 'overwinterlaw.LifeMasks': WHATEVER THE INPUT: true; the input reads as it did. -/
def lifeMasksSpec : ChangeSpec := { name := "lifeMasks", fn := fun _ => fun
  | [d1, d2, d3, d4, d5] => { results := [.lit (.bool true)], args := [d1, d2, d3, d4, d5] }
  | _ => none }
def lifeMasksRow : OpenClaim := { program := "ytmplkogkphmmjaggreat", sum := "aa001dbaaad868fb1bd8a7ec1941cae20c62e05b6a27524f527042c082d0e4a7", func := "overwinter/overwinterlaw.LifeMasks", spec := "lifeMasks", unfollowed := true, recurses := true, loops := true, apart := false }
def LifeMasksSaid : Prop := lifeMasksRow.holds Tryz.pinned (OpenSpec.ofChange lifeMasksSpec)

/-- ITS FALSE NEIGHBOUR: 'it returns false'. Refute it at one input. -/
def lifeMasksWrong : ChangeSpec := { name := "lifeMasks", fn := fun _ => fun
  | [d1, d2, d3, d4, d5] => { results := [.lit (.bool false)], args := [d1, d2, d3, d4, d5] }
  | _ => none }
def LifeMasksWrongFalsely : Prop := lifeMasksRow.holds Tryz.pinned (OpenSpec.ofChange lifeMasksWrong)

/- THE SECOND FORM. 'bulk': how many values and letters a reading holds, each counted each time it is reached (what is shared counts as often as it is met; a slice's spare places count too). A statement '..UptoSaid' is the law's where the arguments, and the package variables that the reading takes, are together of bulk at most 1048576: NARROWER than '..Said'. Prove '..Said' where nothing that the law and all that it calls make is longer than what came in: it says more and counts as full. Else prove '..UptoSaid'. A law counts once. -/
mutual
def uptoBulk {H : Type} : DataW H → Nat
  | .lit (.string bytes) => bytes.length + 1
  | .lit _ => 1
  | .nil => 1
  | .ptr d => uptoBulk d + 1
  | .slice elems spare => uptoBulkAll elems + uptoBulkAll spare + 1
  | .agg parts => uptoBulkAll parts + 1
  | .iface _ d => uptoBulk d + 1
  | .map entries => uptoBulkEntries entries + 1
  | .held _ => 1
def uptoBulkAll {H : Type} : List (DataW H) → Nat
  | [] => 0
  | d :: r => uptoBulk d + uptoBulkAll r
def uptoBulkEntries {H : Type} : List (Lit × DataW H) → Nat
  | [] => 0
  | x :: r => uptoBulkEntry x + uptoBulkEntries r
def uptoBulkEntry {H : Type} : Lit × DataW H → Nat
  | (.string bytes, d) => bytes.length + uptoBulk d + 1
  | (_, d) => uptoBulk d + 1
 end
def uptoSmall : (H : Type) → List (DataW H) → Bool := fun _ ds => decide (uptoBulkAll ds ≤ 1048576)
def OpenSpec.upto (s : _root_.Go.ChangeSpec) : _root_.Go.OpenSpec := { _root_.Go.OpenSpec.ofChange s with cond := some uptoSmall }

/-- 'overwinterlaw.LifeCommits', WHERE WHAT IT READS IS OF BULK AT MOST 1048576: true; the input reads as it did. -/
def lifeCommitsUptoRow : OpenClaim := { program := "ytmplkogkphmmjaggreat", sum := "aa001dbaaad868fb1bd8a7ec1941cae20c62e05b6a27524f527042c082d0e4a7", func := "overwinter/overwinterlaw.LifeCommits", spec := "lifeCommits", unfollowed := true, recurses := true, loops := true, apart := false, narrowed := true }
def LifeCommitsUptoSaid : Prop := lifeCommitsUptoRow.holds Tryz.pinned (OpenSpec.upto lifeCommitsSpec)

/-- 'overwinterlaw.LifeAgain', WHERE WHAT IT READS IS OF BULK AT MOST 1048576: true; the input reads as it did. -/
def lifeAgainUptoRow : OpenClaim := { program := "ytmplkogkphmmjaggreat", sum := "aa001dbaaad868fb1bd8a7ec1941cae20c62e05b6a27524f527042c082d0e4a7", func := "overwinter/overwinterlaw.LifeAgain", spec := "lifeAgain", unfollowed := true, recurses := true, loops := true, apart := false, narrowed := true }
def LifeAgainUptoSaid : Prop := lifeAgainUptoRow.holds Tryz.pinned (OpenSpec.upto lifeAgainSpec)

/-- 'overwinterlaw.LifeMasks', WHERE WHAT IT READS IS OF BULK AT MOST 1048576: true; the input reads as it did. -/
def lifeMasksUptoRow : OpenClaim := { program := "ytmplkogkphmmjaggreat", sum := "aa001dbaaad868fb1bd8a7ec1941cae20c62e05b6a27524f527042c082d0e4a7", func := "overwinter/overwinterlaw.LifeMasks", spec := "lifeMasks", unfollowed := true, recurses := true, loops := true, apart := false, narrowed := true }
def LifeMasksUptoSaid : Prop := lifeMasksUptoRow.holds Tryz.pinned (OpenSpec.upto lifeMasksSpec)

end Rows
end Go.Proofs.YtmplkogkphmmjagGreat
