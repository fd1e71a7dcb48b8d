/-
  NARROWER THAN 'FOR EVERY INPUT', by the rows' own cells (each row's printed sentence says how): CompileMakes: loops · CompileFits: loops · CompileGrows: loops.
  DERIVED. THE GIVEN ROWS OF THIS SEAT. 3 by the template 'for every input the law returns true; each argument reads behind the call as it read before'; 0 by the template 'total and deterministic' (their statements: YtcgigfnbjmlhhadTotals.lean).
  GIVEN WITH THE SEED: the statements are not yours to turn. If you find one false, say at which input.
  Laid BY PROGRAM, IN A SANDBOX (cutbox-rows.mjs): the forced cells as the released guide's own fill.sh prints them over the translation bdf655ed8ec24144… (all of the seat's roots in one cut). By AI agents, Wed Nov 11 2026. No macro, syntax, notation, axiom, sorry.
-/
import Derived.Test.YtcgigfnbjmlhhadChecked
import GoSem.Claim
import GoSem.ClaimJoined
import GoSem.ClaimMapViews
import Derived.JoinedTies
import Derived.KernelRfl
namespace Go.Proofs.Ytcgigfnbjmlhhad
/- THE CELL 'sum', in the pinned program and in every row, IS THE sha256 OF THE DUMP (.gsa) THAT YtcgigfnbjmlhhadProg.lean LOADS. Nothing in Lean hashes anything: it is a label: what it is worth is what the hold of that sum in a sandbox is worth. -/
noncomputable def Try.pinned : Pinned := { name := "ytcgigfnbjmlhhad", sum := "bdf655ed8ec24144937417a0c4dc97345140f844e2918cc312e98e1a1f366ae4", checked := Try.checked }
namespace Rows
def none {H : Type} : Left H := { results := [], args := [] }

/-- 'overwinterlaw.CompileMakes': WHATEVER THE INPUT: true; the input reads as it did. -/
def compileMakesSpec : ChangeSpec := { name := "compileMakes", fn := fun _ => fun
  | [d] => { results := [.lit (.bool true)], args := [d] }
  | _ => none }
def compileMakesRow : OpenClaim := { program := "ytcgigfnbjmlhhad", sum := "bdf655ed8ec24144937417a0c4dc97345140f844e2918cc312e98e1a1f366ae4", func := "overwinter/overwinterlaw.CompileMakes", spec := "compileMakes", unfollowed := true, recurses := true, loops := true, apart := false }
def CompileMakesSaid : Prop := compileMakesRow.holds Try.pinned (OpenSpec.ofChange compileMakesSpec)

/-- ITS FALSE NEIGHBOUR: 'it returns false'. Refute it at one input. -/
def compileMakesWrong : ChangeSpec := { name := "compileMakes", fn := fun _ => fun
  | [d] => { results := [.lit (.bool false)], args := [d] }
  | _ => none }
def CompileMakesWrongFalsely : Prop := compileMakesRow.holds Try.pinned (OpenSpec.ofChange compileMakesWrong)

/-- 'overwinterlaw.CompileFits': WHATEVER THE INPUT: true; the input reads as it did. -/
def compileFitsSpec : ChangeSpec := { name := "compileFits", fn := fun _ => fun
  | [d] => { results := [.lit (.bool true)], args := [d] }
  | _ => none }
def compileFitsRow : OpenClaim := { program := "ytcgigfnbjmlhhad", sum := "bdf655ed8ec24144937417a0c4dc97345140f844e2918cc312e98e1a1f366ae4", func := "overwinter/overwinterlaw.CompileFits", spec := "compileFits", unfollowed := true, recurses := true, loops := true, apart := false }
def CompileFitsSaid : Prop := compileFitsRow.holds Try.pinned (OpenSpec.ofChange compileFitsSpec)

/-- ITS FALSE NEIGHBOUR: 'it returns false'. Refute it at one input. -/
def compileFitsWrong : ChangeSpec := { name := "compileFits", fn := fun _ => fun
  | [d] => { results := [.lit (.bool false)], args := [d] }
  | _ => none }
def CompileFitsWrongFalsely : Prop := compileFitsRow.holds Try.pinned (OpenSpec.ofChange compileFitsWrong)

/-- 'overwinterlaw.CompileGrows': WHATEVER THE INPUT: true; the input reads as it did. -/
def compileGrowsSpec : ChangeSpec := { name := "compileGrows", fn := fun _ => fun
  | [d1, d2] => { results := [.lit (.bool true)], args := [d1, d2] }
  | _ => none }
def compileGrowsRow : OpenClaim := { program := "ytcgigfnbjmlhhad", sum := "bdf655ed8ec24144937417a0c4dc97345140f844e2918cc312e98e1a1f366ae4", func := "overwinter/overwinterlaw.CompileGrows", spec := "compileGrows", unfollowed := true, recurses := true, loops := true, apart := false }
def CompileGrowsSaid : Prop := compileGrowsRow.holds Try.pinned (OpenSpec.ofChange compileGrowsSpec)

/-- ITS FALSE NEIGHBOUR: 'it returns false'. Refute it at one input. -/
def compileGrowsWrong : ChangeSpec := { name := "compileGrows", fn := fun _ => fun
  | [d1, d2] => { results := [.lit (.bool false)], args := [d1, d2] }
  | _ => none }
def CompileGrowsWrongFalsely : Prop := compileGrowsRow.holds Try.pinned (OpenSpec.ofChange compileGrowsWrong)

/- THE SECOND FORM. 'bulk': how many values and letters a reading holds, each counted each time it is reached (what is shared counts as often as it is met; a slice's spare places count too). A statement '..UptoSaid' is the law's where the arguments, and the package variables that the reading takes, are together of bulk at most 1048576: NARROWER than '..Said'. Prove '..Said' where nothing that the law and all that it calls make is longer than what came in: it says more and counts as full. Else prove '..UptoSaid'. A law counts once. -/
mutual
def uptoBulk {H : Type} : DataW H → Nat
  | .lit (.string bytes) => bytes.length + 1
  | .lit _ => 1
  | .nil => 1
  | .ptr d => uptoBulk d + 1
  | .slice elems spare => uptoBulkAll elems + uptoBulkAll spare + 1
  | .agg parts => uptoBulkAll parts + 1
  | .iface _ d => uptoBulk d + 1
  | .map entries => uptoBulkEntries entries + 1
  | .held _ => 1
def uptoBulkAll {H : Type} : List (DataW H) → Nat
  | [] => 0
  | d :: r => uptoBulk d + uptoBulkAll r
def uptoBulkEntries {H : Type} : List (Lit × DataW H) → Nat
  | [] => 0
  | x :: r => uptoBulkEntry x + uptoBulkEntries r
def uptoBulkEntry {H : Type} : Lit × DataW H → Nat
  | (.string bytes, d) => bytes.length + uptoBulk d + 1
  | (_, d) => uptoBulk d + 1
 end
def uptoSmall : (H : Type) → List (DataW H) → Bool := fun _ ds => decide (uptoBulkAll ds ≤ 1048576)
def OpenSpec.upto (s : _root_.Go.ChangeSpec) : _root_.Go.OpenSpec := { _root_.Go.OpenSpec.ofChange s with cond := some uptoSmall }

/-- 'overwinterlaw.CompileMakes', WHERE WHAT IT READS IS OF BULK AT MOST 1048576: true; the input reads as it did. -/
def compileMakesUptoRow : OpenClaim := { program := "ytcgigfnbjmlhhad", sum := "bdf655ed8ec24144937417a0c4dc97345140f844e2918cc312e98e1a1f366ae4", func := "overwinter/overwinterlaw.CompileMakes", spec := "compileMakes", unfollowed := true, recurses := true, loops := true, apart := false, narrowed := true }
def CompileMakesUptoSaid : Prop := compileMakesUptoRow.holds Try.pinned (OpenSpec.upto compileMakesSpec)

/-- 'overwinterlaw.CompileFits', WHERE WHAT IT READS IS OF BULK AT MOST 1048576: true; the input reads as it did. -/
def compileFitsUptoRow : OpenClaim := { program := "ytcgigfnbjmlhhad", sum := "bdf655ed8ec24144937417a0c4dc97345140f844e2918cc312e98e1a1f366ae4", func := "overwinter/overwinterlaw.CompileFits", spec := "compileFits", unfollowed := true, recurses := true, loops := true, apart := false, narrowed := true }
def CompileFitsUptoSaid : Prop := compileFitsUptoRow.holds Try.pinned (OpenSpec.upto compileFitsSpec)

/-- 'overwinterlaw.CompileGrows', WHERE WHAT IT READS IS OF BULK AT MOST 1048576: true; the input reads as it did. -/
def compileGrowsUptoRow : OpenClaim := { program := "ytcgigfnbjmlhhad", sum := "bdf655ed8ec24144937417a0c4dc97345140f844e2918cc312e98e1a1f366ae4", func := "overwinter/overwinterlaw.CompileGrows", spec := "compileGrows", unfollowed := true, recurses := true, loops := true, apart := false, narrowed := true }
def CompileGrowsUptoSaid : Prop := compileGrowsUptoRow.holds Try.pinned (OpenSpec.upto compileGrowsSpec)

end Rows
end Go.Proofs.Ytcgigfnbjmlhhad
