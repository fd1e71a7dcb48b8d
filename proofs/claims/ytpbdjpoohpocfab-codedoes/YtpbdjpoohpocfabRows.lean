/-
  NARROWER THAN 'FOR EVERY INPUT', by the rows' own cells (each row's printed sentence says how): CodeDoes: loops · CodeApart: loops.
  DERIVED. THE GIVEN ROWS OF THIS SEAT. 6 by the template 'for every input the law returns true; each argument reads behind the call as it read before'; 0 by the template 'total and deterministic' (their statements: YtpbdjpoohpocfabTotals.lean).
  GIVEN WITH THE SEED: the statements are not yours to turn. If you find one false, say at which input.
  Laid BY PROGRAM, IN A SANDBOX (cutbox-rows.mjs): the forced cells as the released guide's own fill.sh prints them over the translation 1516f3374c9d3a5b… (all of the seat's roots in one cut). By AI agents, Wed Nov 11 2026. No macro, syntax, notation, axiom, sorry.
-/
import Derived.Test.YtpbdjpoohpocfabChecked
import GoSem.Claim
import GoSem.ClaimJoined
import GoSem.ClaimMapViews
import Derived.JoinedTies
import Derived.KernelRfl
namespace Go.Proofs.Ytpbdjpoohpocfab
/- THE CELL 'sum', in the pinned program and in every row, IS THE sha256 OF THE DUMP (.gsa) THAT YtpbdjpoohpocfabProg.lean LOADS. Nothing in Lean hashes anything: it is a label: what it is worth is what the hold of that sum in a sandbox is worth. -/
noncomputable def Try.pinned : Pinned := { name := "ytpbdjpoohpocfab", sum := "1516f3374c9d3a5ba1a0853c1fe192f4c499f1093eb2ead53cff29fef228cd8d", checked := Try.checked }
namespace Rows
def none {H : Type} : Left H := { results := [], args := [] }

/-- 'overwinterlaw.StoreMore': WHATEVER THE INPUT: true; the input reads as it did. -/
def storeMoreSpec : ChangeSpec := { name := "storeMore", fn := fun _ => fun
  | [d1, d2, d3] => { results := [.lit (.bool true)], args := [d1, d2, d3] }
  | _ => none }
def storeMoreRow : OpenClaim := { program := "ytpbdjpoohpocfab", sum := "1516f3374c9d3a5ba1a0853c1fe192f4c499f1093eb2ead53cff29fef228cd8d", func := "overwinter/overwinterlaw.StoreMore", spec := "storeMore", unfollowed := true, recurses := true, plainKeys := false, apart := false }
def StoreMoreSaid : Prop := storeMoreRow.holds Try.pinned (OpenSpec.ofChange storeMoreSpec)

/-- ITS FALSE NEIGHBOUR: 'it returns false'. Refute it at one input. -/
def storeMoreWrong : ChangeSpec := { name := "storeMore", fn := fun _ => fun
  | [d1, d2, d3] => { results := [.lit (.bool false)], args := [d1, d2, d3] }
  | _ => none }
def StoreMoreWrongFalsely : Prop := storeMoreRow.holds Try.pinned (OpenSpec.ofChange storeMoreWrong)

/-- 'overwinterlaw.MemoryDoes': WHATEVER THE INPUT: true; the input reads as it did. -/
def memoryDoesSpec : ChangeSpec := { name := "memoryDoes", fn := fun _ => fun
  | [d] => { results := [.lit (.bool true)], args := [d] }
  | _ => none }
def memoryDoesRow : OpenClaim := { program := "ytpbdjpoohpocfab", sum := "1516f3374c9d3a5ba1a0853c1fe192f4c499f1093eb2ead53cff29fef228cd8d", func := "overwinter/overwinterlaw.MemoryDoes", spec := "memoryDoes", unfollowed := true, recurses := true, plainKeys := false, apart := false }
def MemoryDoesSaid : Prop := memoryDoesRow.holds Try.pinned (OpenSpec.ofChange memoryDoesSpec)

/-- ITS FALSE NEIGHBOUR: 'it returns false'. Refute it at one input. -/
def memoryDoesWrong : ChangeSpec := { name := "memoryDoes", fn := fun _ => fun
  | [d] => { results := [.lit (.bool false)], args := [d] }
  | _ => none }
def MemoryDoesWrongFalsely : Prop := memoryDoesRow.holds Try.pinned (OpenSpec.ofChange memoryDoesWrong)

/-- 'overwinterlaw.MemoryClean': WHATEVER THE INPUT: true; the input reads as it did. -/
def memoryCleanSpec : ChangeSpec := { name := "memoryClean", fn := fun _ => fun
  | [d] => { results := [.lit (.bool true)], args := [d] }
  | _ => none }
def memoryCleanRow : OpenClaim := { program := "ytpbdjpoohpocfab", sum := "1516f3374c9d3a5ba1a0853c1fe192f4c499f1093eb2ead53cff29fef228cd8d", func := "overwinter/overwinterlaw.MemoryClean", spec := "memoryClean", unfollowed := true, recurses := true, plainKeys := false, apart := false }
def MemoryCleanSaid : Prop := memoryCleanRow.holds Try.pinned (OpenSpec.ofChange memoryCleanSpec)

/-- ITS FALSE NEIGHBOUR: 'it returns false'. Refute it at one input. -/
def memoryCleanWrong : ChangeSpec := { name := "memoryClean", fn := fun _ => fun
  | [d] => { results := [.lit (.bool false)], args := [d] }
  | _ => none }
def MemoryCleanWrongFalsely : Prop := memoryCleanRow.holds Try.pinned (OpenSpec.ofChange memoryCleanWrong)

/-- 'overwinterlaw.MemoryApart': WHATEVER THE INPUT: true; the input reads as it did. -/
def memoryApartSpec : ChangeSpec := { name := "memoryApart", fn := fun _ => fun
  | [d1, d2, d3] => { results := [.lit (.bool true)], args := [d1, d2, d3] }
  | _ => none }
def memoryApartRow : OpenClaim := { program := "ytpbdjpoohpocfab", sum := "1516f3374c9d3a5ba1a0853c1fe192f4c499f1093eb2ead53cff29fef228cd8d", func := "overwinter/overwinterlaw.MemoryApart", spec := "memoryApart", unfollowed := true, recurses := true, plainKeys := false, apart := false }
def MemoryApartSaid : Prop := memoryApartRow.holds Try.pinned (OpenSpec.ofChange memoryApartSpec)

/-- ITS FALSE NEIGHBOUR: 'it returns false'. Refute it at one input. -/
def memoryApartWrong : ChangeSpec := { name := "memoryApart", fn := fun _ => fun
  | [d1, d2, d3] => { results := [.lit (.bool false)], args := [d1, d2, d3] }
  | _ => none }
def MemoryApartWrongFalsely : Prop := memoryApartRow.holds Try.pinned (OpenSpec.ofChange memoryApartWrong)

/-- 'overwinterlaw.CodeDoes': WHATEVER THE INPUT: true; the input reads as it did. -/
def codeDoesSpec : ChangeSpec := { name := "codeDoes", fn := fun _ => fun
  | [d1, d2, d3, d4, d5] => { results := [.lit (.bool true)], args := [d1, d2, d3, d4, d5] }
  | _ => none }
def codeDoesRow : OpenClaim := { program := "ytpbdjpoohpocfab", sum := "1516f3374c9d3a5ba1a0853c1fe192f4c499f1093eb2ead53cff29fef228cd8d", func := "overwinter/overwinterlaw.CodeDoes", spec := "codeDoes", unfollowed := true, recurses := true, loops := true, plainKeys := false, apart := false }
def CodeDoesSaid : Prop := codeDoesRow.holds Try.pinned (OpenSpec.ofChange codeDoesSpec)

/-- ITS FALSE NEIGHBOUR: 'it returns false'. Refute it at one input. -/
def codeDoesWrong : ChangeSpec := { name := "codeDoes", fn := fun _ => fun
  | [d1, d2, d3, d4, d5] => { results := [.lit (.bool false)], args := [d1, d2, d3, d4, d5] }
  | _ => none }
def CodeDoesWrongFalsely : Prop := codeDoesRow.holds Try.pinned (OpenSpec.ofChange codeDoesWrong)

/-- 'overwinterlaw.CodeApart': WHATEVER THE INPUT: true; the input reads as it did. -/
def codeApartSpec : ChangeSpec := { name := "codeApart", fn := fun _ => fun
  | [d1, d2, d3] => { results := [.lit (.bool true)], args := [d1, d2, d3] }
  | _ => none }
def codeApartRow : OpenClaim := { program := "ytpbdjpoohpocfab", sum := "1516f3374c9d3a5ba1a0853c1fe192f4c499f1093eb2ead53cff29fef228cd8d", func := "overwinter/overwinterlaw.CodeApart", spec := "codeApart", unfollowed := true, recurses := true, loops := true, plainKeys := false, apart := false }
def CodeApartSaid : Prop := codeApartRow.holds Try.pinned (OpenSpec.ofChange codeApartSpec)

/-- ITS FALSE NEIGHBOUR: 'it returns false'. Refute it at one input. -/
def codeApartWrong : ChangeSpec := { name := "codeApart", fn := fun _ => fun
  | [d1, d2, d3] => { results := [.lit (.bool false)], args := [d1, d2, d3] }
  | _ => none }
def CodeApartWrongFalsely : Prop := codeApartRow.holds Try.pinned (OpenSpec.ofChange codeApartWrong)

/- THE SECOND FORM. 'bulk': how many values and letters a reading holds, each counted each time it is reached (what is shared counts as often as it is met; a slice's spare places count too). A statement '..UptoSaid' is the law's where the arguments, and the package variables that the reading takes, are together of bulk at most 1048576: NARROWER than '..Said'. Prove '..Said' where nothing that the law and all that it calls make is longer than what came in: it says more and counts as full. Else prove '..UptoSaid'. A law counts once. -/
mutual
def uptoBulk {H : Type} : DataW H → Nat
  | .lit (.string bytes) => bytes.length + 1
  | .lit _ => 1
  | .nil => 1
  | .ptr d => uptoBulk d + 1
  | .slice elems spare => uptoBulkAll elems + uptoBulkAll spare + 1
  | .agg parts => uptoBulkAll parts + 1
  | .iface _ d => uptoBulk d + 1
  | .map entries => uptoBulkEntries entries + 1
  | .held _ => 1
def uptoBulkAll {H : Type} : List (DataW H) → Nat
  | [] => 0
  | d :: r => uptoBulk d + uptoBulkAll r
def uptoBulkEntries {H : Type} : List (Lit × DataW H) → Nat
  | [] => 0
  | x :: r => uptoBulkEntry x + uptoBulkEntries r
def uptoBulkEntry {H : Type} : Lit × DataW H → Nat
  | (.string bytes, d) => bytes.length + uptoBulk d + 1
  | (_, d) => uptoBulk d + 1
 end
def uptoSmall : (H : Type) → List (DataW H) → Bool := fun _ ds => decide (uptoBulkAll ds ≤ 1048576)
def OpenSpec.upto (s : _root_.Go.ChangeSpec) : _root_.Go.OpenSpec := { _root_.Go.OpenSpec.ofChange s with cond := some uptoSmall }

/-- 'overwinterlaw.StoreMore', WHERE WHAT IT READS IS OF BULK AT MOST 1048576: true; the input reads as it did. -/
def storeMoreUptoRow : OpenClaim := { program := "ytpbdjpoohpocfab", sum := "1516f3374c9d3a5ba1a0853c1fe192f4c499f1093eb2ead53cff29fef228cd8d", func := "overwinter/overwinterlaw.StoreMore", spec := "storeMore", unfollowed := true, recurses := true, plainKeys := false, apart := false, narrowed := true }
def StoreMoreUptoSaid : Prop := storeMoreUptoRow.holds Try.pinned (OpenSpec.upto storeMoreSpec)

/-- 'overwinterlaw.MemoryDoes', WHERE WHAT IT READS IS OF BULK AT MOST 1048576: true; the input reads as it did. -/
def memoryDoesUptoRow : OpenClaim := { program := "ytpbdjpoohpocfab", sum := "1516f3374c9d3a5ba1a0853c1fe192f4c499f1093eb2ead53cff29fef228cd8d", func := "overwinter/overwinterlaw.MemoryDoes", spec := "memoryDoes", unfollowed := true, recurses := true, plainKeys := false, apart := false, narrowed := true }
def MemoryDoesUptoSaid : Prop := memoryDoesUptoRow.holds Try.pinned (OpenSpec.upto memoryDoesSpec)

/-- 'overwinterlaw.MemoryClean', WHERE WHAT IT READS IS OF BULK AT MOST 1048576: true; the input reads as it did. -/
def memoryCleanUptoRow : OpenClaim := { program := "ytpbdjpoohpocfab", sum := "1516f3374c9d3a5ba1a0853c1fe192f4c499f1093eb2ead53cff29fef228cd8d", func := "overwinter/overwinterlaw.MemoryClean", spec := "memoryClean", unfollowed := true, recurses := true, plainKeys := false, apart := false, narrowed := true }
def MemoryCleanUptoSaid : Prop := memoryCleanUptoRow.holds Try.pinned (OpenSpec.upto memoryCleanSpec)

/-- 'overwinterlaw.MemoryApart', WHERE WHAT IT READS IS OF BULK AT MOST 1048576: true; the input reads as it did. -/
def memoryApartUptoRow : OpenClaim := { program := "ytpbdjpoohpocfab", sum := "1516f3374c9d3a5ba1a0853c1fe192f4c499f1093eb2ead53cff29fef228cd8d", func := "overwinter/overwinterlaw.MemoryApart", spec := "memoryApart", unfollowed := true, recurses := true, plainKeys := false, apart := false, narrowed := true }
def MemoryApartUptoSaid : Prop := memoryApartUptoRow.holds Try.pinned (OpenSpec.upto memoryApartSpec)

/-- 'overwinterlaw.CodeDoes', WHERE WHAT IT READS IS OF BULK AT MOST 1048576: true; the input reads as it did. -/
def codeDoesUptoRow : OpenClaim := { program := "ytpbdjpoohpocfab", sum := "1516f3374c9d3a5ba1a0853c1fe192f4c499f1093eb2ead53cff29fef228cd8d", func := "overwinter/overwinterlaw.CodeDoes", spec := "codeDoes", unfollowed := true, recurses := true, loops := true, plainKeys := false, apart := false, narrowed := true }
def CodeDoesUptoSaid : Prop := codeDoesUptoRow.holds Try.pinned (OpenSpec.upto codeDoesSpec)

/-- 'overwinterlaw.CodeApart', WHERE WHAT IT READS IS OF BULK AT MOST 1048576: true; the input reads as it did. -/
def codeApartUptoRow : OpenClaim := { program := "ytpbdjpoohpocfab", sum := "1516f3374c9d3a5ba1a0853c1fe192f4c499f1093eb2ead53cff29fef228cd8d", func := "overwinter/overwinterlaw.CodeApart", spec := "codeApart", unfollowed := true, recurses := true, loops := true, plainKeys := false, apart := false, narrowed := true }
def CodeApartUptoSaid : Prop := codeApartUptoRow.holds Try.pinned (OpenSpec.upto codeApartSpec)

end Rows
end Go.Proofs.Ytpbdjpoohpocfab
