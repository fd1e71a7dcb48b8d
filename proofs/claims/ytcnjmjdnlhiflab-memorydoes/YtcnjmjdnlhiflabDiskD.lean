/- The contracts of Disk.Read, Disk.settle, Disk.Flush, Disk.Crash, Disk.Sure. -/
import Derived.Test.YtcnjmjdnlhiflabDiskC
namespace Go.Proofs.Ytcnjmjdnlhiflab
set_option maxRecDepth 20000
namespace E
open Go.Proofs

/-- What is read of a sector. -/
def readD (S : List Int) (L : List Wr) (i : Int) : List Int :=
  if hasB i then (match lastOf (fun p => (p.1 : Int) == i) L with
    | some p => p.2
    | none => (S.drop (i.toNat * 8)).take 8) else List.replicate 8 0

theorem lastOf_mem {is : Wr → Bool} {L : List Wr} {p : Wr} (h : lastOf is L = some p) : p ∈ L := by
  have := List.mem_of_getLast? h
  exact (List.mem_filter.1 this).1

theorem readD_length {S : List Int} {L : List Wr} {i : Int} (hS : S.length = 272) (hL : ∀ p ∈ L, p.1 < 34 ∧ p.2.length = 8) : (readD S L i).length = 8 := by
  unfold readD
  split
  · rename_i h
    simp [hasB] at h
    split
    · rename_i p hp; exact (hL p (lastOf_mem hp)).2
    · simp [hS]; omega
  · simp

theorem sector_cells {S : List Int} (hS : S.length = 272) (u : Value) (j : Nat) (hj : j < 34) : ((ints S ++ [u]).drop (j * 8)).take 8 = ints ((S.drop (j * 8)).take 8) := by
  rw [List.drop_append_of_le_length (by rw [ints_length]; omega), List.take_append_of_le_length (by simp [ints_length]; omega)]
  simp [ints, List.map_take, List.map_drop]

end E
end Go.Proofs.Ytcnjmjdnlhiflab
