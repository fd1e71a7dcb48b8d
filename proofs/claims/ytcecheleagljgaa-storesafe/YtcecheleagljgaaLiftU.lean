/- A step by itself, and a list of masks, as arguments of a law are read. -/
import Derived.Test.YtcecheleagljgaaLiftS
import Derived.Test.YtcecheleagljgaaArr
import Derived.ProofKit
namespace Go.Proofs.Ytcecheleagljgaa
set_option maxRecDepth 20000
namespace E
open Go.Proofs Go.ChangeShapes Go.WideShapes Go.ChangeAt

theorem argU_of {H : Type} {enc : TypeId × Value → H} {w : World} {v : Value} {d : DataW H} {ps : List MemPlace} (h : DataW.Trod enc Try.prog w 0 (fun _ => true) true 64 v d ps) (hv : v.cells = #[v]) : ∃ us, ArgU w.heap.size w v us := by
  obtain ⟨fuel, hf⟩ := h
  obtain ⟨a, cap, L, hcs, hr, _⟩ := open_list (fun z : Int => [Value.int .u64 z]) (fun _ => True) 1 (by decide) Try.underlying64 (by decide +kernel) (fun s _ => rfl) (fun n cs x h => by
    obtain ⟨z, hz, _⟩ := trod_int1 Try.underlying33 h
    exact ⟨z, hz, trivial⟩) hf
  rw [hv] at hcs
  simp at hcs
  exact ⟨L, ⟨a, cap, hcs, hr⟩, Nat.le_refl _⟩

theorem step_of {H : Type} {enc : TypeId × Value → H} {w : World} {base : Nat} {v : Value} {d : DataW H} {ps : List MemPlace} (h : DataW.Trod enc Try.prog w 0 (fun _ => true) true 55 v d ps) (hv : Value.okWide Try.prog w .any base 55 v) : ∃ t : SStep, Pgs w.heap.size w t.pv t.ps ∧ v = .agg (tcell t).toArray := by
  obtain ⟨fuel, hf⟩ := h
  obtain ⟨t, ht, hp⟩ := trod_sstep hf
  refine ⟨t, hp, ?_⟩
  obtain ⟨cs, rfl, _⟩ := okWide_struct Try.underlying55 hv
  have : cs.toList = tcell t := ht
  rw [← this]
end E
end Go.Proofs.Ytcecheleagljgaa
