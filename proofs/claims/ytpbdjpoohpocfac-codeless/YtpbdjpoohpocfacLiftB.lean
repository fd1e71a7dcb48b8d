/- Lists of bools, as an argument of a law is read. -/
import Derived.Test.YtpbdjpoohpocfacLesC
import Derived.Test.YtpbdjpoohpocfacLiftC
namespace Go.Proofs.Ytpbdjpoohpocfac
set_option maxRecDepth 20000
set_option maxHeartbeats 4000000
namespace E
open Go.Proofs

def ArgB (B : Nat) (w : World) (v : Value) (l : List Bool) : Prop := BoolsV (fun b => b < B) w v l

theorem argB_of {H : Type} {enc : TypeId × Value → H} {w : World} {v : Value} {d : DataW H} {ps : List MemPlace} (h : DataW.Trod enc Try.prog w 0 (fun _ => true) true 26 v d ps) (hv : v.cells = #[v]) : ∃ l, ArgB w.heap.size w v l := by
  obtain ⟨fuel, hf⟩ := h
  rw [hv] at hf
  obtain ⟨a, cap, L, cc, hcs, hr, hq, _⟩ := open_rows (Q := fun cs (b : Bool) => cs = [.bool b]) 1 (by decide) Try.underlying26 (by decide +kernel) (fun m _ cs x h => by
    obtain ⟨b, hb, _⟩ := DataW.trod_bool Try.underlying4 h
    exact ⟨b, hb⟩) hf
  simp at hcs
  refine ⟨L, a, cap, hcs, fun h0 => ?_⟩
  obtain ⟨b, q, ha, hF, hra⟩ := hr h0
  refine ⟨b, q, ha, hF, fun i hi => ?_⟩
  have := hra i hi
  rw [hq i hi] at this
  show w.rangeAt b (q + i * 1) [.bool (L.getD i false)]
  rw [List.getD_eq_getElem?_getD, List.getElem?_eq_getElem hi]
  exact this

theorem codeLess_in {w : World} {x y : Value} {vs : List VarT} {body : List ST} {kp : List Bool} (h : ProgV (fun b => b < w.heap.size) w x vs body) (hk : ArgB w.heap.size w y kp) (k : Int) :
    Ret Try.prog 3 [x, y, .int .i64 k] w fun r w' => r = .bool true ∧ Keep [] w w' := codeLess_ret h hk (In.lt w) k
end E
end Go.Proofs.Ytpbdjpoohpocfac
