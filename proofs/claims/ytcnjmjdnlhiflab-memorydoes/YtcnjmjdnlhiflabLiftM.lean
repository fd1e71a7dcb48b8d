/- Lists of steps of a memory, as an argument of a law is read, are such as the walks know. -/
import Derived.Test.YtcnjmjdnlhiflabMoD
import Derived.Test.YtcnjmjdnlhiflabRdL
namespace Go.Proofs.Ytcnjmjdnlhiflab
set_option maxRecDepth 20000
namespace E
open Go.Proofs

section
variable {H : Type} {enc : TypeId × Value → H} {w : World} {base : Nat} {spare : Nat → Bool} {held : Bool} {fuel : Nat} {cs : List Value} {x : DataW H × List MemPlace}

theorem trod_mstep (h : DataW.trod enc Try.prog w base spare held fuel 54 cs = some x) : ∃ s : MStep, cs = scell s := by
  obtain ⟨xs, n, _, _, hl, hlen, hf⟩ := DataW.trod_struct Try.underlying54 h
  have c : Try.prog.cellsOf 54 = 5 := by decide +kernel
  have c3 : Try.prog.cellsOf 3 = 1 := by decide +kernel
  have c2 : Try.prog.cellsOf 2 = 1 := by decide +kernel
  have c33 : Try.prog.cellsOf 26 = 1 := by decide +kernel
  rw [c] at hl
  have f0 : DataW.trod enc Try.prog w base spare held n 3 ((cs.drop 0).take (Try.prog.cellsOf 3)) = xs[0]? := hf 0 _ rfl
  have f1 : DataW.trod enc Try.prog w base spare held n 3 ((cs.drop 1).take (Try.prog.cellsOf 3)) = xs[1]? := hf 1 _ rfl
  have f2 : DataW.trod enc Try.prog w base spare held n 3 ((cs.drop 2).take (Try.prog.cellsOf 3)) = xs[2]? := hf 2 _ rfl
  have f3 : DataW.trod enc Try.prog w base spare held n 2 ((cs.drop 3).take (Try.prog.cellsOf 2)) = xs[3]? := hf 3 _ rfl
  have f4 : DataW.trod enc Try.prog w base spare held n 26 ((cs.drop 4).take (Try.prog.cellsOf 26)) = xs[4]? := hf 4 _ rfl
  have hx : ∀ i, i < 5 → ∃ y, xs[i]? = some y := fun i hi => ⟨xs[i]'(by rw [hlen]; exact hi), List.getElem?_eq_getElem _⟩
  obtain ⟨y0, e0⟩ := hx 0 (by decide)
  obtain ⟨y1, e1⟩ := hx 1 (by decide)
  obtain ⟨y2, e2⟩ := hx 2 (by decide)
  obtain ⟨y3, e3⟩ := hx 3 (by decide)
  obtain ⟨y4, e4⟩ := hx 4 (by decide)
  rw [e0, c3] at f0
  rw [e1, c3] at f1
  rw [e2, c3] at f2
  rw [e3, c2] at f3
  rw [e4, c33] at f4
  obtain ⟨d, hd, _⟩ := trod_int1 Try.underlying3 f0
  obtain ⟨a, ha, _⟩ := trod_int1 Try.underlying3 f1
  obtain ⟨k, hk, _⟩ := trod_int1 Try.underlying3 f2
  obtain ⟨z, hz, _⟩ := trod_int1 Try.underlying2 f3
  obtain ⟨m, hm, _⟩ := trod_int1 Try.underlying26 f4
  refine ⟨⟨d, a, k, z, m⟩, ?_⟩
  have hsplit : cs = (cs.drop 0).take 1 ++ ((cs.drop 1).take 1 ++ ((cs.drop 2).take 1 ++ ((cs.drop 3).take 1 ++ (cs.drop 4).take 1))) := by
    match cs, hl with
    | [_, _, _, _, _], _ => rfl
  rw [hsplit, hd, ha, hk, hz, hm]
  rfl
end

theorem argM_of {H : Type} {enc : TypeId × Value → H} {w : World} {v : Value} {d : DataW H} {ps : List MemPlace} (h : DataW.Trod enc Try.prog w 0 (fun _ => true) true 45 v d ps) (hv : v.cells = #[v]) : ∃ st, ArgM w.heap.size w v st := by
  obtain ⟨fuel, hf⟩ := h
  obtain ⟨a, cap, L, hcs, hr, _⟩ := open_list scell (fun _ : MStep => True) 5 (by decide) Try.underlying45 (by decide +kernel) (fun s _ => scell_length s) (fun n cs x h => (trod_mstep h).imp fun s hs => ⟨hs, trivial⟩) hf
  rw [hv] at hcs
  simp at hcs
  exact ⟨L, ⟨a, cap, hcs, hr⟩, Nat.le_refl _⟩
end E
end Go.Proofs.Ytcnjmjdnlhiflab
