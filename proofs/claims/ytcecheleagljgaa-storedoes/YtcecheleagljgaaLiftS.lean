/- Lists of pages and of steps of a store, as an argument of a law is read, are such as the walks know. -/
import Derived.Test.YtcecheleagljgaaStoP
import Derived.Test.YtcecheleagljgaaRdL
namespace Go.Proofs.Ytcecheleagljgaa
set_option maxRecDepth 20000
namespace E
open Go.Proofs

section
variable {H : Type} {enc : TypeId × Value → H} {w : World} {base : Nat} {spare : Nat → Bool} {held : Bool} {fuel : Nat} {cs : List Value} {x : DataW H × List MemPlace}

theorem trod_page (h : DataW.trod enc Try.prog w base spare held fuel 66 cs = some x) : ∃ p : Pg, cs = pcell p ∧ p.2.length = 8 := by
  obtain ⟨xs, n, _, _, hl, hlen, hf⟩ := DataW.trod_struct Try.underlying66 h
  have c66 : Try.prog.cellsOf 66 = 9 := by decide +kernel
  have c3 : Try.prog.cellsOf 3 = 1 := by decide +kernel
  have c2 : Try.prog.cellsOf 2 = 1 := by decide +kernel
  have c32 : Try.prog.cellsOf 32 = 8 := by decide +kernel
  rw [c66] at hl
  have f0 : DataW.trod enc Try.prog w base spare held n 3 ((cs.drop 0).take (Try.prog.cellsOf 3)) = xs[0]? := hf 0 _ rfl
  have f1 : DataW.trod enc Try.prog w base spare held n 32 ((cs.drop 1).take (Try.prog.cellsOf 32)) = xs[1]? := hf 1 _ rfl
  have hx : ∀ i, i < 2 → ∃ y, xs[i]? = some y := fun i hi => ⟨xs[i]'(by rw [hlen]; exact hi), List.getElem?_eq_getElem _⟩
  obtain ⟨y0, e0⟩ := hx 0 (by decide)
  obtain ⟨y1, e1⟩ := hx 1 (by decide)
  rw [e0, c3] at f0
  rw [e1, c32] at f1
  obtain ⟨d, hd, _⟩ := trod_int1 Try.underlying3 f0
  obtain ⟨ws, hws, hw8⟩ := trod_ints Try.underlying32 Try.underlying2 c2 c32 f1
  refine ⟨(d, ws), ?_, hw8⟩
  have hsplit : cs = (cs.drop 0).take 1 ++ (cs.drop 1).take 8 := by
    match cs, hl with
    | [_, _, _, _, _, _, _, _, _], _ => rfl
  rw [hsplit, hd, hws]
  simp [pcell, ints]

theorem trod_pages (h : DataW.trod enc Try.prog w 0 (fun _ => true) held fuel 53 cs = some x) : ∃ pv ps, cs = [pv] ∧ Pgs w.heap.size w pv ps := by
  obtain ⟨a, cap, L, hcs, hr, hq⟩ := open_list pcell (fun p : Pg => p.2.length = 8) 9 (by decide) Try.underlying53 (by decide +kernel) (fun p hp => pcell_length hp) (fun n cs x h => trod_page h) h
  exact ⟨_, L, hcs, ⟨a, cap, rfl, hr⟩, hq, Nat.le_refl _⟩

theorem trod_sstep (h : DataW.trod enc Try.prog w 0 (fun _ => true) held fuel 55 cs = some x) : ∃ s : SStep, cs = tcell s ∧ Pgs w.heap.size w s.pv s.ps := by
  obtain ⟨xs, n, _, _, hl, hlen, hf⟩ := DataW.trod_struct Try.underlying55 h
  have c55 : Try.prog.cellsOf 55 = 4 := by decide +kernel
  have c3 : Try.prog.cellsOf 3 = 1 := by decide +kernel
  have c53 : Try.prog.cellsOf 53 = 1 := by decide +kernel
  have c33 : Try.prog.cellsOf 33 = 1 := by decide +kernel
  rw [c55] at hl
  have f0 : DataW.trod enc Try.prog w 0 (fun _ => true) held n 3 ((cs.drop 0).take (Try.prog.cellsOf 3)) = xs[0]? := hf 0 _ rfl
  have f1 : DataW.trod enc Try.prog w 0 (fun _ => true) held n 3 ((cs.drop 1).take (Try.prog.cellsOf 3)) = xs[1]? := hf 1 _ rfl
  have f2 : DataW.trod enc Try.prog w 0 (fun _ => true) held n 53 ((cs.drop 2).take (Try.prog.cellsOf 53)) = xs[2]? := hf 2 _ rfl
  have f3 : DataW.trod enc Try.prog w 0 (fun _ => true) held n 33 ((cs.drop 3).take (Try.prog.cellsOf 33)) = xs[3]? := hf 3 _ rfl
  have hx : ∀ i, i < 4 → ∃ y, xs[i]? = some y := fun i hi => ⟨xs[i]'(by rw [hlen]; exact hi), List.getElem?_eq_getElem _⟩
  obtain ⟨y0, e0⟩ := hx 0 (by decide)
  obtain ⟨y1, e1⟩ := hx 1 (by decide)
  obtain ⟨y2, e2⟩ := hx 2 (by decide)
  obtain ⟨y3, e3⟩ := hx 3 (by decide)
  rw [e0, c3] at f0
  rw [e1, c3] at f1
  rw [e2, c53] at f2
  rw [e3, c33] at f3
  obtain ⟨d, hd, _⟩ := trod_int1 Try.underlying3 f0
  obtain ⟨k, hk, _⟩ := trod_int1 Try.underlying3 f1
  obtain ⟨pv, ps, hpv, hps⟩ := trod_pages f2
  obtain ⟨m, hm, _⟩ := trod_int1 Try.underlying33 f3
  refine ⟨⟨d, k, pv, ps, m⟩, ?_, hps⟩
  have hsplit : cs = (cs.drop 0).take 1 ++ ((cs.drop 1).take 1 ++ ((cs.drop 2).take 1 ++ (cs.drop 3).take 1)) := by
    match cs, hl with
    | [_, _, _, _], _ => rfl
  rw [hsplit, hd, hk, hpv, hm]
  rfl
end

theorem argT_of {H : Type} {enc : TypeId × Value → H} {w : World} {v : Value} {d : DataW H} {ps : List MemPlace} (h : DataW.Trod enc Try.prog w 0 (fun _ => true) true 45 v d ps) (hv : v.cells = #[v]) : ∃ st, ArgT w.heap.size w v st := by
  obtain ⟨fuel, hf⟩ := h
  obtain ⟨a, cap, L, hcs, hr, hq⟩ := open_list tcell (fun s : SStep => Pgs w.heap.size w s.pv s.ps) 4 (by decide) Try.underlying45 (by decide +kernel) (fun s _ => tcell_length s) (fun n cs x h => trod_sstep h) hf
  rw [hv] at hcs
  simp at hcs
  exact ⟨L, ⟨a, cap, hcs, hr⟩, hq, Nat.le_refl _⟩

theorem argPg_of {H : Type} {enc : TypeId × Value → H} {w : World} {v : Value} {d : DataW H} {ps : List MemPlace} (h : DataW.Trod enc Try.prog w 0 (fun _ => true) true 53 v d ps) (hv : v.cells = #[v]) : ∃ pp, Pgs w.heap.size w v pp := by
  obtain ⟨fuel, hf⟩ := h
  obtain ⟨pv, pp, hcs, hp⟩ := trod_pages hf
  rw [hv] at hcs
  simp at hcs
  subst hcs
  exact ⟨pp, hp⟩
end E
end Go.Proofs.Ytcecheleagljgaa
