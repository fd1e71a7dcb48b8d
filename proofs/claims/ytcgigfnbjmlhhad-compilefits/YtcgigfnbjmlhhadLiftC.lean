/- Programs, as an argument of a law is read, are such as the walks know. -/
import Derived.Test.YtcgigfnbjmlhhadJ02
import Derived.Test.YtcgigfnbjmlhhadJ03
namespace Go.Proofs.Ytcgigfnbjmlhhad
set_option maxRecDepth 20000
set_option maxHeartbeats 4000000
namespace E
open Go.Proofs

/-- A program whose slice of statements is no longer than its capacity. -/
def CapB (x : Value) : Prop := ∃ vv a n c, x = .agg #[vv, .slice a n c] ∧ n ≤ c
section
variable {H : Type} {enc : TypeId × Value → H} {w : World} {base : Nat} {spare : Nat → Bool} {held : Bool}

theorem cInt : Try.prog.cellsOf 3 = 1 := by decide +kernel
theorem cLong : Try.prog.cellsOf 2 = 1 := by decide +kernel
theorem cStr : Try.prog.cellsOf 9 = 1 := by decide +kernel
theorem cLE : Try.prog.cellsOf 45 = 1 := by decide +kernel
theorem cLS : Try.prog.cellsOf 23 = 1 := by decide +kernel
theorem cLV : Try.prog.cellsOf 22 = 1 := by decide +kernel
theorem cE4 : Try.prog.cellsOf 47 = 4 := by decide +kernel
theorem cS12 : Try.prog.cellsOf 49 = 12 := by decide +kernel
theorem cV2 : Try.prog.cellsOf 51 = 2 := by decide +kernel
theorem cP2 : Try.prog.cellsOf 25 = 2 := by decide +kernel

theorem exprSplit : ExprSplit enc Try.prog w base spare held 3 2 45 47 := by
  intro fuel cs x h
  obtain ⟨xs, n, hn, _, hl, hlen, hf⟩ := DataW.trod_struct Try.underlying47 h
  rw [cE4] at hl
  obtain ⟨c0, c1, c2, c3, rfl⟩ := list4 hl
  have f0 : DataW.trod enc Try.prog w base spare held n 3 (([c0, c1, c2, c3].drop 0).take (Try.prog.cellsOf 3)) = xs[0]? := hf 0 _ rfl
  have f1 : DataW.trod enc Try.prog w base spare held n 3 (([c0, c1, c2, c3].drop 1).take (Try.prog.cellsOf 3)) = xs[1]? := hf 1 _ rfl
  have f2 : DataW.trod enc Try.prog w base spare held n 2 (([c0, c1, c2, c3].drop 2).take (Try.prog.cellsOf 2)) = xs[2]? := hf 2 _ rfl
  have f3 : DataW.trod enc Try.prog w base spare held n 45 (([c0, c1, c2, c3].drop 3).take (Try.prog.cellsOf 45)) = xs[3]? := hf 3 _ rfl
  have hx : ∀ i, i < 4 → ∃ y, xs[i]? = some y := fun i hi => ⟨xs[i]'(by rw [hlen]; exact hi), List.getElem?_eq_getElem _⟩
  obtain ⟨y0, e0⟩ := hx 0 (by decide)
  obtain ⟨y1, e1⟩ := hx 1 (by decide)
  obtain ⟨y2, e2⟩ := hx 2 (by decide)
  obtain ⟨y3, e3⟩ := hx 3 (by decide)
  rw [e0, cInt] at f0
  rw [e1, cInt] at f1
  rw [e2, cLong] at f2
  rw [e3, cLE] at f3
  exact ⟨n, c0, c1, c2, c3, hn, rfl, ⟨y0, f0⟩, ⟨y1, f1⟩, ⟨y2, f2⟩, ⟨y3, f3⟩⟩

theorem list12P {cs : List Value} (h : cs.length = 12) : ∃ a b c d e f g i j k l m, cs = [a, b, c, d, e, f, g, i, j, k, l, m] := by
  match cs, h with
  | [a, b, c, d, e, f, g, i, j, k, l, m], _ => exact ⟨a, b, c, d, e, f, g, i, j, k, l, m, rfl⟩

theorem stmtSplit : StmtSplit enc Try.prog w base spare held 3 47 23 49 := by
  intro fuel cs x h
  obtain ⟨xs, n, hn, _, hl, hlen, hf⟩ := DataW.trod_struct Try.underlying49 h
  rw [cS12] at hl
  obtain ⟨c0, c1, d0, d1, d2, d3, g0, g1, g2, g3, cb, co, rfl⟩ := list12P hl
  have f0 : DataW.trod enc Try.prog w base spare held n 3 (([c0, c1, d0, d1, d2, d3, g0, g1, g2, g3, cb, co].drop 0).take (Try.prog.cellsOf 3)) = xs[0]? := hf 0 _ rfl
  have f1 : DataW.trod enc Try.prog w base spare held n 3 (([c0, c1, d0, d1, d2, d3, g0, g1, g2, g3, cb, co].drop 1).take (Try.prog.cellsOf 3)) = xs[1]? := hf 1 _ rfl
  have f2 : DataW.trod enc Try.prog w base spare held n 47 (([c0, c1, d0, d1, d2, d3, g0, g1, g2, g3, cb, co].drop 2).take (Try.prog.cellsOf 47)) = xs[2]? := hf 2 _ rfl
  have f3 : DataW.trod enc Try.prog w base spare held n 47 (([c0, c1, d0, d1, d2, d3, g0, g1, g2, g3, cb, co].drop 6).take (Try.prog.cellsOf 47)) = xs[3]? := hf 3 _ rfl
  have f4 : DataW.trod enc Try.prog w base spare held n 23 (([c0, c1, d0, d1, d2, d3, g0, g1, g2, g3, cb, co].drop 10).take (Try.prog.cellsOf 23)) = xs[4]? := hf 4 _ rfl
  have f5 : DataW.trod enc Try.prog w base spare held n 23 (([c0, c1, d0, d1, d2, d3, g0, g1, g2, g3, cb, co].drop 11).take (Try.prog.cellsOf 23)) = xs[5]? := hf 5 _ rfl
  have hx : ∀ i, i < 6 → ∃ y, xs[i]? = some y := fun i hi => ⟨xs[i]'(by rw [hlen]; exact hi), List.getElem?_eq_getElem _⟩
  obtain ⟨y0, e0⟩ := hx 0 (by decide)
  obtain ⟨y1, e1⟩ := hx 1 (by decide)
  obtain ⟨y2, e2⟩ := hx 2 (by decide)
  obtain ⟨y3, e3⟩ := hx 3 (by decide)
  obtain ⟨y4, e4⟩ := hx 4 (by decide)
  obtain ⟨y5, e5⟩ := hx 5 (by decide)
  rw [e0, cInt] at f0
  rw [e1, cInt] at f1
  rw [e2, cE4] at f2
  rw [e3, cE4] at f3
  rw [e4, cLS] at f4
  rw [e5, cLS] at f5
  exact ⟨n, c0, c1, [d0, d1, d2, d3], [g0, g1, g2, g3], cb, co, hn, rfl, ⟨y0, f0⟩, ⟨y1, f1⟩, ⟨y2, f2⟩, ⟨y3, f3⟩, ⟨y4, f4⟩, ⟨y5, f5⟩⟩

theorem varSplit : VarSplit enc Try.prog w base spare held 9 3 51 := by
  intro fuel cs x h
  obtain ⟨xs, n, hn, _, hl, hlen, hf⟩ := DataW.trod_struct Try.underlying51 h
  rw [cV2] at hl
  match cs, hl with
  | [c0, c1], _ =>
    have f0 : DataW.trod enc Try.prog w base spare held n 9 (([c0, c1].drop 0).take (Try.prog.cellsOf 9)) = xs[0]? := hf 0 _ rfl
    have f1 : DataW.trod enc Try.prog w base spare held n 3 (([c0, c1].drop 1).take (Try.prog.cellsOf 3)) = xs[1]? := hf 1 _ rfl
    have hx : ∀ i, i < 2 → ∃ y, xs[i]? = some y := fun i hi => ⟨xs[i]'(by rw [hlen]; exact hi), List.getElem?_eq_getElem _⟩
    obtain ⟨y0, e0⟩ := hx 0 (by decide)
    obtain ⟨y1, e1⟩ := hx 1 (by decide)
    rw [e0, cStr] at f0
    rw [e1, cInt] at f1
    exact ⟨n, c0, c1, hn, rfl, ⟨y0, f0⟩, ⟨y1, f1⟩⟩

theorem prog_ofC {cs : Array Value} {d : DataW H} {ps : List MemPlace} (h : DataW.Trod enc Try.prog w base spare held 25 (.agg cs) d ps) : ∃ vs body, ProgV (fun b => b < w.heap.size) w (.agg cs) vs body ∧ CapB (.agg cs) := by
  obtain ⟨fuel, hf0⟩ := h
  obtain ⟨xs, n, _, _, hl, hlen, hf⟩ := DataW.trod_struct Try.underlying25 hf0
  rw [cP2] at hl
  have hl' : cs.toList.length = 2 := hl
  obtain ⟨c0, c1, hcs⟩ : ∃ c0 c1, cs.toList = [c0, c1] := by
    match cs.toList, hl' with
    | [c0, c1], _ => exact ⟨c0, c1, rfl⟩
  have f0 : DataW.trod enc Try.prog w base spare held n 22 ((cs.toList.drop 0).take (Try.prog.cellsOf 22)) = xs[0]? := hf 0 _ rfl
  have f1 : DataW.trod enc Try.prog w base spare held n 23 ((cs.toList.drop 1).take (Try.prog.cellsOf 23)) = xs[1]? := hf 1 _ rfl
  have hx : ∀ i, i < 2 → ∃ y, xs[i]? = some y := fun i hi => ⟨xs[i]'(by rw [hlen]; exact hi), List.getElem?_eq_getElem _⟩
  obtain ⟨y0, e0⟩ := hx 0 (by decide)
  obtain ⟨y1, e1⟩ := hx 1 (by decide)
  rw [e0, cLV, hcs] at f0
  rw [e1, cLS, hcs] at f1
  obtain ⟨vv, vs, hvv, hV⟩ := trod_vars Try.underlying9 Try.underlying3 Try.underlying22 cV2 varSplit f0
  obtain ⟨a, cap, L, cc, hc, hr, hq, hcap⟩ := open_rows (Q := StmtV (fun b => b < w.heap.size) w) 12 (by decide) Try.underlying23 cS12 (fun m _ cs x h => trod_stmt Try.underlying3 Try.underlying2 Try.underlying45 cE4 exprSplit Try.underlying23 cS12 stmtSplit m cs x h) f1
  simp at hvv hc
  subst hvv
  subst hc
  have hagg : Value.agg cs = .agg #[c0, .slice a L.length cap] := by
    congr 1
    apply Array.ext'
    rw [hcs]
  exact ⟨vs, L, ⟨c0, .slice a L.length cap, hagg, hV, a, cap, cc, rfl, hr, hq⟩, c0, a, L.length, cap, hagg, hcap⟩
theorem prog_of {cs : Array Value} {d : DataW H} {ps : List MemPlace} (h : DataW.Trod enc Try.prog w base spare held 25 (.agg cs) d ps) : ∃ vs body, ProgV (fun b => b < w.heap.size) w (.agg cs) vs body :=
  let ⟨vs, body, h, _⟩ := prog_ofC h
  ⟨vs, body, h⟩
end
end E
end Go.Proofs.Ytcgigfnbjmlhhad
