/- Several texts in one: LiftC, LiftL. -/
import Derived.Test.YtbojicehfbeepadDoorJ02
import Derived.Test.YtbojicehfbeepadDoorJ05
import Derived.Test.YtbojicehfbeepadDoorJ06
/- Programs, as an argument of a law is read, are such as the walks know. -/
namespace Go.Proofs.YtbojicehfbeepadDoor
set_option maxRecDepth 20000
set_option maxHeartbeats 4000000
namespace E
open Go.Proofs

section
variable {H : Type} {enc : TypeId × Value → H} {w : World} {base : Nat} {spare : Nat → Bool} {held : Bool}

theorem cInt : Tryd.prog.cellsOf 3 = 1 := by decide +kernel
theorem cLong : Tryd.prog.cellsOf 2 = 1 := by decide +kernel
theorem cStr : Tryd.prog.cellsOf 9 = 1 := by decide +kernel
theorem cLE : Tryd.prog.cellsOf 36 = 1 := by decide +kernel
theorem cLS : Tryd.prog.cellsOf 23 = 1 := by decide +kernel
theorem cLV : Tryd.prog.cellsOf 22 = 1 := by decide +kernel
theorem cE4 : Tryd.prog.cellsOf 38 = 4 := by decide +kernel
theorem cS12 : Tryd.prog.cellsOf 40 = 12 := by decide +kernel
theorem cV2 : Tryd.prog.cellsOf 35 = 2 := by decide +kernel
theorem cP2 : Tryd.prog.cellsOf 25 = 2 := by decide +kernel

theorem exprSplit : ExprSplit enc Tryd.prog w base spare held 3 2 36 38 := by
  intro fuel cs x h
  obtain ⟨xs, n, hn, _, hl, hlen, hf⟩ := DataW.trod_struct Tryd.underlying38 h
  rw [cE4] at hl
  obtain ⟨c0, c1, c2, c3, rfl⟩ := list4 hl
  have f0 : DataW.trod enc Tryd.prog w base spare held n 3 (([c0, c1, c2, c3].drop 0).take (Tryd.prog.cellsOf 3)) = xs[0]? := hf 0 _ rfl
  have f1 : DataW.trod enc Tryd.prog w base spare held n 3 (([c0, c1, c2, c3].drop 1).take (Tryd.prog.cellsOf 3)) = xs[1]? := hf 1 _ rfl
  have f2 : DataW.trod enc Tryd.prog w base spare held n 2 (([c0, c1, c2, c3].drop 2).take (Tryd.prog.cellsOf 2)) = xs[2]? := hf 2 _ rfl
  have f3 : DataW.trod enc Tryd.prog w base spare held n 36 (([c0, c1, c2, c3].drop 3).take (Tryd.prog.cellsOf 36)) = xs[3]? := hf 3 _ rfl
  have hx : ∀ i, i < 4 → ∃ y, xs[i]? = some y := fun i hi => ⟨xs[i]'(by rw [hlen]; exact hi), List.getElem?_eq_getElem _⟩
  obtain ⟨y0, e0⟩ := hx 0 (by decide)
  obtain ⟨y1, e1⟩ := hx 1 (by decide)
  obtain ⟨y2, e2⟩ := hx 2 (by decide)
  obtain ⟨y3, e3⟩ := hx 3 (by decide)
  rw [e0, cInt] at f0
  rw [e1, cInt] at f1
  rw [e2, cLong] at f2
  rw [e3, cLE] at f3
  exact ⟨n, c0, c1, c2, c3, hn, rfl, ⟨y0, f0⟩, ⟨y1, f1⟩, ⟨y2, f2⟩, ⟨y3, f3⟩⟩

theorem list12P {cs : List Value} (h : cs.length = 12) : ∃ a b c d e f g i j k l m, cs = [a, b, c, d, e, f, g, i, j, k, l, m] := by
  match cs, h with
  | [a, b, c, d, e, f, g, i, j, k, l, m], _ => exact ⟨a, b, c, d, e, f, g, i, j, k, l, m, rfl⟩

theorem stmtSplit : StmtSplit enc Tryd.prog w base spare held 3 38 23 40 := by
  intro fuel cs x h
  obtain ⟨xs, n, hn, _, hl, hlen, hf⟩ := DataW.trod_struct Tryd.underlying40 h
  rw [cS12] at hl
  obtain ⟨c0, c1, d0, d1, d2, d3, g0, g1, g2, g3, cb, co, rfl⟩ := list12P hl
  have f0 : DataW.trod enc Tryd.prog w base spare held n 3 (([c0, c1, d0, d1, d2, d3, g0, g1, g2, g3, cb, co].drop 0).take (Tryd.prog.cellsOf 3)) = xs[0]? := hf 0 _ rfl
  have f1 : DataW.trod enc Tryd.prog w base spare held n 3 (([c0, c1, d0, d1, d2, d3, g0, g1, g2, g3, cb, co].drop 1).take (Tryd.prog.cellsOf 3)) = xs[1]? := hf 1 _ rfl
  have f2 : DataW.trod enc Tryd.prog w base spare held n 38 (([c0, c1, d0, d1, d2, d3, g0, g1, g2, g3, cb, co].drop 2).take (Tryd.prog.cellsOf 38)) = xs[2]? := hf 2 _ rfl
  have f3 : DataW.trod enc Tryd.prog w base spare held n 38 (([c0, c1, d0, d1, d2, d3, g0, g1, g2, g3, cb, co].drop 6).take (Tryd.prog.cellsOf 38)) = xs[3]? := hf 3 _ rfl
  have f4 : DataW.trod enc Tryd.prog w base spare held n 23 (([c0, c1, d0, d1, d2, d3, g0, g1, g2, g3, cb, co].drop 10).take (Tryd.prog.cellsOf 23)) = xs[4]? := hf 4 _ rfl
  have f5 : DataW.trod enc Tryd.prog w base spare held n 23 (([c0, c1, d0, d1, d2, d3, g0, g1, g2, g3, cb, co].drop 11).take (Tryd.prog.cellsOf 23)) = xs[5]? := hf 5 _ rfl
  have hx : ∀ i, i < 6 → ∃ y, xs[i]? = some y := fun i hi => ⟨xs[i]'(by rw [hlen]; exact hi), List.getElem?_eq_getElem _⟩
  obtain ⟨y0, e0⟩ := hx 0 (by decide)
  obtain ⟨y1, e1⟩ := hx 1 (by decide)
  obtain ⟨y2, e2⟩ := hx 2 (by decide)
  obtain ⟨y3, e3⟩ := hx 3 (by decide)
  obtain ⟨y4, e4⟩ := hx 4 (by decide)
  obtain ⟨y5, e5⟩ := hx 5 (by decide)
  rw [e0, cInt] at f0
  rw [e1, cInt] at f1
  rw [e2, cE4] at f2
  rw [e3, cE4] at f3
  rw [e4, cLS] at f4
  rw [e5, cLS] at f5
  exact ⟨n, c0, c1, [d0, d1, d2, d3], [g0, g1, g2, g3], cb, co, hn, rfl, ⟨y0, f0⟩, ⟨y1, f1⟩, ⟨y2, f2⟩, ⟨y3, f3⟩, ⟨y4, f4⟩, ⟨y5, f5⟩⟩

theorem varSplit : VarSplit enc Tryd.prog w base spare held 9 3 35 := by
  intro fuel cs x h
  obtain ⟨xs, n, hn, _, hl, hlen, hf⟩ := DataW.trod_struct Tryd.underlying35 h
  rw [cV2] at hl
  match cs, hl with
  | [c0, c1], _ =>
    have f0 : DataW.trod enc Tryd.prog w base spare held n 9 (([c0, c1].drop 0).take (Tryd.prog.cellsOf 9)) = xs[0]? := hf 0 _ rfl
    have f1 : DataW.trod enc Tryd.prog w base spare held n 3 (([c0, c1].drop 1).take (Tryd.prog.cellsOf 3)) = xs[1]? := hf 1 _ rfl
    have hx : ∀ i, i < 2 → ∃ y, xs[i]? = some y := fun i hi => ⟨xs[i]'(by rw [hlen]; exact hi), List.getElem?_eq_getElem _⟩
    obtain ⟨y0, e0⟩ := hx 0 (by decide)
    obtain ⟨y1, e1⟩ := hx 1 (by decide)
    rw [e0, cStr] at f0
    rw [e1, cInt] at f1
    exact ⟨n, c0, c1, hn, rfl, ⟨y0, f0⟩, ⟨y1, f1⟩⟩

theorem prog_of {cs : Array Value} {d : DataW H} {ps : List MemPlace} (h : DataW.Trod enc Tryd.prog w base spare held 25 (.agg cs) d ps) : ∃ vs body, ProgV (fun b => b < w.heap.size) w (.agg cs) vs body := by
  obtain ⟨fuel, hf0⟩ := h
  obtain ⟨xs, n, _, _, hl, hlen, hf⟩ := DataW.trod_struct Tryd.underlying25 hf0
  rw [cP2] at hl
  have hl' : cs.toList.length = 2 := hl
  obtain ⟨c0, c1, hcs⟩ : ∃ c0 c1, cs.toList = [c0, c1] := by
    match cs.toList, hl' with
    | [c0, c1], _ => exact ⟨c0, c1, rfl⟩
  have f0 : DataW.trod enc Tryd.prog w base spare held n 22 ((cs.toList.drop 0).take (Tryd.prog.cellsOf 22)) = xs[0]? := hf 0 _ rfl
  have f1 : DataW.trod enc Tryd.prog w base spare held n 23 ((cs.toList.drop 1).take (Tryd.prog.cellsOf 23)) = xs[1]? := hf 1 _ rfl
  have hx : ∀ i, i < 2 → ∃ y, xs[i]? = some y := fun i hi => ⟨xs[i]'(by rw [hlen]; exact hi), List.getElem?_eq_getElem _⟩
  obtain ⟨y0, e0⟩ := hx 0 (by decide)
  obtain ⟨y1, e1⟩ := hx 1 (by decide)
  rw [e0, cLV, hcs] at f0
  rw [e1, cLS, hcs] at f1
  obtain ⟨vv, vs, hvv, hV⟩ := trod_vars Tryd.underlying9 Tryd.underlying3 Tryd.underlying22 cV2 varSplit f0
  obtain ⟨a, cap, L, cc, hc, hr, hq, _⟩ := open_rows (Q := StmtV (fun b => b < w.heap.size) w) 12 (by decide) Tryd.underlying23 cS12 (fun m _ cs x h => trod_stmt Tryd.underlying3 Tryd.underlying2 Tryd.underlying36 cE4 exprSplit Tryd.underlying23 cS12 stmtSplit m cs x h) f1
  simp at hvv hc
  subst hvv
  subst hc
  refine ⟨vs, L, c0, .slice a L.length cap, ?_, hV, a, cap, cc, rfl, hr, hq⟩
  congr 1
  apply Array.ext'
  rw [hcs]
end
end E
end Go.Proofs.YtbojicehfbeepadDoor

/- Programs, as an argument of a law is read: their numbers are of 64 bits. -/
namespace Go.Proofs.YtbojicehfbeepadDoor
set_option maxRecDepth 20000
set_option maxHeartbeats 4000000
namespace E
open Go.Proofs

section
variable {H : Type} {enc : TypeId × Value → H} {P : Program} {w : World} {base : Nat} {spare : Nat → Bool} {held : Bool}
theorem int_cellL {tI : TypeId} {n : Nat} {c : Value} {y : DataW H × List MemPlace} (hI : P.underlying tI = some (.int .i64)) (h : DataW.trod enc P w base spare held n tI [c] = some y) : ∃ z, c = .int .i64 z ∧ in64 z := by
  obtain ⟨z, hz, hw⟩ := trod_int1 hI h
  simp at hz
  refine ⟨z, hz, ?_⟩
  simp only [Lit.wf, Bool.and_eq_true, decide_eq_true_eq] at hw
  have e1 : IntKind.i64.min = -9223372036854775808 := by decide
  have e2 : IntKind.i64.max = 9223372036854775807 := by decide
  rw [e1, e2] at hw
  exact hw
theorem longEs_of : ∀ (l : List ET), (∀ i (hi : i < l.length), longE (l[i]'hi)) → longEs l
  | [], _ => by simp only [longEs]
  | t :: r, h => by
    simp only [longEs]
    exact ⟨h 0 (by simp), longEs_of r fun i hi => h (i + 1) (by simp; exact hi)⟩
theorem longSs_of : ∀ (l : List ST), (∀ i (hi : i < l.length), longSt (l[i]'hi)) → longSs l
  | [], _ => by simp only [longSs]
  | t :: r, h => by
    simp only [longSs]
    exact ⟨h 0 (by simp), longSs_of r fun i hi => h (i + 1) (by simp; exact hi)⟩
theorem trod_exprL {tI tL tLE tE : TypeId} (hI : P.underlying tI = some (.int .i64)) (hL : P.underlying tL = some (.int .i64)) (hLE : P.underlying tLE = some (.slice tE)) (hc : P.cellsOf tE = 4) (hsp : ExprSplit enc P w base spare held tI tL tLE tE) :
    ∀ (fuel : Nat) (cs : List Value) (x : DataW H × List MemPlace), DataW.trod enc P w base spare held fuel tE cs = some x → ∃ t, ExprV (fun b => b < w.heap.size) w cs t ∧ longE t := by
  intro fuel
  induction fuel using Nat.strongRecOn with
  | _ fuel ih =>
    intro cs x h
    obtain ⟨n, c0, c1, c2, c3, hn, rfl, ⟨_, h0⟩, ⟨_, h1⟩, ⟨_, h2⟩, ⟨_, h3⟩⟩ := hsp fuel cs x h
    obtain ⟨op, rfl⟩ := int_cell hI h0
    obtain ⟨v, rfl⟩ := int_cell hI h1
    obtain ⟨z, rfl, hz⟩ := int_cellL hL h2
    obtain ⟨a, cap, L, cc, hcs, hr, hq, _⟩ := open_rows (Q := fun cs t => ExprV (fun b => b < w.heap.size) w cs t ∧ longE t) 4 (by decide) hLE hc (fun m hm cs x h => ih m (by omega) cs x h) h3
    simp at hcs
    subst hcs
    refine ⟨.mk op v z L, .mk cc hr (fun i hi => (hq i hi).1), ?_⟩
    simp only [longE]
    exact ⟨hz, longEs_of L fun i hi => (hq i hi).2⟩
theorem trod_stmtL {tI tL tLE tE tLS tS : TypeId} (hI : P.underlying tI = some (.int .i64)) (hL : P.underlying tL = some (.int .i64)) (hLE : P.underlying tLE = some (.slice tE)) (hc : P.cellsOf tE = 4) (hsp : ExprSplit enc P w base spare held tI tL tLE tE)
    (hLS : P.underlying tLS = some (.slice tS)) (hcS : P.cellsOf tS = 12) (hspS : StmtSplit enc P w base spare held tI tE tLS tS) :
    ∀ (fuel : Nat) (cs : List Value) (x : DataW H × List MemPlace), DataW.trod enc P w base spare held fuel tS cs = some x → ∃ t, StmtV (fun b => b < w.heap.size) w cs t ∧ longSt t := by
  intro fuel
  induction fuel using Nat.strongRecOn with
  | _ fuel ih =>
    intro cs x h
    obtain ⟨n, c0, c1, ce, cf, cb, co, hn, rfl, ⟨_, h0⟩, ⟨_, h1⟩, ⟨_, h2⟩, ⟨_, h3⟩, ⟨_, h4⟩, ⟨_, h5⟩⟩ := hspS fuel cs x h
    obtain ⟨op, rfl⟩ := int_cell hI h0
    obtain ⟨v, rfl⟩ := int_cell hI h1
    obtain ⟨e, he, le⟩ := trod_exprL hI hL hLE hc hsp n ce _ h2
    obtain ⟨f, hf, lf⟩ := trod_exprL hI hL hLE hc hsp n cf _ h3
    obtain ⟨ab, capb, Lb, ccb, hcb, hrb, hqb, _⟩ := open_rows (Q := fun cs t => StmtV (fun b => b < w.heap.size) w cs t ∧ longSt t) 12 (by decide) hLS hcS (fun m hm cs x h => ih m (by omega) cs x h) h4
    obtain ⟨ao, capo, Lo, cco, hco, hro, hqo, _⟩ := open_rows (Q := fun cs t => StmtV (fun b => b < w.heap.size) w cs t ∧ longSt t) 12 (by decide) hLS hcS (fun m hm cs x h => ih m (by omega) cs x h) h5
    simp at hcb hco
    subst hcb
    subst hco
    refine ⟨.mk op v e f Lb Lo, .mk ccb cco he hf hrb (fun i hi => (hqb i hi).1) hro (fun i hi => (hqo i hi).1), ?_⟩
    simp only [longSt]
    exact ⟨le, lf, longSs_of Lb fun i hi => (hqb i hi).2, longSs_of Lo fun i hi => (hqo i hi).2⟩
end
section
variable {H : Type} {enc : TypeId × Value → H} {w : World} {base : Nat} {spare : Nat → Bool} {held : Bool}
theorem prog_ofL {cs : Array Value} {d : DataW H} {ps : List MemPlace} (h : DataW.Trod enc Tryd.prog w base spare held 25 (.agg cs) d ps) : ∃ vs body, ProgV (fun b => b < w.heap.size) w (.agg cs) vs body ∧ longSs body := by
  obtain ⟨fuel, hf0⟩ := h
  obtain ⟨xs, n, _, _, hl, hlen, hf⟩ := DataW.trod_struct Tryd.underlying25 hf0
  rw [cP2] at hl
  have hl' : cs.toList.length = 2 := hl
  obtain ⟨c0, c1, hcs⟩ : ∃ c0 c1, cs.toList = [c0, c1] := by
    match cs.toList, hl' with
    | [c0, c1], _ => exact ⟨c0, c1, rfl⟩
  have f0 : DataW.trod enc Tryd.prog w base spare held n 22 ((cs.toList.drop 0).take (Tryd.prog.cellsOf 22)) = xs[0]? := hf 0 _ rfl
  have f1 : DataW.trod enc Tryd.prog w base spare held n 23 ((cs.toList.drop 1).take (Tryd.prog.cellsOf 23)) = xs[1]? := hf 1 _ rfl
  have hx : ∀ i, i < 2 → ∃ y, xs[i]? = some y := fun i hi => ⟨xs[i]'(by rw [hlen]; exact hi), List.getElem?_eq_getElem _⟩
  obtain ⟨y0, e0⟩ := hx 0 (by decide)
  obtain ⟨y1, e1⟩ := hx 1 (by decide)
  rw [e0, cLV, hcs] at f0
  rw [e1, cLS, hcs] at f1
  obtain ⟨vv, vs, hvv, hV⟩ := trod_vars Tryd.underlying9 Tryd.underlying3 Tryd.underlying22 cV2 varSplit f0
  obtain ⟨a, cap, L, cc, hc, hr, hq, _⟩ := open_rows (Q := fun cs t => StmtV (fun b => b < w.heap.size) w cs t ∧ longSt t) 12 (by decide) Tryd.underlying23 cS12 (fun m _ cs x h => trod_stmtL Tryd.underlying3 Tryd.underlying2 Tryd.underlying36 cE4 exprSplit Tryd.underlying23 cS12 stmtSplit m cs x h) f1
  simp at hvv hc
  subst hvv
  subst hc
  refine ⟨vs, L, ⟨c0, .slice a L.length cap, ?_, hV, a, cap, cc, rfl, hr, fun i hi => (hq i hi).1⟩, longSs_of L fun i hi => (hq i hi).2⟩
  congr 1
  apply Array.ext'
  rw [hcs]
end
end E
end Go.Proofs.YtbojicehfbeepadDoor
