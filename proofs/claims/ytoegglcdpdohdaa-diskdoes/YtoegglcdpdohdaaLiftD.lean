/- A list of steps, as an argument of a law is read, is one that the walks know. -/
import Derived.Test.YtoegglcdpdohdaaArgD
import Derived.Test.YtoegglcdpdohdaaRd
namespace Go.Proofs.Ytoegglcdpdohdaa
namespace E
open Go.Proofs

theorem trod_step {H : Type} {enc : TypeId × Value → H} {w : World} {base : Nat} {spare : Nat → Bool} {held : Bool} {fuel : Nat} {cs : List Value} {x : DataW H × List MemPlace}
    (h : DataW.trod enc Try.prog w base spare held fuel 35 cs = some x) : ∃ s : DStep, cs = scell s ∧ s.ws.length = 8 := by
  obtain ⟨xs, n, _, _, hl, hlen, hf⟩ := DataW.trod_struct Try.underlying35 h
  have c35 : Try.prog.cellsOf 35 = 11 := by decide +kernel
  have c3 : Try.prog.cellsOf 3 = 1 := by decide +kernel
  have c2 : Try.prog.cellsOf 2 = 1 := by decide +kernel
  have c32 : Try.prog.cellsOf 32 = 8 := by decide +kernel
  have c33 : Try.prog.cellsOf 33 = 1 := by decide +kernel
  rw [c35] at hl
  have f0 : DataW.trod enc Try.prog w base spare held n 3 ((cs.drop 0).take (Try.prog.cellsOf 3)) = xs[0]? := hf 0 _ rfl
  have f1 : DataW.trod enc Try.prog w base spare held n 3 ((cs.drop 1).take (Try.prog.cellsOf 3)) = xs[1]? := hf 1 _ rfl
  have f2 : DataW.trod enc Try.prog w base spare held n 32 ((cs.drop 2).take (Try.prog.cellsOf 32)) = xs[2]? := hf 2 _ rfl
  have f3 : DataW.trod enc Try.prog w base spare held n 33 ((cs.drop 10).take (Try.prog.cellsOf 33)) = xs[3]? := hf 3 _ rfl
  have hx : ∀ i, i < 4 → ∃ y, xs[i]? = some y := fun i hi => ⟨xs[i]'(by rw [hlen]; exact hi), List.getElem?_eq_getElem _⟩
  obtain ⟨y0, e0⟩ := hx 0 (by decide)
  obtain ⟨y1, e1⟩ := hx 1 (by decide)
  obtain ⟨y2, e2⟩ := hx 2 (by decide)
  obtain ⟨y3, e3⟩ := hx 3 (by decide)
  rw [e0] at f0
  rw [e1] at f1
  rw [e2] at f2
  rw [e3] at f3
  rw [c3] at f0 f1
  rw [c32] at f2
  rw [c33] at f3
  obtain ⟨d, hd, _⟩ := trod_int1 Try.underlying3 f0
  obtain ⟨a, ha, _⟩ := trod_int1 Try.underlying3 f1
  obtain ⟨ws, hws, hw8⟩ := trod_ints Try.underlying32 Try.underlying2 c2 c32 f2
  obtain ⟨m, hm, _⟩ := trod_int1 Try.underlying33 f3
  refine ⟨⟨d, a, ws, m⟩, ?_, hw8⟩
  have hsplit : cs = (cs.drop 0).take 1 ++ ((cs.drop 1).take 1 ++ ((cs.drop 2).take 8 ++ (cs.drop 10).take 1)) := by
    match cs, hl with
    | [_, _, _, _, _, _, _, _, _, _, _], _ => rfl
  rw [hsplit, hd, ha, hws, hm]
  simp [scell, ints]

theorem argS_of {H : Type} {enc : TypeId × Value → H} {w : World} {v : Value} {d : DataW H} {ps : List MemPlace} (h : DataW.Trod enc Try.prog w 0 (fun _ => true) true 22 v d ps) (hv : v.cells = #[v]) : ∃ st, ArgS w v st := by
  obtain ⟨fuel, hf⟩ := h
  have c35 : Try.prog.cellsOf 35 = 11 := by decide +kernel
  rcases Go.Deep.open_slice Try.underlying22 hf with ⟨hcs, _⟩ | ⟨a, len, cap, m, n, D, Pl, hcs, _, hl, _, hm, _, hall⟩
  · rw [hv] at hcs
    simp at hcs
    exact ⟨[], ⟨none, 0, hcs, fun h => absurd rfl h⟩, by simp⟩
  · rw [hv] at hcs
    simp at hcs
    simp only [if_true] at hm
    have hel : ∀ i, i < len → ∃ s : DStep, s.ws.length = 8 ∧ ∀ j u, (scell s)[j]? = some u → w.cell? (a.add (i * 11 + j)) = some u := fun i hi => by
      obtain ⟨cs', h1, h2⟩ := hall i (by omega)
      rw [c35] at h1
      obtain ⟨s, rfl, h8⟩ := trod_step h2
      refine ⟨s, h8, fun j u hu => ?_⟩
      have := (cells?_get h1).2 j u hu
      rwa [Go.Deep.add_add] at this
    obtain ⟨st, hst, hp⟩ := choose_list len hel
    have h8 : ∀ s ∈ st, s.ws.length = 8 := fun s hs => by
      obtain ⟨i, hi⟩ := List.getElem?_of_mem hs
      exact (hp i s hi).1
    refine ⟨st, ⟨some a, cap, by rw [hcs, hst], fun hne => ?_⟩, h8⟩
    have hcell : ∀ j u, (scells st)[j]? = some u → w.cell? (a.add j) = some u := fun j u hu => by
      obtain ⟨s, h1, h2⟩ := flat_get (by decide : 0 < 11) (fun p hp => scell_length (h8 p hp)) hu
      have := (hp _ s h1).2 _ u h2
      rwa [Nat.mul_comm, Nat.div_add_mod] at this
    obtain ⟨s0, hs0⟩ : ∃ s, st[0]? = some s := by
      cases st with
      | nil => exact absurd rfl hne
      | cons s r => exact ⟨s, rfl⟩
    have hc0 := hcell 0 (.int .i64 s0.d) (by
      cases st with
      | nil => exact absurd rfl hne
      | cons s r => simp at hs0; subst hs0; rfl)
    have hsp : a.spot = none := by
      have := World.cell?_spot hc0
      simpa [Addr.add] using this
    obtain ⟨b, q, sp⟩ := a
    simp only at hsp
    subst hsp
    refine ⟨b, q, rfl, ?_, fun j u hu => by have := hcell j u hu; rwa [Addr.add_mid] at this⟩
    have := World.block_lt_of_cell? w _ hc0
    simpa [Addr.add] using this
end E
end Go.Proofs.Ytoegglcdpdohdaa
