/- Reading an argument: a slice whose elements are known. -/
import Derived.Test.YtpbdjpoohpocfabRd
namespace Go.Proofs.Ytpbdjpoohpocfab
set_option maxRecDepth 20000
namespace E

section
variable {H : Type} {enc : TypeId × Value → H} {P : Program} {w : World} {held : Bool} {fuel : Nat} {t e : TypeId} {cs : List Value} {x : DataW H × List MemPlace} {α : Type}

theorem open_list (f : α → List Value) (Q : α → Prop) (k : Nat) (hk : 0 < k) (ht : P.underlying t = some (.slice e)) (hc : P.cellsOf e = k) (hf : ∀ s, Q s → (f s).length = k)
    (hel : ∀ n cs x, DataW.trod enc P w 0 (fun _ => true) held n e cs = some x → ∃ s, cs = f s ∧ Q s) (h : DataW.trod enc P w 0 (fun _ => true) held fuel t cs = some x) :
    ∃ (a : Option Addr) (cap : Nat) (L : List α), cs = [.slice a L.length cap] ∧ (L ≠ [] → ∃ b q, a = some ⟨b, q, none⟩ ∧ b < w.heap.size ∧ w.rangeAt b q (L.flatMap f)) ∧ ∀ s ∈ L, Q s := by
  rcases Go.Deep.open_slice ht h with ⟨hcs, _⟩ | ⟨a, len, cap, m, n, D, Pl, hcs, _, hl, _, hm, _, hall⟩
  · exact ⟨none, 0, [], hcs, fun h => absurd rfl h, by simp⟩
  · simp only [if_true] at hm
    rw [hc] at hall
    have hel' : ∀ i, i < len → ∃ s : α, Q s ∧ ∀ j u, (f s)[j]? = some u → w.cell? (a.add (i * k + j)) = some u := fun i hi => by
      obtain ⟨cs', h1, h2⟩ := hall i (by omega)
      obtain ⟨s, rfl, hq⟩ := hel _ _ _ h2
      refine ⟨s, hq, fun j u hu => ?_⟩
      have := (cells?_get h1).2 j u hu
      rwa [Go.Deep.add_add] at this
    obtain ⟨L, hL, hp⟩ := choose_list len hel'
    have hQ : ∀ s ∈ L, Q s := fun s hs => by
      obtain ⟨i, hi⟩ := List.getElem?_of_mem hs
      exact (hp i s hi).1
    refine ⟨some a, cap, L, by rw [hcs, hL], fun hne => ?_, hQ⟩
    have hcell : ∀ j u, (L.flatMap f)[j]? = some u → w.cell? (a.add j) = some u := fun j u hu => by
      obtain ⟨s, h1, h2⟩ := flat_get hk (fun p hp => hf p (hQ p hp)) hu
      have := (hp _ s h1).2 _ u h2
      rwa [Nat.mul_comm, Nat.div_add_mod] at this
    obtain ⟨u0, hu0⟩ : ∃ u, (L.flatMap f)[0]? = some u := by
      cases L with
      | nil => exact absurd rfl hne
      | cons s r =>
        have hs := hf s (hQ s (by simp))
        refine ⟨(f s)[0]'(by omega), ?_⟩
        rw [List.flatMap_cons, List.getElem?_append_left (by omega), List.getElem?_eq_getElem (by omega)]
    have hc0 := hcell 0 u0 hu0
    have hsp : a.spot = none := by
      have := World.cell?_spot hc0
      simpa [Addr.add] using this
    obtain ⟨b, q, sp⟩ := a
    simp only at hsp
    subst hsp
    refine ⟨b, q, rfl, ?_, fun j u hu => by have := hcell j u hu; rwa [Addr.add_mid] at this⟩
    have := World.block_lt_of_cell? w _ hc0
    simpa [Addr.add] using this
end
end E
end Go.Proofs.Ytpbdjpoohpocfab
