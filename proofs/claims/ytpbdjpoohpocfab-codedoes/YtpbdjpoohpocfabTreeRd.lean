/- Reading an argument: trees of expressions and of statements. -/
import Derived.Test.YtpbdjpoohpocfabRdL
import Derived.Test.YtpbdjpoohpocfabTreeA
namespace Go.Proofs.Ytpbdjpoohpocfab
set_option maxRecDepth 20000
set_option maxHeartbeats 4000000
namespace E

section
variable {H : Type} {enc : TypeId × Value → H} {P : Program} {w : World} {base : Nat} {spare : Nat → Bool} {held : Bool}

theorem open_rows {α : Type} {Q : List Value → α → Prop} {fuel : Nat} {t e : TypeId} {cs : List Value} {x : DataW H × List MemPlace} (k : Nat) (hk : 0 < k) (ht : P.underlying t = some (.slice e)) (hc : P.cellsOf e = k)
    (hel : ∀ n, n < fuel → ∀ cs x, DataW.trod enc P w base spare held n e cs = some x → ∃ s, Q cs s) (h : DataW.trod enc P w base spare held fuel t cs = some x) :
    ∃ (a : Option Addr) (cap : Nat) (L : List α) (cc : Nat → List Value), cs = [.slice a L.length cap] ∧ RowAt (fun b => b < w.heap.size) w k a L.length cc ∧ (∀ i (hi : i < L.length), Q (cc i) (L[i]'hi)) ∧ L.length ≤ cap := by
  rcases DataW.trod_slice ht h with ⟨hcs, _⟩ | ⟨a, len, cap, elems, rest, n, hn, hcs, _, _, hcap, _, hlen, hall, _⟩
  · exact ⟨none, 0, [], fun _ => [], hcs, fun h => absurd h (by simp), fun i hi => by simp at hi, by simp⟩
  · rw [hc] at hall
    have hel' : ∀ i, i < len → ∃ s : List Value × α, Q s.1 s.2 ∧ w.cells? base (a.add (i * k)) k = some s.1 := fun i hi => by
      have h1 := hall i hi
      rw [List.getElem?_eq_getElem (by omega)] at h1
      cases hcl : w.cells? base (a.add (i * k)) k with
      | none => rw [hcl] at h1; cases h1
      | some cs' =>
        rw [hcl] at h1
        obtain ⟨s, hs⟩ := hel n (by omega) cs' _ h1
        exact ⟨(cs', s), hs, rfl⟩
    obtain ⟨L, hL, hp⟩ := choose_list len hel'
    have hget : ∀ i (hi : i < L.length), (((L[i]?).map (·.1)).getD []) = (L[i]'hi).1 := fun i hi => by rw [List.getElem?_eq_getElem hi]; rfl
    refine ⟨some a, cap, L.map (·.2), fun i => ((L[i]?).map (·.1)).getD [], by rw [hcs, List.length_map, hL], ?_, fun i hi => ?_, by rw [List.length_map, hL]; exact hcap⟩
    · intro h0
      rw [List.length_map] at h0
      have hcell : ∀ i (hi : i < L.length) j v, (L[i]'hi).1[j]? = some v → w.cell? (a.add (i * k + j)) = some v := fun i hi j v hv => by
        have := (cells?_get (hp i _ (List.getElem?_eq_getElem hi)).2).2 j v hv
        rwa [Go.Deep.add_add] at this
      have hl0 : (L[0]'h0).1.length = k := (cells?_get (hp 0 _ (List.getElem?_eq_getElem h0)).2).1
      have hc0 := hcell 0 h0 0 ((L[0]'h0).1[0]'(by omega)) (List.getElem?_eq_getElem (by omega))
      have hsp : a.spot = none := by
        have := World.cell?_spot hc0
        simpa [Addr.add] using this
      obtain ⟨b, q, sp⟩ := a
      simp only at hsp
      subst hsp
      refine ⟨b, q, rfl, ?_, fun i hi j v hv => ?_⟩
      · have := World.block_lt_of_cell? w _ hc0
        simpa [Addr.add] using this
      · rw [List.length_map] at hi
        replace hv : (((L[i]?).map (·.1)).getD [])[j]? = some v := hv
        rw [hget i hi] at hv
        have := hcell i hi j v hv
        rw [Addr.add_mid] at this
        rw [Nat.add_assoc]
        exact this
    · rw [List.length_map] at hi
      show Q (((L[i]?).map (·.1)).getD []) _
      rw [hget i hi, List.getElem_map]
      exact (hp i _ (List.getElem?_eq_getElem hi)).1

/-- An expression's four cells, each read. -/
def ExprSplit (enc : TypeId × Value → H) (P : Program) (w : World) (base : Nat) (spare : Nat → Bool) (held : Bool) (tI tL tLE tE : TypeId) : Prop :=
  ∀ fuel cs x, DataW.trod enc P w base spare held fuel tE cs = some x → ∃ n c0 c1 c2 c3, fuel = n + 1 ∧ cs = [c0, c1, c2, c3] ∧
    (∃ y, DataW.trod enc P w base spare held n tI [c0] = some y) ∧ (∃ y, DataW.trod enc P w base spare held n tI [c1] = some y) ∧ (∃ y, DataW.trod enc P w base spare held n tL [c2] = some y) ∧ (∃ y, DataW.trod enc P w base spare held n tLE [c3] = some y)
/-- A statement's cells, each part read. -/
def StmtSplit (enc : TypeId × Value → H) (P : Program) (w : World) (base : Nat) (spare : Nat → Bool) (held : Bool) (tI tE tLS tS : TypeId) : Prop :=
  ∀ fuel cs x, DataW.trod enc P w base spare held fuel tS cs = some x → ∃ n c0 c1 ce cf cb co, fuel = n + 1 ∧ cs = [c0, c1] ++ ce ++ cf ++ [cb, co] ∧
    (∃ y, DataW.trod enc P w base spare held n tI [c0] = some y) ∧ (∃ y, DataW.trod enc P w base spare held n tI [c1] = some y) ∧ (∃ y, DataW.trod enc P w base spare held n tE ce = some y) ∧ (∃ y, DataW.trod enc P w base spare held n tE cf = some y) ∧
    (∃ y, DataW.trod enc P w base spare held n tLS [cb] = some y) ∧ (∃ y, DataW.trod enc P w base spare held n tLS [co] = some y)

theorem int_cell {tI : TypeId} {n : Nat} {c : Value} {y : DataW H × List MemPlace} (hI : P.underlying tI = some (.int .i64)) (h : DataW.trod enc P w base spare held n tI [c] = some y) : ∃ z, c = .int .i64 z := by
  obtain ⟨z, hz, _⟩ := trod_int1 hI h
  simp at hz
  exact ⟨z, hz⟩

theorem trod_expr {tI tL tLE tE : TypeId} (hI : P.underlying tI = some (.int .i64)) (hL : P.underlying tL = some (.int .i64)) (hLE : P.underlying tLE = some (.slice tE)) (hc : P.cellsOf tE = 4) (hsp : ExprSplit enc P w base spare held tI tL tLE tE) :
    ∀ (fuel : Nat) (cs : List Value) (x : DataW H × List MemPlace), DataW.trod enc P w base spare held fuel tE cs = some x → ∃ t, ExprV (fun b => b < w.heap.size) w cs t := by
  intro fuel
  induction fuel using Nat.strongRecOn with
  | _ fuel ih =>
    intro cs x h
    obtain ⟨n, c0, c1, c2, c3, hn, rfl, ⟨_, h0⟩, ⟨_, h1⟩, ⟨_, h2⟩, ⟨_, h3⟩⟩ := hsp fuel cs x h
    obtain ⟨op, rfl⟩ := int_cell hI h0
    obtain ⟨v, rfl⟩ := int_cell hI h1
    obtain ⟨z, rfl⟩ := int_cell hL h2
    obtain ⟨a, cap, L, cc, hcs, hr, hq, _⟩ := open_rows (Q := ExprV (fun b => b < w.heap.size) w) 4 (by decide) hLE hc (fun m hm cs x h => ih m (by omega) cs x h) h3
    simp at hcs
    subst hcs
    exact ⟨.mk op v z L, .mk cc hr hq⟩

theorem trod_stmt {tI tL tLE tE tLS tS : TypeId} (hI : P.underlying tI = some (.int .i64)) (hL : P.underlying tL = some (.int .i64)) (hLE : P.underlying tLE = some (.slice tE)) (hc : P.cellsOf tE = 4) (hsp : ExprSplit enc P w base spare held tI tL tLE tE)
    (hLS : P.underlying tLS = some (.slice tS)) (hcS : P.cellsOf tS = 12) (hspS : StmtSplit enc P w base spare held tI tE tLS tS) :
    ∀ (fuel : Nat) (cs : List Value) (x : DataW H × List MemPlace), DataW.trod enc P w base spare held fuel tS cs = some x → ∃ t, StmtV (fun b => b < w.heap.size) w cs t := by
  intro fuel
  induction fuel using Nat.strongRecOn with
  | _ fuel ih =>
    intro cs x h
    obtain ⟨n, c0, c1, ce, cf, cb, co, hn, rfl, ⟨_, h0⟩, ⟨_, h1⟩, ⟨_, h2⟩, ⟨_, h3⟩, ⟨_, h4⟩, ⟨_, h5⟩⟩ := hspS fuel cs x h
    obtain ⟨op, rfl⟩ := int_cell hI h0
    obtain ⟨v, rfl⟩ := int_cell hI h1
    obtain ⟨e, he⟩ := trod_expr hI hL hLE hc hsp n ce _ h2
    obtain ⟨f, hf⟩ := trod_expr hI hL hLE hc hsp n cf _ h3
    obtain ⟨ab, capb, Lb, ccb, hcb, hrb, hqb, _⟩ := open_rows (Q := StmtV (fun b => b < w.heap.size) w) 12 (by decide) hLS hcS (fun m hm cs x h => ih m (by omega) cs x h) h4
    obtain ⟨ao, capo, Lo, cco, hco, hro, hqo, _⟩ := open_rows (Q := StmtV (fun b => b < w.heap.size) w) 12 (by decide) hLS hcS (fun m hm cs x h => ih m (by omega) cs x h) h5
    simp at hcb hco
    subst hcb
    subst hco
    exact ⟨.mk op v e f Lb Lo, .mk ccb cco he hf hrb hqb hro hqo⟩
end
end E
end Go.Proofs.Ytpbdjpoohpocfab
