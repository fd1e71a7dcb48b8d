/- Rows of such trees that are being made by append. -/
import Derived.Test.YtpbdjpoohpocfabTreeO
namespace Go.Proofs.Ytpbdjpoohpocfab
set_option maxRecDepth 20000
set_option maxHeartbeats 4000000
namespace E

def appOr (v : Value) (ln m g : Nat) (w w' : World) : Prop := (v.ownBlock = some g ∧ ln + m ≤ capOf v ∧ Keep [g] w w') ∨ (g = w.heap.size ∧ Keep [] w w' ∧ w'.heap.size = w.heap.size + 1)

structure GrowE (te : Nat) (w : World) (B : Nat) (rv : Value) (ccs : List (List Value)) (ts : List AE) : Prop where
  own : Own w B te 4 rv ccs.length ccs.flatten
  len : ccs.length = ts.length
  els : ∀ j (hj : j < ts.length), AExprV w (ccs.getD j []) (ts[j]'hj)
  cnt : Cnts (fun b => cEs b ts) B w.heap.size
  apart : ∀ g, rv.ownBlock = some g → cEs g ts = 0
structure GrowS (te : Nat) (w : World) (B : Nat) (rv : Value) (ccs : List (List Value)) (ts : List AS) : Prop where
  own : Own w B te 12 rv ccs.length ccs.flatten
  len : ccs.length = ts.length
  els : ∀ j (hj : j < ts.length), AStmtV w (ccs.getD j []) (ts[j]'hj)
  cntS : Cnts (fun b => sSs b ts) B w.heap.size
  cntX : Cnts (fun b => xSs b ts) B w.heap.size
  apart : ∀ g, rv.ownBlock = some g → sSs g ts = 0 ∧ xSs g ts = 0

theorem AStmtV.length {w : World} {cs : List Value} {t : AS} (h : AStmtV w cs t) : cs.length = 12 := by
  cases h with
  | mk cb co he hf => simp [he.length, hf.length]

theorem GrowE.nil (te : Nat) (w : World) (B : Nat) : GrowE te w B (.slice none 0 0) [] [] :=
  ⟨Own.nil _ _ _ _, rfl, fun j hj => by simp at hj, (Cnts.zero _ _).congr fun b => by simp [cEs], fun g h => by cases h⟩
theorem GrowS.nil (te : Nat) (w : World) (B : Nat) : GrowS te w B (.slice none 0 0) [] [] :=
  ⟨Own.nil _ _ _ _, rfl, fun j hj => by simp at hj, (Cnts.zero _ _).congr fun b => by simp [sSs], (Cnts.zero _ _).congr fun b => by simp [xSs], fun g h => by cases h⟩

section
variable {te : Nat} {w w' : World} {B : Nat} {rv : Value} {ccs : List (List Value)}
theorem GrowE.keep {ts : List AE} (h : GrowE te w B rv ccs ts) (hk : Keep [] w w') : GrowE te w' B rv ccs ts :=
  ⟨h.own.keep hk (by simp), h.len, fun j hj => (h.els j hj).keep hk, h.cnt.mono (Nat.le_refl _) hk.size, h.apart⟩
theorem GrowS.keep {ts : List AS} (h : GrowS te w B rv ccs ts) (hk : Keep [] w w') : GrowS te w' B rv ccs ts :=
  ⟨h.own.keep hk (by simp), h.len, fun j hj => (h.els j hj).keep hk, h.cntS.mono (Nat.le_refl _) hk.size, h.cntX.mono (Nat.le_refl _) hk.size, h.apart⟩
/-- A block of another kind turns. -/
theorem GrowE.other {ts : List AE} {x : Nat} (h : GrowE te w B rv ccs ts) (hk : Keep [x] w w') (hx : x < B) : GrowE te w' B rv ccs ts :=
  ⟨h.own.keep hk (fun k hk => by have := (h.own.lt k hk).1; simp; omega), h.len, fun j hj => (h.els j hj).keepBut hk (cEs_at (h.cnt.out x (.inl hx)) j hj), h.cnt.mono (Nat.le_refl _) hk.size, h.apart⟩

theorem getD_snoc {ccs : List (List Value)} {c : List Value} (j : Nat) (hj : j < ccs.length + 1) : (ccs ++ [c]).getD j [] = if j = ccs.length then c else ccs.getD j [] := by
  split
  · rename_i h
    subst h
    simp [List.getD_eq_getElem?_getD]
  · rw [List.getD_eq_getElem?_getD, List.getD_eq_getElem?_getD, List.getElem?_append_left (by omega)]

theorem GrowE.app {ts : List AE} {w1 : World} {cs : List Value} {t : AE} {g cap : Nat} (h : GrowE te w B rv ccs ts) (ht : AExprV w1 cs t) (hc : Cnts (fun b => cE b t) w.heap.size w1.heap.size) (hk : Keep [] w w1) (hB : B ≤ w.heap.size)
    (ho : Own w' B te 4 (.slice (some ⟨g, 0, none⟩) (ccs.length + 1) cap) (ccs.length + 1) (ccs.flatten ++ cs)) (hor : appOr rv ccs.length 1 g w1 w') : GrowE te w' B (.slice (some ⟨g, 0, none⟩) (ccs.length + 1) cap) (ccs ++ [cs]) (ts ++ [t]) := by
  have h1 := h.keep hk
  have hsz : w1.heap.size ≤ w'.heap.size := by rcases hor with ⟨_, _, h⟩ | ⟨_, h, _⟩ <;> exact h.size
  have hgB : B ≤ g ∧ g < w'.heap.size := ho.lt g rfl
  have hg0 : cEs g ts = 0 ∧ cE g t = 0 := by
    rcases hor with ⟨h2, _, _⟩ | ⟨h2, _, _⟩
    · exact ⟨h.apart g h2, hc.out g (.inl (h.own.lt g h2).2)⟩
    · exact ⟨h1.cnt.out g (.inr (by omega)), hc.out g (.inr (by omega))⟩
  have hels : ∀ j (hj : j < ts.length), AExprV w' (ccs.getD j []) (ts[j]'hj) := fun j hj => by
    rcases hor with ⟨_, _, h2⟩ | ⟨_, h2, _⟩
    · exact (h1.els j hj).keepBut h2 (cEs_at hg0.1 j hj)
    · exact (h1.els j hj).keep h2
  have ht' : AExprV w' cs t := by
    rcases hor with ⟨_, _, h2⟩ | ⟨_, h2, _⟩
    · exact ht.keepBut h2 hg0.2
    · exact ht.keep h2
  refine ⟨?_, by simp [h.len], fun j hj => ?_, ?_, fun k hk => ?_⟩
  · have e1 : (ccs ++ [cs]).length = ccs.length + 1 := by simp
    have e2 : (ccs ++ [cs]).flatten = ccs.flatten ++ cs := by simp
    rw [e1, e2]
    exact ho
  · have hl := h.len
    rw [getD_snoc j (by simp at hj; omega)]
    simp only [List.length_append, List.length_cons, List.length_nil] at hj
    by_cases e : j = ccs.length
    · rw [if_pos e, List.getElem_append_right (by omega)]
      simp
      exact ht'
    · rw [if_neg e, List.getElem_append_left (by omega)]
      exact hels j (by omega)
  · exact ((h.cnt.add hc hB hk.size).mono (Nat.le_refl _) hsz).congr fun b => by rw [cEs_append]; simp [cEs]
  · simp [Value.ownBlock] at hk
    subst hk
    rw [cEs_append]
    simp [cEs]
    omega

theorem GrowS.app {ts : List AS} {w1 : World} {cs : List Value} {t : AS} {g cap : Nat} (h : GrowS te w B rv ccs ts) (ht : AStmtV w1 cs t) (hcS : Cnts (fun b => sS b t) w.heap.size w1.heap.size) (hcX : Cnts (fun b => xS b t) w.heap.size w1.heap.size) (hk : Keep [] w w1) (hB : B ≤ w.heap.size)
    (ho : Own w' B te 12 (.slice (some ⟨g, 0, none⟩) (ccs.length + 1) cap) (ccs.length + 1) (ccs.flatten ++ cs)) (hor : appOr rv ccs.length 1 g w1 w') : GrowS te w' B (.slice (some ⟨g, 0, none⟩) (ccs.length + 1) cap) (ccs ++ [cs]) (ts ++ [t]) := by
  have h1 := h.keep hk
  have hsz : w1.heap.size ≤ w'.heap.size := by rcases hor with ⟨_, _, h⟩ | ⟨_, h, _⟩ <;> exact h.size
  have hgB : B ≤ g ∧ g < w'.heap.size := ho.lt g rfl
  have hg0 : (sSs g ts = 0 ∧ xSs g ts = 0) ∧ sS g t = 0 ∧ xS g t = 0 := by
    rcases hor with ⟨h2, _, _⟩ | ⟨h2, _, _⟩
    · exact ⟨h.apart g h2, hcS.out g (.inl (h.own.lt g h2).2), hcX.out g (.inl (h.own.lt g h2).2)⟩
    · exact ⟨⟨h1.cntS.out g (.inr (by omega)), h1.cntX.out g (.inr (by omega))⟩, hcS.out g (.inr (by omega)), hcX.out g (.inr (by omega))⟩
  have hels : ∀ j (hj : j < ts.length), AStmtV w' (ccs.getD j []) (ts[j]'hj) := fun j hj => by
    rcases hor with ⟨_, _, h2⟩ | ⟨_, h2, _⟩
    · exact (h1.els j hj).keepBut h2 (sSs_at hg0.1.1 j hj) (xSs_at hg0.1.2 j hj)
    · exact (h1.els j hj).keep h2
  have ht' : AStmtV w' cs t := by
    rcases hor with ⟨_, _, h2⟩ | ⟨_, h2, _⟩
    · exact ht.keepBut h2 hg0.2.1 hg0.2.2
    · exact ht.keep h2
  refine ⟨?_, by simp [h.len], fun j hj => ?_, ?_, ?_, fun k hk => ?_⟩
  · have e1 : (ccs ++ [cs]).length = ccs.length + 1 := by simp
    have e2 : (ccs ++ [cs]).flatten = ccs.flatten ++ cs := by simp
    rw [e1, e2]
    exact ho
  · have hl := h.len
    rw [getD_snoc j (by simp at hj; omega)]
    simp only [List.length_append, List.length_cons, List.length_nil] at hj
    by_cases e : j = ccs.length
    · rw [if_pos e, List.getElem_append_right (by omega)]
      simp
      exact ht'
    · rw [if_neg e, List.getElem_append_left (by omega)]
      exact hels j (by omega)
  · exact ((h.cntS.add hcS hB hk.size).mono (Nat.le_refl _) hsz).congr fun b => by rw [sSs_append]; simp [sSs]
  · exact ((h.cntX.add hcX hB hk.size).mono (Nat.le_refl _) hsz).congr fun b => by rw [xSs_append]; simp [xSs]
  · simp [Value.ownBlock] at hk
    subst hk
    rw [sSs_append, xSs_append]
    simp [sSs, xSs]
    omega

theorem GrowE.done {ts : List AE} (h : GrowE te w B rv ccs ts) : ∃ g, AExprsV w rv g ts ∧ Cnts (fun b => hit g b ts.length + cEs b ts) B w.heap.size := by
  have hk : ∀ c ∈ ccs, c.length = 4 := fun c hm => by
    obtain ⟨i, hi, rfl⟩ := List.mem_iff_getElem.1 hm
    have := (h.els i (by rw [← h.len]; exact hi)).length
    rwa [List.getD_eq_getElem?_getD, List.getElem?_eq_getElem hi] at this
  obtain ⟨a, cap, hv, hr⟩ := own_rowAt h.own hk
  rw [h.len] at hv hr
  rcases Nat.eq_zero_or_pos ts.length with h0 | h0
  · refine ⟨0, ⟨a, cap, fun _ => [], hv, fun h1 => by omega, fun i hi => by omega⟩, h.cnt.congr fun b => by rw [h0]; simp [hit]⟩
  · obtain ⟨g, q, ha, hF, hra⟩ := hr h0
    have hlt := h.own.lt g hF
    rcases h.own.2 with ⟨_, h2⟩ | ⟨g', cap', cur, h1, _, hb, _, _, _⟩
    · rw [h.len] at h2; omega
    · rw [h1] at hF hv
      simp [Value.ownBlock] at hF
      subst hF
      injection hv with e1 e2 e3
      rw [← e1] at ha
      injection ha with ha
      injection ha with _ e4
      subst e4
      exact ⟨g', ⟨_, cap', _, by rw [h1, h.len], fun _ => ⟨rfl, ⟨_, _, hb⟩, hra⟩, h.els⟩, h.cnt.row (h.apart g' (by rw [h1]; rfl)) hlt.1 hlt.2⟩
theorem GrowS.done {ts : List AS} (h : GrowS te w B rv ccs ts) : ∃ g, AStmtsV w rv g ts ∧ Cnts (fun b => hit g b ts.length + sSs b ts) B w.heap.size := by
  have hk : ∀ c ∈ ccs, c.length = 12 := fun c hm => by
    obtain ⟨i, hi, rfl⟩ := List.mem_iff_getElem.1 hm
    have := (h.els i (by rw [← h.len]; exact hi)).length
    rwa [List.getD_eq_getElem?_getD, List.getElem?_eq_getElem hi] at this
  obtain ⟨a, cap, hv, hr⟩ := own_rowAt h.own hk
  rw [h.len] at hv hr
  rcases Nat.eq_zero_or_pos ts.length with h0 | h0
  · refine ⟨0, ⟨a, cap, fun _ => [], hv, fun h1 => by omega, fun i hi => by omega⟩, h.cntS.congr fun b => by rw [h0]; simp [hit]⟩
  · obtain ⟨g, q, ha, hF, hra⟩ := hr h0
    have hlt := h.own.lt g hF
    rcases h.own.2 with ⟨_, h2⟩ | ⟨g', cap', cur, h1, _, hb, _, _, _⟩
    · rw [h.len] at h2; omega
    · rw [h1] at hF hv
      simp [Value.ownBlock] at hF
      subst hF
      injection hv with e1 e2 e3
      rw [← e1] at ha
      injection ha with ha
      injection ha with _ e4
      subst e4
      exact ⟨g', ⟨_, cap', _, by rw [h1, h.len], fun _ => ⟨rfl, ⟨_, _, hb⟩, hra⟩, h.els⟩, h.cntS.row (h.apart g' (by rw [h1]; rfl)).1 hlt.1 hlt.2⟩
end
end E
end Go.Proofs.Ytpbdjpoohpocfab
