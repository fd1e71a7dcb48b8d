/- Arrays of fourteen pages in memory; lists of masks. -/
import Derived.Test.YtcnjmjdnlhiflabStoP
namespace Go.Proofs.Ytcnjmjdnlhiflab
set_option maxRecDepth 20000
namespace E
open Go.Proofs

def arr (f : Nat → List Int) : List Value := (List.range 14).flatMap fun i => ints (f i)
def Full (f : Nat → List Int) : Prop := ∀ i, (f i).length = 8
theorem arr_length {f : Nat → List Int} (h : Full f) : (arr f).length = 112 := by
  rw [arr, flat_length (k := 8) fun i _ => by rw [ints_length, h i]]
  rfl
theorem arr_one (f : Nat → List Int) : ∀ u ∈ arr f, u.oneCell' = true := by
  intro u hu
  obtain ⟨i, _, hi⟩ := List.mem_flatMap.1 hu
  exact ints_one _ u hi
theorem arr_at {f : Nat → List Int} (h : Full f) {i : Nat} (hi : i < 14) : ((arr f).drop (i * 8)).take 8 = ints (f i) :=
  flat_at (fun i _ => by rw [ints_length, h i]) (by rw [List.getElem?_range hi])
def setF (f : Nat → List Int) (i : Nat) (ws : List Int) : Nat → List Int := fun k => if k = i then ws else f k
theorem setF_full {f : Nat → List Int} (h : Full f) (i : Nat) {ws : List Int} (hw : ws.length = 8) : Full (setF f i ws) := fun k => by
  unfold setF
  split
  · exact hw
  · exact h k
theorem range_split : ∀ i, i < 14 → List.range 14 = List.range i ++ i :: (List.range 14).drop (i + 1) ∧ (∀ x ∈ List.range i, x ≠ i) ∧ ∀ x ∈ (List.range 14).drop (i + 1), x ≠ i := by decide
theorem arr_set {f : Nat → List Int} (h : Full f) {i : Nat} (hi : i < 14) {ws : List Int} (hw : ws.length = 8) : splice (arr f) (i * 8) (ints ws) = arr (setF f i ws) := by
  obtain ⟨e, h1, h2⟩ := range_split i hi
  have e1 : arr f = (List.range i).flatMap (fun i => ints (f i)) ++ ints (f i) ++ ((List.range 14).drop (i + 1)).flatMap (fun i => ints (f i)) := by
    unfold arr
    generalize hC : (List.range 14).drop (i + 1) = C at *
    rw [e]
    simp [List.flatMap_append]
  have e2 : arr (setF f i ws) = (List.range i).flatMap (fun i => ints (f i)) ++ ints ws ++ ((List.range 14).drop (i + 1)).flatMap (fun i => ints (f i)) := by
    unfold arr
    generalize hC : (List.range 14).drop (i + 1) = C at *
    rw [e, List.flatMap_append, List.flatMap_cons]
    have c1 : (List.range i).flatMap (fun k => ints (setF f i ws k)) = (List.range i).flatMap (fun k => ints (f k)) := by
      rw [List.flatMap_def, List.flatMap_def]
      congr 1
      exact List.map_congr_left fun x hx => by simp only [setF]; rw [if_neg (h1 x hx)]
    have c2 : C.flatMap (fun k => ints (setF f i ws k)) = C.flatMap (fun k => ints (f k)) := by
      rw [List.flatMap_def, List.flatMap_def]
      congr 1
      exact List.map_congr_left fun x hx => by simp only [setF]; rw [if_neg (h2 x hx)]
    rw [c1, c2]
    simp [setF]
  have hl : ((List.range i).flatMap (fun i => ints (f i))).length = i * 8 := by
    rw [flat_length (k := 8) fun i _ => by rw [ints_length, h i]]
    simp
  rw [e1, e2, ← hl]
  have := splice_mid ((List.range i).flatMap (fun i => ints (f i))) (ints (f i)) (((List.range 14).drop (i + 1)).flatMap (fun i => ints (f i))) (ints ws) 0 (by rw [ints_length, ints_length, hw, h i]; decide)
  rw [splice_all (by rw [ints_length, ints_length, hw, h i])] at this
  exact this
theorem arr_congr {f g : Nat → List Int} (h : ∀ i, i < 14 → f i = g i) : arr f = arr g := by
  unfold arr
  rw [List.flatMap_def, List.flatMap_def]
  congr 1
  exact List.map_congr_left fun x hx => by rw [h x (List.mem_range.1 hx)]

theorem zero_arr : ((Try.prog.info? 38).bind (·.zero)).map (·.cells) = some (arr fun _ => z8).toArray := by kernel_rfl

def ucells (us : List Int) : List Value := us.flatMap fun z => [.int .u64 z]
structure ArgU (B : Nat) (w : World) (v : Value) (us : List Int) : Prop where
  ex : ∃ a cap, v = .slice a us.length cap ∧ (us ≠ [] → ∃ b q, a = some ⟨b, q, none⟩ ∧ b < B ∧ w.rangeAt b q (ucells us))
  le : B ≤ w.heap.size
theorem ArgU.keep {B : Nat} {w w' : World} {v : Value} {us : List Int} {fp : List Nat} (h : ArgU B w v us) (hk : Keep fp w w') (hn : ∀ k ∈ fp, B ≤ k) : ArgU B w' v us := by
  obtain ⟨a, cap, hv, hm⟩ := h.ex
  refine ⟨⟨a, cap, hv, fun hne => ?_⟩, Nat.le_trans h.le hk.size⟩
  obtain ⟨b, q, ha, hlt, hr⟩ := hm hne
  exact ⟨b, q, ha, hlt, hk.range hr (Nat.lt_of_lt_of_le hlt h.le) fun hm => by have := hn b hm; omega⟩
theorem ArgU.at {B : Nat} {w : World} {v : Value} {us : List Int} (h : ArgU B w v us) {j : Nat} {u : Int} (hu : us[j]? = some u) :
    ∃ b q cap, v = .slice (some ⟨b, q, none⟩) us.length cap ∧ b < B ∧ w.rangeAt b (q + j * 1) [.int .u64 u] := by
  obtain ⟨a, cap, hv, hm⟩ := h.ex
  obtain ⟨b, q, ha, hlt, hr⟩ := hm (by intro e; simp [e] at hu)
  refine ⟨b, q, cap, by rw [hv, ha], hlt, range_sub hr (j * 1) ?_⟩
  exact flat_at (k := 1) (f := fun z => [Value.int .u64 z]) (fun q _ => rfl) hu
theorem Pgs.up {B B' : Nat} {w : World} {v : Value} {ps : List Pg} (h : Pgs B w v ps) (hB : B ≤ B') (hw : B' ≤ w.heap.size) : Pgs B' w v ps := by
  obtain ⟨a, cap, hv, hm⟩ := h.ex
  refine ⟨⟨a, cap, hv, fun hne => ?_⟩, h.wf, hw⟩
  obtain ⟨b, q, ha, hlt, hr⟩ := hm hne
  exact ⟨b, q, ha, by omega, hr⟩
end E
end Go.Proofs.Ytcnjmjdnlhiflab
