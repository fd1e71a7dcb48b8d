/- Plain mathematics of a disk: what a sector holds when writes are settled. -/
import Derived.Test.YtoegglcdpdohdaaAgain
namespace Go.Proofs.Ytoegglcdpdohdaa
namespace E

theorem sector_upd {S : List Int} {p : Wr} {k : Nat} (hS : S.length = 272) (hp : p.1 < 34 ∧ p.2.length = 8) (hk : k < 34) : sector (upd S p) k = if p.1 = k then p.2 else sector S k := by
  obtain ⟨a, ws⟩ := p
  simp only at hp ⊢
  unfold sector upd
  simp only
  apply List.ext_getElem?
  intro j
  by_cases e : a = k
  · subst e
    simp only [if_true, List.getElem?_take, List.getElem?_drop]
    split
    · rename_i hj
      rw [List.getElem?_append_left (by simp [hS, hp.2]; omega), List.getElem?_append_right (by simp [hS]; omega)]
      congr 1
      simp [hS]; omega
    · rename_i hj
      rw [List.getElem?_eq_none (by omega)]
  · simp only [e, if_false, List.getElem?_take, List.getElem?_drop]
    split
    · rename_i hj
      rcases Nat.lt_or_gt_of_ne e with h | h
      · rw [List.getElem?_append_right (by simp [hS, hp.2]; omega), List.getElem?_drop]
        congr 1
        simp [hS, hp.2]; omega
      · rw [List.append_assoc, List.getElem?_append_left (by simp [hS]; omega), List.getElem?_take, if_pos (by omega)]
    · rfl

/-- The words of the writes for a sector. -/
def forK (L : List Wr) (k : Nat) : List (List Int) := (L.filter fun p => p.1 == k).map (·.2)

theorem sector_stl {stays : Nat → Bool} {L : List Wr} {S : List Int} {k : Nat} (hS : S.length = 272) (hL : ∀ p ∈ L, p.1 < 34 ∧ p.2.length = 8) (hk : k < 34) : ∀ j, j ≤ L.length → sector (stl stays L j S) k = sector S k ∨ sector (stl stays L j S) k ∈ forK L k
  | 0, _ => .inl (by rw [stl_zero])
  | j + 1, h => by
    have hp : L[j]? = some L[j] := List.getElem?_eq_getElem h
    have hm : L[j] ∈ L := List.getElem_mem h
    rw [stl_succ stays hp]
    split
    · rw [sector_upd (stl_length hL hS j (by omega)) (hL _ hm) hk]
      split
      · rename_i e
        exact .inr (List.mem_map.2 ⟨L[j], List.mem_filter.2 ⟨hm, by simpa using e⟩, rfl⟩)
      · exact sector_stl hS hL hk j (by omega)
    · exact sector_stl hS hL hk j (by omega)

theorem sector_settled {stays : Nat → Bool} {L : List Wr} {S : List Int} {k : Nat} (hS : S.length = 272) (hL : ∀ p ∈ L, p.1 < 34 ∧ p.2.length = 8) (hk : k < 34) : sector (settled stays L S) k = sector S k ∨ sector (settled stays L S) k ∈ forK L k :=
  sector_stl hS hL hk L.length (Nat.le_refl _)

theorem hasB_nat {k : Nat} (hk : k < 34) : hasB (k : Int) = true := by simp [hasB]; omega

theorem lastOf_snoc (is : Wr → Bool) (L : List Wr) (p : Wr) : lastOf is (L ++ [p]) = if is p then some p else lastOf is L := by
  unfold lastOf
  rw [List.filter_append]
  by_cases h : is p = true
  · simp [h]
  · simp [h]

theorem readD_snoc {S : List Int} {L : List Wr} {p : Wr} {k : Nat} (hk : k < 34) : readD S (L ++ [p]) (k : Int) = if p.1 = k then p.2 else readD S L (k : Int) := by
  simp only [readD, hasB_nat hk, if_true, lastOf_snoc]
  by_cases e : p.1 = k
  · simp [e]
  · have : ((p.1 : Int) == (k : Int)) = false := by simp; omega
    simp [e, this]

theorem sector_all {L : List Wr} {S : List Int} {k : Nat} (hS : S.length = 272) (hL : ∀ p ∈ L, p.1 < 34 ∧ p.2.length = 8) (hk : k < 34) : ∀ j, j ≤ L.length → sector (stl (fun _ => true) L j S) k = readD S (L.take j) (k : Int)
  | 0, _ => by rw [stl_zero, List.take_zero, readD_nil hk]
  | j + 1, h => by
    have hp : L[j]? = some L[j] := List.getElem?_eq_getElem h
    have hm : L[j] ∈ L := List.getElem_mem h
    rw [stl_succ (fun _ => true) hp, if_pos rfl, sector_upd (stl_length hL hS j (by omega)) (hL _ hm) hk, List.take_succ_eq_append_getElem h, readD_snoc hk, sector_all hS hL hk j (by omega)]

theorem sector_flush {L : List Wr} {S : List Int} {k : Nat} (hS : S.length = 272) (hL : ∀ p ∈ L, p.1 < 34 ∧ p.2.length = 8) (hk : k < 34) : sector (settled (fun _ => true) L S) k = readD S L (k : Int) := by
  have := sector_all hS hL hk L.length (Nat.le_refl _)
  rwa [List.take_length] at this

theorem maskB_all : maskB 18446744073709551615 = fun _ => true := by
  funext i
  have h : ∀ j, j < 64 → (IntKind.u64.wrap (BitVec.ofInt 64 ((18446744073709551615 : Int).fdiv (2 ^ j)) &&& BitVec.ofInt 64 1).toNat == 1) = true := by decide +kernel
  exact h (i % 64) (Nat.mod_lt _ (by decide))

theorem readD_len {S : List Int} {L : List Wr} {k : Nat} (hS : S.length = 272) (hL : ∀ p ∈ L, p.1 < 34 ∧ p.2.length = 8) : (readD S L (k : Int)).length = 8 := readD_length hS hL

theorem forK_len {L : List Wr} {k : Nat} (hL : ∀ p ∈ L, p.1 < 34 ∧ p.2.length = 8) : ∀ x ∈ forK L k, x.length = 8 := by
  intro x hx
  obtain ⟨p, hp, rfl⟩ := List.mem_map.1 hx
  exact (hL p (List.mem_filter.1 hp).1).2
end E
end Go.Proofs.Ytoegglcdpdohdaa
