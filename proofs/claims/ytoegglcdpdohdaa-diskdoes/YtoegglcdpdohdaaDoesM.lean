/- A disk and the document's disk: how they stand to each other. -/
import Derived.Test.YtoegglcdpdohdaaPlateC
namespace Go.Proofs.Ytoegglcdpdohdaa
namespace E

/-- The sectors S and the waiting writes L are those of the writes Q, of which n are made sure of. -/
structure Rel (S : List Int) (L Q : List Wr) (n : Nat) : Prop where
  drop : Q.drop n = L
  sec : ∀ k, k < 34 → sector S k = readQ (Q.take n) (k : Int)

section
variable {S : List Int} {L Q : List Wr} {n : Nat}

theorem Rel.init : Rel S0 [] [] 0 := ⟨rfl, fun k hk => by
  simp only [sector, S0, List.drop_replicate, List.take_replicate]
  rw [Nat.min_eq_left (by omega)]
  rfl⟩

theorem Rel.len (h : Rel S L Q n) : L.length = Q.length - n := by rw [← h.drop]; simp

theorem readQ_append (A L : List Wr) (i : Int) : readQ (A ++ L) i = match lastOf (fun p => (p.1 : Int) == i) L with | some p => p.2 | none => readQ A i := by
  unfold readQ lastOf
  rw [List.filter_append, List.getLast?_append]
  cases (L.filter fun p => (p.1 : Int) == i).getLast? <;> rfl

theorem readQ_out {i : Int} (hQ : ∀ q ∈ Q, q.1 < 34 ∧ q.2.length = 8) (hi : hasB i = false) : readQ Q i = List.replicate 8 0 := by
  have : lastOf (fun p => (p.1 : Int) == i) Q = none := by
    refine lastOf_none fun q hq => ?_
    have := (hQ q (by simpa using hq)).1
    simp [hasB] at hi
    simp
    omega
  simp [readQ, this, wzero]

theorem Rel.read (h : Rel S L Q n) (hQ : ∀ q ∈ Q, q.1 < 34 ∧ q.2.length = 8) (i : Int) : readD S L i = readQ Q i := by
  cases hb : hasB i with
  | false => rw [readD_out hb, readQ_out hQ hb]; rfl
  | true =>
    obtain ⟨k, rfl⟩ : ∃ k : Nat, i = (k : Int) := by
      have : 0 ≤ i := by simp [hasB] at hb; omega
      exact ⟨i.toNat, by omega⟩
    have hk : k < 34 := by simp [hasB] at hb; omega
    have e : Q = Q.take n ++ L := by rw [← h.drop, List.take_append_drop]
    rw [e, readQ_append]
    simp only [readD, hb, if_true]
    cases lastOf (fun p => (p.1 : Int) == (k : Int)) L with
    | none =>
      simp only [Int.toNat_natCast]
      exact h.sec k hk
    | some p => rfl

theorem Rel.write (h : Rel S L Q n) (hn : n ≤ Q.length) (p : Wr) : Rel S (L ++ [p]) (Q ++ [p]) n :=
  ⟨by rw [List.drop_append_of_le_length hn, h.drop], fun k hk => by rw [List.take_append_of_le_length hn]; exact h.sec k hk⟩

theorem Rel.flush (h : Rel S L Q n) (hS : S.length = 272) (hL : ∀ p ∈ L, p.1 < 34 ∧ p.2.length = 8) (hQ : ∀ q ∈ Q, q.1 < 34 ∧ q.2.length = 8) : Rel (settled (fun _ => true) L S) [] Q Q.length :=
  ⟨by simp, fun k hk => by rw [List.take_length, sector_flush hS hL hk, h.read hQ]⟩

theorem sector_kept {stays : Nat → Bool} {A : List Wr} (hS : S.length = 272) (hL : ∀ p ∈ L, p.1 < 34 ∧ p.2.length = 8) {k : Nat} (hk : k < 34) (h0 : sector S k = readQ A (k : Int)) : ∀ j, j ≤ L.length → sector (stl stays L j S) k = readQ (A ++ kept stays L j) (k : Int)
  | 0, _ => by rw [stl_zero, kept_zero, List.append_nil]; exact h0
  | j + 1, hj => by
    have hp : L[j]? = some L[j] := List.getElem?_eq_getElem hj
    have hm : L[j] ∈ L := List.getElem_mem hj
    have ih := sector_kept (stays := stays) hS hL hk h0 j (by omega)
    rw [stl_succ stays hp, kept_succ stays hp]
    split
    · rw [sector_upd (stl_length hL hS j (by omega)) (hL _ hm) hk, ← List.append_assoc, readQ_snoc, ih]
      by_cases e : L[j].1 = k
      · rw [if_pos e, if_pos (by omega)]
      · rw [if_neg e, if_neg (by omega)]
    · exact ih

theorem Rel.crash (h : Rel S L Q n) (hn : n ≤ Q.length) (hS : S.length = 272) (hL : ∀ p ∈ L, p.1 < 34 ∧ p.2.length = 8) (stays : Nat → Bool) :
    Rel (settled stays L S) [] (Q.take n ++ kept stays (Q.drop n) (Q.length - n)) (n + (kept stays (Q.drop n) (Q.length - n)).length) := by
  have hl : (Q.take n ++ kept stays (Q.drop n) (Q.length - n)).length = n + (kept stays (Q.drop n) (Q.length - n)).length := by
    rw [List.length_append, List.length_take, Nat.min_eq_left hn]
  refine ⟨by rw [← hl]; simp, fun k hk => ?_⟩
  rw [← hl, List.take_length, h.drop, ← h.len]
  exact sector_kept hS hL hk (h.sec k hk) L.length (Nat.le_refl _)
end
end E
end Go.Proofs.Ytoegglcdpdohdaa
