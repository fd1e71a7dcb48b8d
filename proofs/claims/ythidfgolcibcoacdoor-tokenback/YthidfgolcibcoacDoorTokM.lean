/- Plain mathematics of tokens: what a text's tokens are; the texts of tokens, with blanks between, are the same tokens again. -/
import Derived.Lib.ParseIntBTie
import Derived.Lib.ParseIntBCases
import Derived.Lib.ItoaLen
namespace Go.Proofs.YthidfgolcibcoacDoor
set_option maxRecDepth 20000
set_option maxHeartbeats 4000000
namespace E

open Go.Lib

/-! ### Numbers -/

def dig (c : UInt8) : Bool := decide (48 ≤ c.toNat) && decide (c.toNat ≤ 57)
theorem dig_iff (c : UInt8) : dig c = true ↔ 48 ≤ c.toNat ∧ c.toNat ≤ 57 := by simp [dig]

def valD (acc : Nat) : List UInt8 → Nat
  | [] => acc
  | c :: r => valD (acc * 10 + (c.toNat - 48)) r

theorem valD_le : ∀ (l : List UInt8) (acc : Nat), acc ≤ valD acc l
  | [], _ => Nat.le_refl _
  | c :: r, acc => by
    have h := valD_le r (acc * 10 + (c.toNat - 48))
    show acc ≤ valD (acc * 10 + (c.toNat - 48)) r
    omega

theorem valD_append : ∀ (l : List UInt8) (acc : Nat) (c : UInt8), valD acc (l ++ [c]) = valD acc l * 10 + (c.toNat - 48)
  | [], _, _ => rfl
  | _ :: r, _, c => valD_append r _ c

/-- Digits that spell a number that fits are parsed so. -/
theorem parseUintM_digs (M : Nat) (hM : M ≤ 18446744073709551615) : ∀ (l : List UInt8) (acc : Nat), l.all dig = true → valD acc l ≤ M → parseUintM M acc l = .ok (valD acc l)
  | [], _, _, _ => rfl
  | c :: r, acc, hd, hv => by
    rw [List.all_cons, Bool.and_eq_true] at hd
    have hc := (dig_iff c).1 hd.1
    have hle := valD_le r (acc * 10 + (c.toNat - 48))
    have hv2 : valD (acc * 10 + (c.toNat - 48)) r ≤ M := hv
    simp only [parseUintM]
    rw [if_pos hc, if_neg (by omega), if_neg (by omega)]
    exact parseUintM_digs M hM r _ hd.2 hv2

/-- What is parsed is digits, and their number. -/
theorem parseUintM_ok (M : Nat) : ∀ (l : List UInt8) (acc u : Nat), parseUintM M acc l = .ok u → l.all dig = true ∧ u = valD acc l
  | [], acc, u, h => by
    simp only [parseUintM] at h
    injection h with h
    exact ⟨rfl, h.symm⟩
  | c :: r, acc, u, h => by
    simp only [parseUintM] at h
    split at h
    · rename_i hc
      split at h
      · cases h
      · split at h
        · cases h
        · have ih := parseUintM_ok M r _ u h
          refine ⟨?_, ih.2⟩
          rw [List.all_cons, Bool.and_eq_true]
          exact ⟨(dig_iff c).2 hc, ih.1⟩
    · cases h

theorem ofNat_toNat48 (k : Nat) (h : k < 10) : (UInt8.ofNat (48 + k)).toNat = 48 + k := by
  rw [UInt8.toNat_ofNat']
  omega

theorem decDigits_ne (u : Nat) : decDigits u ≠ [] := by
  intro h
  have h1 := decDigits_length u
  have h2 := nDigits_pos u
  rw [h] at h1
  simp only [List.length_nil] at h1
  omega

theorem decDigits_digs (u : Nat) : (decDigits u).all dig = true := by
  induction u using Nat.strongRecOn with
  | _ u ih =>
    rw [decDigits]
    split
    · rename_i h
      rw [List.all_cons, Bool.and_eq_true]
      refine ⟨(dig_iff _).2 ?_, rfl⟩
      rw [ofNat_toNat48 _ h]; omega
    · rename_i h
      rw [List.all_append, Bool.and_eq_true, List.all_cons, Bool.and_eq_true]
      refine ⟨ih _ (by omega), (dig_iff _).2 ?_, rfl⟩
      rw [ofNat_toNat48 _ (by omega)]; omega

theorem valD_decDigits (u : Nat) : valD 0 (decDigits u) = u := by
  induction u using Nat.strongRecOn with
  | _ u ih =>
    rw [decDigits]
    split
    · rename_i h
      show 0 * 10 + ((UInt8.ofNat (48 + u)).toNat - 48) = u
      rw [ofNat_toNat48 _ h]; omega
    · rename_i h
      rw [valD_append, ih _ (by omega), ofNat_toNat48 _ (by omega)]
      omega

/-- The first digit is not 0, but of 0. -/
theorem decDigits_head (u : Nat) : (decDigits u).head? = some 48 → u = 0 := by
  induction u using Nat.strongRecOn with
  | _ u ih =>
    rw [decDigits]
    split
    · rename_i h
      intro he
      simp only [List.head?_cons, Option.some.injEq] at he
      have h2 := congrArg UInt8.toNat he
      rw [ofNat_toNat48 _ h] at h2
      have h3 : (48 : UInt8).toNat = 48 := rfl
      omega
    · rename_i h
      intro he
      have hne := decDigits_ne (u / 10)
      have ih2 := ih (u / 10) (by omega)
      cases hd : decDigits (u / 10) with
      | nil => exact absurd hd hne
      | cons c r =>
        rw [hd] at he ih2
        have := ih2 he
        omega

/-- As short as can be: digits, the first of them not 0, but of "0". -/
def shortD (l : List UInt8) : Bool := l.all dig && !l.isEmpty && (l.length == 1 || l.head? != some 48)

theorem valD_pos : ∀ (l : List UInt8) (acc : Nat), 1 ≤ acc → 1 ≤ valD acc l
  | [], _, h => h
  | c :: r, acc, h => valD_pos r _ (by omega)

theorem valD_short_pos {c : UInt8} {r : List UInt8} (hd : dig c = true) (h : c ≠ 48) : 1 ≤ valD 0 (c :: r) := by
  have hc := (dig_iff c).1 hd
  have h2 : c.toNat ≠ 48 := fun e => h (UInt8.toNat_inj.1 e)
  exact valD_pos r _ (by omega)

theorem snoc_cases : ∀ (l : List UInt8), l ≠ [] → ∃ i c, l = i ++ [c]
  | [], h => absurd rfl h
  | [c], _ => ⟨[], c, rfl⟩
  | c :: d :: r, _ => by
    have ⟨i, e, h⟩ := snoc_cases (d :: r) (by simp)
    exact ⟨c :: i, e, by rw [h]; rfl⟩

theorem decDigits_valD : ∀ (k : Nat) (l : List UInt8), l.length = k → shortD l = true → decDigits (valD 0 l) = l := by
  intro k
  induction k with
  | zero =>
    intro l hl hs
    have : l = [] := List.length_eq_zero_iff.1 hl
    subst this
    simp [shortD] at hs
  | succ k ih =>
    intro l hl hs
    simp only [shortD, Bool.and_eq_true, Bool.or_eq_true, beq_iff_eq, bne_iff_ne, Bool.not_eq_true'] at hs
    obtain ⟨⟨hd, _⟩, h1⟩ := hs
    obtain ⟨i, c, rfl⟩ := snoc_cases l (by intro h; rw [h] at hl; simp at hl)
    rw [List.all_append, Bool.and_eq_true, List.all_cons, Bool.and_eq_true] at hd
    obtain ⟨hdi, hdc, _⟩ := hd
    have hc := (dig_iff c).1 hdc
    rw [List.length_append] at hl
    simp only [List.length_cons, List.length_nil] at hl
    rw [valD_append]
    have hcc : UInt8.ofNat (48 + (c.toNat - 48)) = c := by
      apply UInt8.toNat_inj.1
      rw [ofNat_toNat48 _ (by omega)]; omega
    match i, hdi, h1, hl with
    | [], _, _, _ =>
      have e0 : valD 0 [] * 10 + (c.toNat - 48) = c.toNat - 48 := by
        have : valD 0 [] = 0 := rfl
        rw [this]; omega
      rw [e0, decDigits, dif_pos (by omega), hcc]
      rfl
    | d :: r, hdi, h1, hl =>
      have hne : d ≠ 48 := by
        rcases h1 with h1 | h1
        · simp at h1
        · intro e; subst e; simp at h1
      rw [List.all_cons, Bool.and_eq_true] at hdi
      have hp := valD_short_pos (r := r) hdi.1 hne
      rw [decDigits, dif_neg (by omega)]
      have e1 : (valD 0 (d :: r) * 10 + (c.toNat - 48)) / 10 = valD 0 (d :: r) := by omega
      have e2 : (valD 0 (d :: r) * 10 + (c.toNat - 48)) % 10 = c.toNat - 48 := by omega
      rw [e1, e2, hcc, ih (d :: r) (by omega) ?_]
      simp only [shortD, Bool.and_eq_true, Bool.or_eq_true, beq_iff_eq, bne_iff_ne, Bool.not_eq_true', List.isEmpty_cons, and_true, List.all_cons, List.head?_cons]
      refine ⟨⟨hdi.1, hdi.2⟩, Or.inr ?_⟩
      intro e; injection e with e; exact hne e

theorem shortD_decDigits (u : Nat) : shortD (decDigits u) = true := by
  simp only [shortD, Bool.and_eq_true, Bool.or_eq_true, beq_iff_eq, bne_iff_ne, Bool.not_eq_true']
  refine ⟨⟨decDigits_digs u, ?_⟩, ?_⟩
  · have := decDigits_ne u
    cases h : decDigits u with
    | nil => exact absurd h this
    | cons => rfl
  · by_cases h : (decDigits u).head? = some 48
    · left
      have := decDigits_head u h
      subst this
      rw [decDigits_length, nDigits_small (by omega)]
    · exact Or.inr h

/-- A number of 64 bits, as short as can be: the document's. -/
def longOf (l : List UInt8) : Option Int :=
  match parseIntB 64 l with
  | .ok v => if itoa v = l then some v else none
  | _ => none

theorem longOf_some {l : List UInt8} {v : Int} (h : longOf l = some v) : itoa v = l ∧ -9223372036854775808 ≤ v ∧ v ≤ 9223372036854775807 ∧ parseIntB 64 l = .ok v := by
  unfold longOf at h
  split at h
  · rename_i u hu
    split at h
    · rename_i he
      injection h with h
      subst h
      have hb := parseIntB_bounds hu
      refine ⟨he, ?_, ?_, hu⟩
      · have := hb.1; simpa using this
      · have := hb.2
        have h2 : ((2 ^ (64 - 1) : Nat) : Int) = 9223372036854775808 := by decide
        omega
    · cases h
  · cases h

/-- The number of a text: what it says, told by its bytes. -/
def longS (l : List UInt8) : Option Int :=
  match l with
  | [] => none
  | c :: r =>
    if c = 45 then (if shortD r && decide (1 ≤ valD 0 r) && decide (valD 0 r ≤ 9223372036854775808) then some (-(valD 0 r : Int)) else none)
    else (if shortD l && decide (valD 0 l ≤ 9223372036854775807) then some (valD 0 l : Int) else none)

theorem shortD_digs {l : List UInt8} (h : shortD l = true) : l.all dig = true ∧ l ≠ [] := by
  simp only [shortD, Bool.and_eq_true] at h
  refine ⟨h.1.1, ?_⟩
  intro e; subst e
  simp at h

theorem parseUintB_short {l : List UInt8} (h : shortD l = true) (hv : valD 0 l ≤ 18446744073709551615) : parseUintB 64 l = .ok (valD 0 l) := by
  unfold parseUintB
  have ⟨h1, h2⟩ := shortD_digs h
  rw [if_neg h2]
  exact parseUintM_digs _ (by decide) l 0 h1 (by omega)

theorem parseUintB_ok {l : List UInt8} {u : Nat} (h : parseUintB 64 l = .ok u) : l.all dig = true ∧ u = valD 0 l ∧ l ≠ [] := by
  unfold parseUintB at h
  split at h
  · cases h
  · rename_i hne
    have ⟨h1, h2⟩ := parseUintM_ok _ l 0 u h
    exact ⟨h1, h2, hne⟩

theorem dig_not_sign {c : UInt8} (h : dig c = true) : c.toNat ≠ 43 ∧ c.toNat ≠ 45 := by
  have := (dig_iff c).1 h
  omega

theorem longOf_itoa (v : Int) (h0 : -9223372036854775808 ≤ v) (h1 : v ≤ 9223372036854775807) : longOf (itoa v) = some v := by
  have key : parseIntB 64 (itoa v) = .ok v := by
    have e63 : (2 ^ (64 - 1) : Nat) = 9223372036854775808 := by decide
    by_cases hn : v < 0
    · have e : itoa v = 45 :: decDigits v.natAbs := by unfold itoa; rw [if_pos hn]
      rw [e, parseIntB_minus, parseUintB_short (shortD_decDigits _) (by rw [valD_decDigits]; omega), valD_decDigits]
      unfold signedC
      simp only [e63]
      rw [if_neg (by omega)]
      congr 1
      omega
    · have e : itoa v = decDigits v.toNat := by unfold itoa; rw [if_neg hn]
      have hs := shortD_decDigits v.toNat
      rw [e]
      have hv := valD_decDigits v.toNat
      cases hd : decDigits v.toNat with
      | nil => exact absurd hd (decDigits_ne _)
      | cons c r =>
        rw [hd] at hs hv
        have hdc := (shortD_digs hs).1
        rw [List.all_cons, Bool.and_eq_true] at hdc
        have ⟨h43, h45⟩ := dig_not_sign hdc.1
        rw [parseIntB_plain _ _ _ h43 h45, parseUintB_short hs (by omega), hv]
        unfold signlessC
        simp only [e63]
        rw [if_neg (by omega)]
        congr 1
        omega
  unfold longOf
  rw [key]
  simp

theorem longS_itoa (v : Int) (h0 : -9223372036854775808 ≤ v) (h1 : v ≤ 9223372036854775807) : longS (itoa v) = some v := by
  by_cases hn : v < 0
  · have e : itoa v = 45 :: decDigits v.natAbs := by unfold itoa; rw [if_pos hn]
    rw [e]
    unfold longS
    simp only [if_pos]
    rw [shortD_decDigits, valD_decDigits, if_pos (by simp only [Bool.true_and, Bool.and_eq_true, decide_eq_true_eq]; omega)]
    congr 1
    omega
  · have e : itoa v = decDigits v.toNat := by unfold itoa; rw [if_neg hn]
    have hs := shortD_decDigits v.toNat
    have hv := valD_decDigits v.toNat
    rw [e]
    cases hd : decDigits v.toNat with
    | nil => exact absurd hd (decDigits_ne _)
    | cons c r =>
      rw [hd] at hs hv
      have hdc := (shortD_digs hs).1
      rw [List.all_cons, Bool.and_eq_true] at hdc
      have ⟨h43, h45⟩ := dig_not_sign hdc.1
      unfold longS
      simp only
      rw [if_neg (by intro e; subst e; exact h45 rfl), hs, hv, if_pos (by simp only [Bool.true_and, decide_eq_true_eq]; omega)]
      congr 1
      omega

theorem longS_some {l : List UInt8} {v : Int} (h : longS l = some v) : itoa v = l ∧ -9223372036854775808 ≤ v ∧ v ≤ 9223372036854775807 := by
  unfold longS at h
  split at h
  · cases h
  · rename_i c r
    split at h
    · rename_i hc
      subst hc
      split at h
      · rename_i hs
        simp only [Bool.and_eq_true, decide_eq_true_eq] at hs
        injection h with h
        subst h
        refine ⟨?_, by omega, by omega⟩
        unfold itoa
        rw [if_pos (by omega)]
        have : (-(valD 0 r : Int)).natAbs = valD 0 r := by omega
        rw [this, decDigits_valD _ r rfl hs.1.1]
      · cases h
    · split at h
      · rename_i hs
        simp only [Bool.and_eq_true, decide_eq_true_eq] at hs
        injection h with h
        subst h
        refine ⟨?_, by omega, by omega⟩
        unfold itoa
        rw [if_neg (by omega)]
        have : ((valD 0 (c :: r) : Nat) : Int).toNat = valD 0 (c :: r) := by omega
        rw [this, decDigits_valD _ _ rfl hs.1]
      · cases h

/-- The two say the same. -/
theorem longOf_eq (l : List UInt8) : longOf l = longS l := by
  cases h : longOf l with
  | some v =>
    have ⟨h1, h2, h3, _⟩ := longOf_some h
    rw [← h1, longS_itoa v h2 h3]
  | none =>
    cases h2 : longS l with
    | none => rfl
    | some v =>
      have ⟨h4, h5, h6⟩ := longS_some h2
      rw [← h4, longOf_itoa v h5 h6] at h
      cases h

end E
end Go.Proofs.YthidfgolcibcoacDoor
