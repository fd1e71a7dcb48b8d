/- Plain mathematics of tokens, second part: the tokens of a text, and that the texts of tokens with blanks between are the same tokens again. -/
import Derived.Test.YthidfgolcibcoacDoorTokM
namespace Go.Proofs.YthidfgolcibcoacDoor
set_option maxRecDepth 20000
set_option maxHeartbeats 4000000
namespace E

open Go.Lib

structure Tok where
  pos : Nat
  text : List UInt8
  num : Bool
  val : Int

def blankB (c : UInt8) : Bool := c == 32 || c == 9 || c == 10 || c == 13
def parenB (c : UInt8) : Bool := c == 40 || c == 41
def letB (c : UInt8) : Bool := decide (97 ≤ c.toNat) && decide (c.toNat ≤ 122)

/-- What begins at a byte: nothing, a blank, or a token. -/
inductive Bit where
  | bad
  | skip
  | tok (text : List UInt8) (num : Bool) (val : Int)

def bit (c : UInt8) (r : List UInt8) : Bit :=
  if blankB c then .skip
  else if parenB c then .tok [c] false 0
  else if letB c then .tok (c :: r.takeWhile letB) false 0
  else if dig c || c == 45 then
    (match longOf (c :: r.takeWhile dig) with
     | some v => .tok (c :: r.takeWhile dig) true v
     | none => .bad)
  else .bad

/-- The tokens of what stands from pos on, or the place of what is none. -/
def toks : Nat → Nat → List UInt8 → Except Nat (List Tok)
  | _, _, [] => .ok []
  | 0, pos, _ :: _ => .error pos
  | f + 1, pos, c :: r =>
    match bit c r with
    | .bad => .error pos
    | .skip => toks f (pos + 1) r
    | .tok t b v =>
      match toks f (pos + t.length) ((c :: r).drop t.length) with
      | .error e => .error e
      | .ok l => .ok (⟨pos, t, b, v⟩ :: l)

def scanOf (l : List UInt8) : Except Nat (List Tok) := toks l.length 0 l

/-- A token's text is what stands there. -/
theorem bit_tok {c : UInt8} {r : List UInt8} {t : List UInt8} {b : Bool} {v : Int} (h : bit c r = .tok t b v) : ∃ u q, t = c :: u ∧ r = u ++ q ∧ blankB c = false := by
  unfold bit at h
  split at h
  · cases h
  rename_i hb
  have hb : blankB c = false := by simpa using hb
  split at h
  · injection h with h1 h2 h3
    exact ⟨[], r, h1.symm, rfl, hb⟩
  split at h
  · injection h with h1 h2 h3
    exact ⟨_, _, h1.symm, (List.takeWhile_append_dropWhile (p := letB) (l := r)).symm, hb⟩
  split at h
  · split at h
    · injection h with h1 h2 h3
      exact ⟨_, _, h1.symm, (List.takeWhile_append_dropWhile (p := dig) (l := r)).symm, hb⟩
    · cases h
  · cases h

theorem takeWhile_again (p : UInt8 → Bool) (x : UInt8) (hx : p x = false) (q : List UInt8) : ∀ (r : List UInt8), (r.takeWhile p ++ x :: q).takeWhile p = r.takeWhile p
  | [] => by simp [hx]
  | c :: r => by
    by_cases hc : p c = true
    · rw [List.takeWhile_cons_of_pos hc, List.cons_append, List.takeWhile_cons_of_pos hc, takeWhile_again p x hx q r]
    · rw [List.takeWhile_cons_of_neg hc, List.nil_append, List.takeWhile_cons_of_neg (by rw [hx]; decide)]

/-- The same token again, where a blank is behind it. -/
theorem bit_again {c : UInt8} {r u : List UInt8} {b : Bool} {v : Int} (h : bit c r = .tok (c :: u) b v) (q : List UInt8) : bit c (u ++ 32 :: q) = .tok (c :: u) b v := by
  unfold bit at h
  unfold bit
  split at h
  · cases h
  rename_i hb
  rw [if_neg hb]
  split at h
  · rename_i hp
    rw [if_pos hp]
    exact h
  rename_i hp
  rw [if_neg hp]
  split at h
  · rename_i hl
    injection h with h1 h2 h3
    injection h1 with h0 h1
    subst h1; subst h2; subst h3
    rw [if_pos hl, takeWhile_again letB 32 (by decide)]
  rename_i hl
  rw [if_neg hl]
  split at h
  · rename_i hd
    rw [if_pos hd]
    split at h
    · rename_i w hw
      injection h with h1 h2 h3
      injection h1 with h0 h1
      subst h1; subst h2; subst h3
      rw [takeWhile_again dig 32 (by decide), hw]
    · cases h
  · cases h

/-- More fuel than bytes: all the same. -/
theorem toks_fuel : ∀ (f g pos : Nat) (l : List UInt8), l.length ≤ f → l.length ≤ g → toks f pos l = toks g pos l
  | 0, 0, _, _, _, _ => rfl
  | 0, g + 1, _, [], _, _ => rfl
  | 0, g + 1, _, _ :: _, h, _ => by simp at h
  | f + 1, 0, _, [], _, _ => rfl
  | f + 1, 0, _, _ :: _, _, h => by simp at h
  | f + 1, g + 1, _, [], _, _ => rfl
  | f + 1, g + 1, pos, c :: r, hf, hg => by
    simp only [List.length_cons] at hf hg
    simp only [toks]
    cases hb : bit c r with
    | bad => rfl
    | skip => exact toks_fuel f g _ r (by omega) (by omega)
    | tok t b v =>
      have ⟨u, q, h1, h2, _⟩ := bit_tok hb
      subst h1
      have hl : ((c :: r).drop (c :: u).length).length ≤ r.length := by
        rw [List.length_drop]
        simp only [List.length_cons]
        omega
      simp only [toks_fuel f g (pos + (c :: u).length) ((c :: r).drop (c :: u).length) (by omega) (by omega)]

/-- One step of a scan. -/
theorem toks_bad {f pos : Nat} {c : UInt8} {r : List UInt8} (h : bit c r = .bad) (hf : (c :: r).length ≤ f) : toks f pos (c :: r) = .error pos := by
  cases f with
  | zero => rfl
  | succ f => simp only [toks, h]
theorem toks_skip {f pos : Nat} {c : UInt8} {r : List UInt8} (h : bit c r = .skip) (hf : (c :: r).length ≤ f) : toks f pos (c :: r) = toks f (pos + 1) r := by
  cases f with
  | zero => simp at hf
  | succ f =>
    simp only [List.length_cons] at hf
    simp only [toks, h]
    exact toks_fuel _ _ _ _ (by omega) (by omega)
theorem toks_tok {f pos : Nat} {c : UInt8} {r t : List UInt8} {b : Bool} {v : Int} (h : bit c r = .tok t b v) (hf : (c :: r).length ≤ f) :
    toks f pos (c :: r) = (match toks f (pos + t.length) ((c :: r).drop t.length) with | .error e => .error e | .ok l => .ok (⟨pos, t, b, v⟩ :: l)) := by
  cases f with
  | zero => simp at hf
  | succ f =>
    simp only [List.length_cons] at hf
    have ⟨u, q, h1, h2, _⟩ := bit_tok h
    subst h1
    have hl : ((c :: r).drop (c :: u).length).length ≤ r.length := by
      rw [List.length_drop]
      simp only [List.length_cons]
      omega
    have e := toks_fuel f (f + 1) (pos + (c :: u).length) ((c :: r).drop (c :: u).length) (by omega) (by omega)
    rw [← e]
    simp only [toks, h]

/-- What is behind what has been read. -/
def putT (acc : List Tok) : Except Nat (List Tok) → Except Nat (List Tok)
  | .error e => .error e
  | .ok l => .ok (acc ++ l)
theorem putT_nil (x : Except Nat (List Tok)) : putT [] x = x := by cases x <;> rfl
theorem putT_tok {f pos : Nat} {c : UInt8} {r t : List UInt8} {b : Bool} {v : Int} (acc : List Tok) (h : bit c r = .tok t b v) (hf : (c :: r).length ≤ f) :
    putT acc (toks f pos (c :: r)) = putT (acc ++ [⟨pos, t, b, v⟩]) (toks f (pos + t.length) ((c :: r).drop t.length)) := by
  rw [toks_tok h hf]
  cases toks f (pos + t.length) ((c :: r).drop t.length) with
  | error e => rfl
  | ok l => simp [putT]

/-! ### There and back -/

def joined : List Tok → List UInt8
  | [] => []
  | t :: r => t.text ++ 32 :: 10 :: joined r

/-- Tokens that come of a scan. -/
def fine : List Tok → Prop
  | [] => True
  | t :: r => (∃ c u r0, t.text = c :: u ∧ bit c r0 = .tok (c :: u) t.num t.val) ∧ fine r

def textLen : List Tok → Nat
  | [] => 0
  | t :: r => t.text.length + textLen r

theorem toks_fine : ∀ (f pos : Nat) (l : List UInt8) (ts : List Tok), toks f pos l = .ok ts → fine ts ∧ textLen ts ≤ l.length
  | f, pos, [], ts, h => by
    have h2 : ts = [] := by
      cases f <;> (simp only [toks] at h; injection h with h; exact h.symm)
    subst h2
    exact ⟨trivial, Nat.zero_le _⟩
  | 0, _, _ :: _, _, h => by simp only [toks] at h; cases h
  | f + 1, pos, c :: r, ts, h => by
    simp only [toks] at h
    cases hb : bit c r with
    | bad => rw [hb] at h; cases h
    | skip =>
      rw [hb] at h
      have ⟨h1, h2⟩ := toks_fine f _ r ts h
      exact ⟨h1, by simp only [List.length_cons]; omega⟩
    | tok t b v =>
      rw [hb] at h
      simp only at h
      cases hr : toks f (pos + t.length) ((c :: r).drop t.length) with
      | error e => rw [hr] at h; cases h
      | ok l =>
        rw [hr] at h
        injection h with h
        subst h
        have ⟨h1, h2⟩ := toks_fine f _ _ l hr
        have ⟨u, q, h3, h4, _⟩ := bit_tok hb
        subst h3
        refine ⟨⟨⟨c, u, r, rfl, hb⟩, h1⟩, ?_⟩
        rw [List.length_drop] at h2
        have h5 : (c :: u).length ≤ (c :: r).length := by
          rw [h4]; simp only [List.length_cons, List.length_append]; omega
        show (c :: u).length + textLen l ≤ (c :: r).length
        omega

theorem joined_length : ∀ (ts : List Tok), fine ts → (joined ts).length ≤ 3 * textLen ts
  | [], _ => Nat.le_refl _
  | t :: r, h => by
    have ih := joined_length r h.2
    obtain ⟨c, u, r0, h1, _⟩ := h.1
    simp only [joined, textLen, List.length_append, List.length_cons, h1]
    omega

/-- What is told of a token but its place. -/
def same3 : List Tok → List Tok → Prop
  | [], [] => True
  | a :: r, b :: s => a.text = b.text ∧ a.num = b.num ∧ a.val = b.val ∧ same3 r s
  | _, _ => False

theorem bit_blank (c : UInt8) (r : List UInt8) (h : blankB c = true) : bit c r = .skip := by
  unfold bit; rw [if_pos h]

theorem toks_back : ∀ (ts : List Tok) (f pos : Nat), fine ts → (joined ts).length ≤ f → ∃ us, toks f pos (joined ts) = .ok us ∧ same3 us ts
  | [], f, pos, _, _ => ⟨[], by cases f <;> rfl, trivial⟩
  | t :: r, f, pos, h, hf => by
    obtain ⟨⟨c, u, r0, h1, h2⟩, h3⟩ := h
    have hj : joined (t :: r) = c :: (u ++ 32 :: 10 :: joined r) := by
      simp only [joined, h1, List.cons_append]
    have hb := bit_again h2 (10 :: joined r)
    rw [hj] at hf ⊢
    simp only [List.length_cons, List.length_append] at hf
    obtain ⟨us, h4, h5⟩ := toks_back r f (pos + (c :: u).length + 1 + 1) h3 (by omega)
    refine ⟨⟨pos, c :: u, t.num, t.val⟩ :: us, ?_, h1.symm, rfl, rfl, h5⟩
    rw [toks_tok hb (by simp only [List.length_cons, List.length_append]; omega)]
    have hd : (c :: (u ++ 32 :: 10 :: joined r)).drop (c :: u).length = 32 :: 10 :: joined r := by
      simp
    rw [hd, toks_skip (bit_blank 32 _ (by decide)) (by simp only [List.length_cons]; omega), toks_skip (bit_blank 10 _ (by decide)) (by simp only [List.length_cons]; omega), h4]

/-- THERE AND BACK. -/
theorem scan_back {l : List UInt8} {ts : List Tok} (h : scanOf l = .ok ts) : ∃ us, scanOf (joined ts) = .ok us ∧ same3 us ts ∧ (joined ts).length ≤ 3 * l.length := by
  have ⟨h1, h2⟩ := toks_fine _ _ _ _ h
  have ⟨us, h3, h4⟩ := toks_back ts (joined ts).length 0 h1 (Nat.le_refl _)
  have h5 := joined_length ts h1
  exact ⟨us, h3, h4, by omega⟩

theorem same3_length : ∀ (a b : List Tok), same3 a b → a.length = b.length
  | [], [], _ => rfl
  | _ :: r, _ :: s, h => by simp only [List.length_cons, same3_length r s h.2.2.2]

theorem same3_get : ∀ (a b : List Tok), same3 a b → ∀ (i : Nat) (ha : i < a.length) (hb : i < b.length), a[i].text = b[i].text ∧ a[i].num = b[i].num ∧ a[i].val = b[i].val
  | _ :: _, _ :: _, h, 0, _, _ => ⟨h.1, h.2.1, h.2.2.1⟩
  | _ :: r, _ :: s, h, i + 1, ha, hb => same3_get r s h.2.2.2 i (by simpa using ha) (by simpa using hb)

end E
end Go.Proofs.YthidfgolcibcoacDoor
