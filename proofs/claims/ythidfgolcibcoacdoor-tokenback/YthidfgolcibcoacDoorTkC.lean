/- Contract of first: what a text that is not empty begins with. -/
import Derived.Test.YthidfgolcibcoacDoorTkB
namespace Go.Proofs.YthidfgolcibcoacDoor
set_option maxRecDepth 20000
set_option maxHeartbeats 4000000
namespace E
open Go.Proofs

theorem take_while (p : UInt8 → Bool) : ∀ (l : List UInt8), l.take (l.takeWhile p).length = l.takeWhile p
  | [] => rfl
  | c :: r => by
    by_cases h : p c = true
    · rw [List.takeWhile_cons_of_pos h, List.length_cons, List.take_succ_cons, take_while p r]
    · rw [List.takeWhile_cons_of_neg h]
      rfl
theorem while_le (p : UInt8 → Bool) : ∀ (l : List UInt8), (l.takeWhile p).length ≤ l.length
  | [] => Nat.le_refl _
  | c :: r => by
    have := while_le p r
    by_cases h : p c = true
    · rw [List.takeWhile_cons_of_pos h, List.length_cons, List.length_cons]; omega
    · rw [List.takeWhile_cons_of_neg h]
      exact Nat.zero_le _

section
variable {c : UInt8} {r : List UInt8}
theorem bit_paren (hb : blankB c = false) (hp : parenB c = true) : bit c r = .tok [c] false 0 := by
  unfold bit
  rw [hb, hp]
  rfl
theorem bit_word (hb : blankB c = false) (hp : parenB c = false) (hl : letB c = true) : bit c r = .tok (c :: r.takeWhile letB) false 0 := by
  unfold bit
  rw [hb, hp, hl]
  rfl
theorem bit_num (hb : blankB c = false) (hp : parenB c = false) (hl : letB c = false) (hd : (dig c || c == 45) = true) : bit c r = (match longOf (c :: r.takeWhile dig) with | some v => .tok (c :: r.takeWhile dig) true v | none => .bad) := by
  unfold bit
  rw [hb, hp, hl, hd]
  rfl
theorem bit_none (hb : blankB c = false) (hp : parenB c = false) (hl : letB c = false) (hd : (dig c || c == 45) = false) : bit c r = .bad := by
  unfold bit
  rw [hb, hp, hl, hd]
  rfl
theorem bitV_num (hb : blankB c = false) (hp : parenB c = false) (hl : letB c = false) (hd : (dig c || c == 45) = true) : bitV (bit c r) = numV (c :: r.takeWhile dig) := by
  rw [bit_num hb hp hl hd]
  unfold numV
  cases longOf (c :: r.takeWhile dig) <;> rfl
theorem numV_form (l : List UInt8) : ∃ (cs : List Value) (b : Bool), cs.length = 4 ∧ numV l = .tuple #[.agg cs.toArray, .bool b] ∧ ∀ u ∈ cs, u.oneCell' = true := by
  unfold numV
  cases longOf l with
  | some v => exact ⟨_, _, rfl, rfl, tokC_one _ _ _ _⟩
  | none => exact ⟨_, _, rfl, rfl, tokC_one _ _ _ _⟩
end

theorem first_ret (c : UInt8) (r : List UInt8) (hb : blankB c = false) (hl : (c :: r).length ≤ 1000000) {w : World} (hw : Lw w) : Ret Tryd.prog 9 [.string (str (c :: r))] w fun x w' => x = bitV (bit c r) ∧ Keep [] w w' := by
  refine ret_of 42 Tryd.func9 rfl rfl (by simp) ?_
  (repeat (first | refine pl_pure hT rfl rfl rfl ?_ | refine pl_nil ?_ | refine rn_seq ?_ | refine rn_plain ?_ | refine rn_block ?_ | refine rn_inBlock ?_ | refine rn_skip ?_ | refine rn_true rfl ?_ | refine rn_false rfl ?_ | refine rn_exit rfl ?_ | refine pl_not rfl rfl ?_))
  refine pl_op rfl rfl (opTo_allocN _ rfl zero_tok ?_)
  intro w1 b hb0 hs1 hk1 hb1
  (repeat (first | refine pl_pure hT rfl rfl rfl ?_ | refine pl_nil ?_ | refine rn_seq ?_ | refine rn_plain ?_ | refine rn_block ?_ | refine rn_inBlock ?_ | refine rn_skip ?_ | refine rn_true rfl ?_ | refine rn_false rfl ?_ | refine rn_exit rfl ?_ | refine pl_not rfl rfl ?_))
  refine pl_val _ rfl rfl (val_byte (c :: r) 0 c (by decide +kernel) rfl rfl rfl rfl rfl w1) ?_
  by_cases hp : parenB c = true
  · have e := bit_paren (r := r) hb hp
    rw [paren_n, Bool.or_eq_true, decide_eq_true_eq, decide_eq_true_eq] at hp
    rcases hp with hp | hp
    all_goals
      (repeat (first | refine pl_pure hT rfl rfl rfl ?_ | refine pl_nil ?_ | refine rn_seq ?_ | refine rn_plain ?_ | refine rn_block ?_ | refine rn_inBlock ?_ | refine rn_skip ?_ | refine rn_true rfl ?_ | refine rn_false rfl ?_ | refine rn_exit rfl ?_ | refine pl_not rfl rfl ?_ | refine pl_val _ rfl rfl (val_load1 hT rfl rfl rfl (Blk.cell (by assumption) (by rfl))) ?_ | refine pl_yes rfl rfl rfl rfl rfl (by first | (simp only [cmpP]; omega) | (simp [cmpP]; done) | (simp [cmpP]; omega)) ?_ | refine pl_no rfl rfl rfl rfl rfl rfl (by first | (simp only [cmpP]; omega) | (simp [cmpP]; done) | (simp [cmpP]; omega)) ?_))
      refine pl_val _ rfl rfl (val_to (c :: r) 1 (by decide +kernel) rfl rfl rfl rfl (by simp) w1) ?_
      refine pl_op rfl rfl (opTo_call (fst := []) (cap := []) rfl rfl rfl rfl (by decide +kernel) ((word_ret [c] (by simp) w1).mono ?_))
      rintro v w2 ⟨rfl, hk2⟩
      have hb2 := hk2.blk hb1 (by simp)
      refine pl_op rfl rfl (opTo_storeN (tokC 0 [c] false 0) rfl rfl rfl rfl size_tok hb2 (by simp [tokC]) (tokC_one _ _ _ _) ?_)
      intro w3 hs3 hk3 hb3
      rw [splice_whole (by rfl)] at hb3
      (repeat (first | refine pl_pure hT rfl rfl rfl ?_ | refine pl_nil ?_ | refine rn_seq ?_ | refine rn_plain ?_ | refine rn_block ?_ | refine rn_inBlock ?_ | refine rn_skip ?_ | refine rn_true rfl ?_ | refine rn_false rfl ?_ | refine rn_exit rfl ?_ | refine pl_not rfl rfl ?_))
      exact rn_ret Tryd.func9 (.inr (.inr (.inr (.inl ⟨_, _, _, _, _, _, rfl, rfl, blk_loadVar hT hb3 rfl, rfl, rfl⟩)))) ⟨by rw [e]; rfl, (hk1.tr hk2).trB hk3 (by omega)⟩
  have hp' : parenB c = false := by simpa using hp
  have hpn : c.toNat ≠ 40 ∧ c.toNat ≠ 41 := by
    rw [paren_n] at hp'
    simpa using hp'
  obtain ⟨hp1, hp2⟩ := hpn
  (repeat (first | refine pl_pure hT rfl rfl rfl ?_ | refine pl_nil ?_ | refine rn_seq ?_ | refine rn_plain ?_ | refine rn_block ?_ | refine rn_inBlock ?_ | refine rn_skip ?_ | refine rn_true rfl ?_ | refine rn_false rfl ?_ | refine rn_exit rfl ?_ | refine pl_not rfl rfl ?_ | refine pl_val _ rfl rfl (val_load1 hT rfl rfl rfl (Blk.cell (by assumption) (by rfl))) ?_ | refine pl_yes rfl rfl rfl rfl rfl (by first | (simp only [cmpP]; omega) | (simp [cmpP]; done) | (simp [cmpP]; omega)) ?_ | refine pl_no rfl rfl rfl rfl rfl rfl (by first | (simp only [cmpP]; omega) | (simp [cmpP]; done) | (simp [cmpP]; omega)) ?_))
  refine pl_op rfl rfl (opTo_call (fst := []) (cap := []) rfl rfl rfl rfl (by decide +kernel) ((isLetter_ret c w1).mono ?_))
  rintro v w2 ⟨rfl, rfl⟩
  cases hlet : letB c with
  | true =>
    have e := bit_word (r := r) hb hp' hlet
    (repeat (first | refine pl_pure hT rfl rfl rfl ?_ | refine pl_nil ?_ | refine rn_seq ?_ | refine rn_plain ?_ | refine rn_block ?_ | refine rn_inBlock ?_ | refine rn_skip ?_ | refine rn_true rfl ?_ | refine rn_false rfl ?_ | refine rn_exit rfl ?_ | refine pl_not rfl rfl ?_))
    refine pl_op rfl rfl (opTo_call (fst := []) (cap := []) rfl rfl rfl rfl (by decide +kernel) ((run_ret 15 letB (by decide +kernel) isLetter_ret (c :: r) hl w2).mono ?_))
    rintro v w3 ⟨rfl, rfl⟩
    refine pl_val _ rfl rfl (val_to (c :: r) ((c :: r).takeWhile letB).length (by decide +kernel) rfl rfl rfl rfl (while_le _ _) w3) ?_
    rw [take_while, List.takeWhile_cons_of_pos hlet]
    have hlen : (c :: r.takeWhile letB).length ≤ 1000000 := by
      have := while_le letB r
      simp only [List.length_cons] at hl ⊢
      omega
    refine pl_op rfl rfl (opTo_call (fst := []) (cap := []) rfl rfl rfl rfl (by decide +kernel) ((word_ret (c :: r.takeWhile letB) hlen w3).mono ?_))
    rintro v w4 ⟨rfl, hk4⟩
    have hb4 := hk4.blk hb1 (by simp)
    refine pl_op rfl rfl (opTo_storeN (tokC 0 (c :: r.takeWhile letB) false 0) rfl rfl rfl rfl size_tok hb4 (by simp [tokC]) (tokC_one _ _ _ _) ?_)
    intro w5 hs5 hk5 hb5
    rw [splice_whole (by rfl)] at hb5
    (repeat (first | refine pl_pure hT rfl rfl rfl ?_ | refine pl_nil ?_ | refine rn_seq ?_ | refine rn_plain ?_ | refine rn_block ?_ | refine rn_inBlock ?_ | refine rn_skip ?_ | refine rn_true rfl ?_ | refine rn_false rfl ?_ | refine rn_exit rfl ?_ | refine pl_not rfl rfl ?_))
    exact rn_ret Tryd.func9 (.inr (.inr (.inr (.inl ⟨_, _, _, _, _, _, rfl, rfl, blk_loadVar hT hb5 rfl, rfl, rfl⟩)))) ⟨by rw [e]; rfl, (hk1.tr hk4).trB hk5 (by omega)⟩
  | false =>
    (repeat (first | refine pl_pure hT rfl rfl rfl ?_ | refine pl_nil ?_ | refine rn_seq ?_ | refine rn_plain ?_ | refine rn_block ?_ | refine rn_inBlock ?_ | refine rn_skip ?_ | refine rn_true rfl ?_ | refine rn_false rfl ?_ | refine rn_exit rfl ?_ | refine pl_not rfl rfl ?_))
    refine pl_op rfl rfl (opTo_call (fst := []) (cap := []) rfl rfl rfl rfl (by decide +kernel) ((isDigit_ret c w2).mono ?_))
    rintro v w3 ⟨rfl, rfl⟩
    by_cases hd : (dig c || c == 45) = true
    · have e := bitV_num (r := r) hb hp' hlet hd
      have hd2 : dig c = true ∨ (dig c = false ∧ c.toNat = 45) := by
        rw [dash_n] at hd
        cases h : dig c with
        | true => exact .inl rfl
        | false => rw [h] at hd; exact .inr ⟨rfl, by simpa using hd⟩
      obtain ⟨cs, q, hcs, hform, hone⟩ := numV_form (c :: r.takeWhile dig)
      have hwl := while_le dig r
      have hlen : (c :: r.takeWhile dig).length ≤ 1000000 := by
        simp only [List.length_cons] at hl ⊢
        omega
      have hlr : r.length ≤ 1000000 := by
        simp only [List.length_cons] at hl
        omega
      rcases hd2 with hdc | ⟨hdc, hdash⟩
      all_goals
        rw [hdc]
        (repeat (first | refine pl_pure hT rfl rfl rfl ?_ | refine pl_nil ?_ | refine rn_seq ?_ | refine rn_plain ?_ | refine rn_block ?_ | refine rn_inBlock ?_ | refine rn_skip ?_ | refine rn_true rfl ?_ | refine rn_false rfl ?_ | refine rn_exit rfl ?_ | refine pl_not rfl rfl ?_ | refine pl_val _ rfl rfl (val_load1 hT rfl rfl rfl (Blk.cell (by assumption) (by rfl))) ?_ | refine pl_yes rfl rfl rfl rfl rfl (by first | (simp only [cmpP]; omega) | (simp [cmpP]; done) | (simp [cmpP]; omega)) ?_ | refine pl_no rfl rfl rfl rfl rfl rfl (by first | (simp only [cmpP]; omega) | (simp [cmpP]; done) | (simp [cmpP]; omega)) ?_))
        refine pl_val _ rfl rfl (val_from (c :: r) 1 (by decide +kernel) rfl rfl rfl rfl (by simp) w3) ?_
        refine pl_op rfl rfl (opTo_call (fst := []) (cap := []) rfl rfl rfl rfl (by decide +kernel) ((run_ret 17 dig (by decide +kernel) isDigit_ret r hlr w3).mono ?_))
        rintro v w4 ⟨rfl, rfl⟩
        refine pl_num ((((r.takeWhile dig).length + 1 : Nat) : Int)) rfl rfl rfl rfl rfl (by simp only [ariP]; omega) ?_
        refine pl_val _ rfl rfl (val_to (c :: r) ((r.takeWhile dig).length + 1) (by decide +kernel) rfl rfl rfl rfl (by simp only [List.length_cons]; omega) w4) ?_
        rw [List.take_succ_cons, take_while]
        refine pl_op rfl rfl (opTo_call (fst := []) (cap := []) rfl rfl rfl rfl (by decide +kernel) ((number_ret (c :: r.takeWhile dig) hlen (hw.keep hk1)).mono ?_))
        rintro v w5 ⟨rfl, hk5⟩
        have hb5 := hk5.blk hb1 (by simp)
        rw [hform]
        (repeat (first | refine pl_pure hT rfl rfl rfl ?_ | refine pl_nil ?_ | refine rn_seq ?_ | refine rn_plain ?_ | refine rn_block ?_ | refine rn_inBlock ?_ | refine rn_skip ?_ | refine rn_true rfl ?_ | refine rn_false rfl ?_ | refine rn_exit rfl ?_ | refine pl_not rfl rfl ?_))
        refine pl_op rfl rfl (opTo_storeN cs rfl rfl rfl rfl (by rw [hcs]; exact size_tok) hb5 (by simp [tokC, hcs]) hone ?_)
        intro w6 hs6 hk6 hb6
        rw [splice_whole (by rw [hcs]; rfl)] at hb6
        (repeat (first | refine pl_pure hT rfl rfl rfl ?_ | refine pl_nil ?_ | refine rn_seq ?_ | refine rn_plain ?_ | refine rn_block ?_ | refine rn_inBlock ?_ | refine rn_skip ?_ | refine rn_true rfl ?_ | refine rn_false rfl ?_ | refine rn_exit rfl ?_ | refine pl_not rfl rfl ?_))
        exact rn_ret Tryd.func9 (.inr (.inr (.inr (.inl ⟨_, _, _, _, _, _, rfl, rfl, blk_loadVar hT hb6 (by rw [hcs]; rfl), rfl, rfl⟩)))) ⟨by rw [e, hform]; rfl, (hk1.tr hk5).trB hk6 (by omega)⟩
    · have hd' : (dig c || c == 45) = false := by simpa using hd
      have e := bit_none (r := r) hb hp' hlet hd'
      have hdc : dig c = false := by
        cases h : dig c with
        | true => rw [h] at hd'; cases hd'
        | false => rfl
      have hdash : c.toNat ≠ 45 := by
        rw [hdc, dash_n] at hd'
        simpa using hd'
      rw [hdc]
      (repeat (first | refine pl_pure hT rfl rfl rfl ?_ | refine pl_nil ?_ | refine rn_seq ?_ | refine rn_plain ?_ | refine rn_block ?_ | refine rn_inBlock ?_ | refine rn_skip ?_ | refine rn_true rfl ?_ | refine rn_false rfl ?_ | refine rn_exit rfl ?_ | refine pl_not rfl rfl ?_ | refine pl_val _ rfl rfl (val_load1 hT rfl rfl rfl (Blk.cell (by assumption) (by rfl))) ?_ | refine pl_yes rfl rfl rfl rfl rfl (by first | (simp only [cmpP]; omega) | (simp [cmpP]; done) | (simp [cmpP]; omega)) ?_ | refine pl_no rfl rfl rfl rfl rfl rfl (by first | (simp only [cmpP]; omega) | (simp [cmpP]; done) | (simp [cmpP]; omega)) ?_))
      refine pl_val _ rfl rfl (val_build _ rfl rfl built_tok0 w3) ?_
      refine pl_op rfl rfl (opTo_storeN (tokC 0 [] false 0) rfl rfl rfl rfl size_tok hb1 (by simp [tokC]) (tokC_one _ _ _ _) ?_)
      intro w4 hs4 hk4 hb4
      rw [splice_whole (by rfl)] at hb4
      (repeat (first | refine pl_pure hT rfl rfl rfl ?_ | refine pl_nil ?_ | refine rn_seq ?_ | refine rn_plain ?_ | refine rn_block ?_ | refine rn_inBlock ?_ | refine rn_skip ?_ | refine rn_true rfl ?_ | refine rn_false rfl ?_ | refine rn_exit rfl ?_ | refine pl_not rfl rfl ?_))
      exact rn_ret Tryd.func9 (.inr (.inr (.inr (.inl ⟨_, _, _, _, _, _, rfl, rfl, blk_loadVar hT hb4 rfl, rfl, rfl⟩)))) ⟨by rw [e]; rfl, hk1.trB hk4 (by omega)⟩
end E
end Go.Proofs.YthidfgolcibcoacDoor
